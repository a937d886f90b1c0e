/- Keys: the first truth, clashes, broken rules, chains; the laws. -/
import Derived.Test.YtoocmgefoagfnaaKyYB
import Derived.KernelRfl
import Derived.Test.YtoocmgefoagfnaaKyYA
namespace Go.Proofs.Ytoocmgefoagfnaa
open Go.Ab
attribute [local irreducible] aggOk drwOK
set_option maxRecDepth 100000
set_option maxHeartbeats 4000000
set_option linter.unusedVariables false
set_option linter.unusedSimpArgs false
theorem call83g {F d T n e c n1 c1 n2 e2 c2 N : Nat} {a a1 a2 : Option Addr} {ru : Nat → Nat × Nat} {go mo : Nat → Nat} {bs bm : Nat} {f : Nat → Option SV} {rest : Mem}
    (h : ∀ R, callS (CL F (d + 6)) (.fn 83 [] []) [.ptr 900 bs 0, .sl 1001 a2 n2 c2] ([(900, .own bs 100 [.int .i64 (Int.ofNat T), .sl 1000 a n c, .sl 1002 a1 n1 c1, .mpv 901 bm]), (901, .mp bm cv f), (1000, roR a n e ru), (1001, roC a2 n2 e2 mo), (1002, .gr a1 n1 50 2 (fun z => cl (go z)))] ++ rest) (addL R N) 1002 fun w m' R' _ => R ≤ R' ∧ ∃ g D, RS ru n T (cm go mo n1) (n1 + n2) g D ∧ den w = .bool (decide (∀ i, i < n1 + n2 → g (ng (cm go mo n1 i)) = none)) ∧ WkM m' ([(900, .own bs 100 [.int .i64 (Int.ofNat T), .sl 1000 a n c, .sl 1002 a1 n1 c1, .mpv 901 bm]), (901, .mp bm cv (gm g)), (1000, roR a n e ru), (1001, roC a2 n2 e2 mo), (1002, .gr a1 n1 50 2 (fun z => cl (go z)))] ++ rest))
    (R2 : Nat) {args : List SV} {m : Mem} {R ni : Nat} {K : SV → Mem → Nat → Nat → Prop} (ha : dens args = dens [.ptr 900 bs 0, .sl 1001 a2 n2 c2]) (hw : WkM m ([(900, .own bs 100 [.int .i64 (Int.ofNat T), .sl 1000 a n c, .sl 1002 a1 n1 c1, .mpv 901 bm]), (901, .mp bm cv f), (1000, roR a n e ru), (1001, roC a2 n2 e2 mo), (1002, .gr a1 n1 50 2 (fun z => cl (go z)))] ++ rest)) (hN : R2 + N ≤ R)
    (hK : ∀ g D, RS ru n T (cm go mo n1) (n1 + n2) g D → K (.bool (decide (∀ i, i < n1 + n2 → g (ng (cm go mo n1 i)) = none))) ([(900, .own bs 100 [.int .i64 (Int.ofNat T), .sl 1000 a n c, .sl 1002 a1 n1 c1, .mpv 901 bm]), (901, .mp bm cv (gm g)), (1000, roR a n e ru), (1001, roC a2 n2 e2 mo), (1002, .gr a1 n1 50 2 (fun z => cl (go z)))] ++ rest) R2 ni) : callS (CL F (d + 6)) (.fn 83 [] []) args m R ni K := by
  refine callS.cast (fv' := .fn 83 [] []) rfl ha ?_
  refine callS.wk hw ?_
  have h1 := h (R - N)
  rw [addL_eq, Nat.sub_add_cancel (by omega)] at h1
  exact call_post h1 fun w m' R' n' ⟨hR, g, D, hS, e, hw1⟩ => ⟨.bool _, _, R2, ni, e, hw1, by omega, hK g D hS⟩
theorem agr_iff {ru : Nat → Nat × Nat} {n T n2 : Nat} {mo : Nat → Nat} {g : Nat → Option Nat} {D : Nat → Nat} (hS : RS ru n T mo n2 g D) : (∀ i, i < n2 → g (ng (mo i)) = none) ↔ ∀ i j, i < n2 → j < n2 → ¬ Rch ru n (mo i) (ng (mo j)) := by
  constructor
  · intro h i j hi hj hr2
    exact (hS.reach _).2 ⟨i, hi, hr2⟩ (h j hj)
  · intro h i hi
    cases hg : g (ng (mo i)) with
    | none => rfl
    | some z =>
      obtain ⟨j, hj, hr2⟩ := (hS.reach (ng (mo i))).1 (by rw [hg]; simp)
      exact absurd hr2 (h j i hj hi)
theorem c77g (F d : Nat) (T : Nat) (hF : 2 * T + 400 < F) (hT : T ≤ 24) (a : Option Addr) (n e c : Nat) (hn : n ≤ 80) (ru : Nat → Nat × Nat) (hr : ∀ j, j < n → (ru j).1 < 2 * T ∧ (ru j).2 < 2 * T) (a1 : Option Addr) (n1 c1 : Nat) (go : Nat → Nat) (hn1 : n1 ≤ 48) (hgo : ∀ j, j < n1 → go j < 2 * T) (a2 : Option Addr) (n2 e2 c2 : Nat) (mo : Nat → Nat) (hn2 : n2 ≤ 24) (h2z : n2 = 0 → a2 = none) (hmo : ∀ j, j < n2 → mo j < 2 * T) (bs bm : Nat) (f : Nat → Option SV) (B C : Nat) (hB : 200 * n + 400 ≤ B) (hC : C = B * (2 * T + 1) + 3000) (rest : Mem) (R : Nat) :
    callS (CL F (d + 8)) (.fn 77 [] []) [.ptr 900 bs 0, .sl 1001 a2 n2 c2] ([(900, .own bs 100 [.int .i64 (Int.ofNat T), .sl 1000 a n c, .sl 1002 a1 n1 c1, .mpv 901 bm]), (901, .mp bm cv f), (1000, roR a n e ru), (1001, roC a2 n2 e2 mo), (1002, .gr a1 n1 50 2 (fun z => cl (go z)))] ++ rest) (addL R ((2 * C + 100) * T + C + 6000)) 1002 fun w m' R' _ => R ≤ R' ∧ ∃ f' hb, (hb = true ↔ ∃ bits, bits < 2 ^ T ∧ okR ru n bits = true ∧ okG (cm go mo n1) (n1 + n2) bits = true) ∧ den w = .bool hb ∧ WkM m' ([(900, .own bs 100 [.int .i64 (Int.ofNat T), .sl 1000 a n c, .sl 1002 a1 n1 c1, .mpv 901 bm]), (901, .mp bm cv f'), (1000, roR a n e ru), (1001, roC a2 n2 e2 mo), (1002, .gr a1 n1 50 2 (fun z => cl (go z)))] ++ rest) := by
  have hmx : ∀ j, j < n1 + n2 → cm go mo n1 j < 2 * T := fun j hj => by unfold cm; split; exact hgo _ (by omega); exact hmo _ (by omega)
  rw [addL_eq, show R + ((2 * C + 100) * T + C + 6000) = (2 * C + 100) * T + C + 5900 + R + 100 by omega, ← addL_eq _ 100]
  refine callS.ni 3000 ?_
  refine call_in (n := 19) Try.func77 rfl rfl rfl rfl rfl rfl rfl ?_
  repeat' ((conv => whnf); first | refine eqS_rfl ?_ | refine eqA_rfl ?_ | refine eqA_of (by assumption) ?_ | refine eqS_of (by rfl) ?_ | refine eqL_rfl ?_ | refine eqJ_rfl ?_ | refine flE_intro (fun _ _ => rfl) ?_ | refine seS_rfl ?_ | refine lsS_of hup ?_ | refine lsS_rfl ?_ | refine brS_tt ?_ | refine brS_ff ?_ | refine brS_not ?_ | refine brS_t (iEq_self _) ?_ | refine brS_t (by assumption) ?_ | refine brS_f (by assumption) ?_ | refine brS_intro (fun _ => ?_) (fun _ => ?_) | refine ltS_intro (by first | assumption | decide | exact Nat.le_of_ble_eq_true rfl | omega) ?_ | refine ixS_of rfl (by first | assumption | decide | omega) ?_ | refine okS_intro (by first | assumption | kernel_rfl) ?_ | refine nzS_intro (by first | decide | assumption) ?_ | intro _)
  refine call83g (rest := rest) (c83g F (d + 1) T hF hT a n e c hn ru hr a1 n1 c1 go hn1 hgo a2 n2 e2 c2 mo hn2 h2z hmo bs bm f B hB _) (addL ((2 * C + 100) * T + 300 + R) 50) (by rfl) WV (by rw [hC] at *; (first | (simp only [addL_eq, addL_rec]; omega) | omega | exact Nat.le_refl _)) ?_
  intro g D hS
  have hag := agr_iff hS
  by_cases hA : ∀ i, i < n1 + n2 → g (ng (cm go mo n1 i)) = none
  · rw [decide_eq_true hA]
    repeat' ((conv => whnf); first | refine eqS_rfl ?_ | refine eqA_rfl ?_ | refine eqA_of (by assumption) ?_ | refine eqS_of (by rfl) ?_ | refine eqL_rfl ?_ | refine eqJ_rfl ?_ | refine flE_intro (fun _ _ => rfl) ?_ | refine seS_rfl ?_ | refine lsS_of hup ?_ | refine lsS_rfl ?_ | refine brS_tt ?_ | refine brS_ff ?_ | refine brS_not ?_ | refine brS_t (iEq_self _) ?_ | refine brS_t (by assumption) ?_ | refine brS_f (by assumption) ?_ | refine brS_intro (fun _ => ?_) (fun _ => ?_) | refine ltS_intro (by first | assumption | decide | exact Nat.le_of_ble_eq_true rfl | omega) ?_ | refine ixS_of rfl (by first | assumption | decide | omega) ?_ | refine okS_intro (by first | assumption | kernel_rfl) ?_ | refine nzS_intro (by first | decide | assumption) ?_ | intro _)
    refine call73 920 921 (G := .sl 1002 a1 n1 c1) (f := gm g) (rest := [(1001, roC a2 n2 e2 mo), (1002, .gr a1 n1 50 2 (fun z => cl (go z)))] ++ rest) (c73 F d T hF hT a n e c hn ru hr bs bm (.sl 1002 a1 n1 c1) (gm g) B C hB hC _) (addL R 60) (by rfl) WV (by (first | (simp only [addL_eq, addL_rec]; omega) | omega | exact Nat.le_refl _)) ?_ ?_
    · intro f' hp
      repeat' ((conv => whnf); first | refine eqS_rfl ?_ | refine eqA_rfl ?_ | refine eqA_of (by assumption) ?_ | refine eqS_of (by rfl) ?_ | refine eqL_rfl ?_ | refine eqJ_rfl ?_ | refine flE_intro (fun _ _ => rfl) ?_ | refine seS_rfl ?_ | refine lsS_of hup ?_ | refine lsS_rfl ?_ | refine brS_tt ?_ | refine brS_ff ?_ | refine brS_not ?_ | refine brS_t (iEq_self _) ?_ | refine brS_t (by assumption) ?_ | refine brS_f (by assumption) ?_ | refine brS_intro (fun _ => ?_) (fun _ => ?_) | refine ltS_intro (by first | assumption | decide | exact Nat.le_of_ble_eq_true rfl | omega) ?_ | refine ixS_of rfl (by first | assumption | decide | omega) ?_ | refine okS_intro (by first | assumption | kernel_rfl) ?_ | refine nzS_intro (by first | decide | assumption) ?_ | intro _)
      conv => whnf
      exact ⟨by (first | (simp only [addL_eq, addL_rec]; omega) | omega | exact Nat.le_refl _), f', true, ⟨fun _ => (sat_iff hr hmx).2 ⟨hp, hag.1 hA⟩, fun _ => rfl⟩, rfl, WV⟩
    · intro f' t p1 L1 c1 p2 L2 c2 ht hc1 hc2
      have hz : iEq (Int.ofNat L1) 0 = false := (iEq_n (a := L1) (b := 0)).trans (decide_eq_false (by have := hc1.pos; omega))
      repeat' ((conv => whnf); first | refine eqS_rfl ?_ | refine eqA_rfl ?_ | refine eqA_of (by assumption) ?_ | refine eqS_of (by rfl) ?_ | refine eqL_rfl ?_ | refine eqJ_rfl ?_ | refine flE_intro (fun _ _ => rfl) ?_ | refine seS_rfl ?_ | refine lsS_of hup ?_ | refine lsS_rfl ?_ | refine brS_tt ?_ | refine brS_ff ?_ | refine brS_not ?_ | refine brS_t (iEq_self _) ?_ | refine brS_t (by assumption) ?_ | refine brS_f (by assumption) ?_ | refine brS_intro (fun _ => ?_) (fun _ => ?_) | refine ltS_intro (by first | assumption | decide | exact Nat.le_of_ble_eq_true rfl | omega) ?_ | refine ixS_of rfl (by first | assumption | decide | omega) ?_ | refine okS_intro (by first | assumption | kernel_rfl) ?_ | refine nzS_intro (by first | decide | assumption) ?_ | intro _)
      conv => whnf
      exact ⟨by (first | (simp only [addL_eq, addL_rec]; omega) | omega | exact Nat.le_refl _), f', false, ⟨fun h => (by cases h), fun h => absurd ⟨hc1.rch, hc2.rch⟩ (poss_iff.1 ((sat_iff hr hmx).1 h).1 t ht)⟩, congrArg Value.bool hz, WV⟩
  · rw [decide_eq_false hA]
    repeat' ((conv => whnf); first | refine eqS_rfl ?_ | refine eqA_rfl ?_ | refine eqA_of (by assumption) ?_ | refine eqS_of (by rfl) ?_ | refine eqL_rfl ?_ | refine eqJ_rfl ?_ | refine flE_intro (fun _ _ => rfl) ?_ | refine seS_rfl ?_ | refine lsS_of hup ?_ | refine lsS_rfl ?_ | refine brS_tt ?_ | refine brS_ff ?_ | refine brS_not ?_ | refine brS_t (iEq_self _) ?_ | refine brS_t (by assumption) ?_ | refine brS_f (by assumption) ?_ | refine brS_intro (fun _ => ?_) (fun _ => ?_) | refine ltS_intro (by first | assumption | decide | exact Nat.le_of_ble_eq_true rfl | omega) ?_ | refine ixS_of rfl (by first | assumption | decide | omega) ?_ | refine okS_intro (by first | assumption | kernel_rfl) ?_ | refine nzS_intro (by first | decide | assumption) ?_ | intro _)
    conv => whnf
    exact ⟨by (first | (simp only [addL_eq, addL_rec]; omega) | omega | exact Nat.le_refl _), gm g, false, ⟨fun h => (by cases h), fun h => absurd (hag.2 ((sat_iff hr hmx).1 h).2) hA⟩, rfl, WV⟩
end Go.Proofs.Ytoocmgefoagfnaa
namespace Go.Proofs.Ytoocmgefoagfnaa
open Go.Ab
attribute [local irreducible] aggOk drwOK
set_option maxRecDepth 100000
set_option maxHeartbeats 4000000
set_option linter.unusedVariables false
set_option linter.unusedSimpArgs false
/-- what Clash answers for a valid book -/
def QC (i j T n : Nat) (ru : Nat → Nat × Nat) (w0 : SV) (mf : Mem) : Prop := (Poss ru n T ∧ w0 = .tup [.val (.slice none 0 0), .val (.slice none 0 0), i64 6] ∧ mf = []) ∨
  ∃ t p1 L1 c1 p2 L2 c2, t < T ∧ CH ru n T (2 * t) (2 * t + 1) L1 c1 ∧ CH ru n T (2 * t + 1) (2 * t) L2 c2 ∧ w0 = .tup [.sl i p1 L1 L1, .sl j p2 L2 L2, i64 0] ∧ mf = [(i, .gr p1 L1 50 2 (fun z => cl (c1 z))), (j, .gr p2 L2 50 2 (fun z => cl (c2 z)))]
theorem c32 (F d i j : Nat) (T : Nat) (hF : 2 * T + 400 < F) (hT : 1 ≤ T ∧ T ≤ 24) (a : Option Addr) (n e c : Nat) (hn : n ≤ 80) (ru : Nat → Nat × Nat) (hr : ∀ j, j < n → (ru j).1 < 2 * T ∧ (ru j).2 < 2 * T) (B C : Nat) (hB : 200 * n + 400 ≤ B) (hC : C = B * (2 * T + 1) + 3000) (R : Nat) :
    callS (CL F (d + 8)) (.fn 32 [] []) [bk T a n c] [(1000, roR a n e ru)] (addL R ((2 * C + 100) * T + 3000 + 100)) 0 fun w m' R' _ => (∃ w0 mf, QC i j T n ru w0 mf ∧ den w = den w0 ∧ WkM m' mf) ∧ R ≤ R' := by
  have k26 := c26 F (d + 5) T a n e c ru (by omega) hT hn hr
  rw [show (2 * C + 100) * T + 3000 + 100 = ((2 * C + 100) * T + 3000) + 100 from rfl, addL_eq, ← Nat.add_assoc, ← addL_eq _ 100, Nat.add_comm R ((2 * C + 100) * T + 3000)]
  refine call_in (n := 22) Try.func32 rfl rfl rfl rfl rfl rfl rfl ?_
  repeat' ((conv => whnf); first | refine eqS_rfl ?_ | refine eqA_rfl ?_ | refine eqA_of (by assumption) ?_ | refine eqS_of (by rfl) ?_ | refine eqL_rfl ?_ | refine eqJ_rfl ?_ | refine flE_intro (fun _ _ => rfl) ?_ | refine seS_rfl ?_ | refine lsS_of hup ?_ | refine lsS_rfl ?_ | refine brS_tt ?_ | refine brS_ff ?_ | refine brS_not ?_ | refine brS_t (iEq_self _) ?_ | refine brS_t (by assumption) ?_ | refine brS_f (by assumption) ?_ | refine brS_intro (fun _ => ?_) (fun _ => ?_) | refine ltS_intro (by first | assumption | decide | exact Nat.le_of_ble_eq_true rfl | omega) ?_ | refine ixS_of rfl (by first | assumption | decide | omega) ?_ | refine okS_intro (by first | assumption | kernel_rfl) ?_ | refine nzS_intro (by first | decide | assumption) ?_ | refine call_readL k26 (addL ((2 * C + 100) * T + 800 + R) 95) (by rfl) (by exact SeesM.cons 1000 (sees_ro (i := 1000) (by rfl)) (SeesM.nil _) (fun _ _ _ _ _ _ x hx => by cases hx)) (by (first | (simp only [addL_eq, addL_rec]; omega) | omega | exact Nat.le_refl _)) ?_ | refine call_in (n := 11) Try.func67 rfl rfl rfl rfl rfl rfl rfl ?_ | refine call_in (n := 8) Try.func89 rfl rfl rfl rfl rfl rfl rfl ?_ | intro _)
  rename_i b3 b2 bm bs
  conv => whnf
  refine call73 910 911 (G := .val (.slice none 0 0)) (f := fun _ => none) (rest := []) (c73 F d T hF hT.2 a n e c hn ru hr bs bm (.val (.slice none 0 0)) (fun _ => none) B C hB hC _) (addL (100 + R) 50) (by rfl) WV (by (first | (simp only [addL_eq, addL_rec]; omega) | omega | exact Nat.le_refl _)) ?_ ?_
  · intro f' hp
    repeat' ((conv => whnf); first | refine eqS_rfl ?_ | refine eqA_rfl ?_ | refine eqA_of (by assumption) ?_ | refine eqS_of (by rfl) ?_ | refine eqL_rfl ?_ | refine eqJ_rfl ?_ | refine flE_intro (fun _ _ => rfl) ?_ | refine seS_rfl ?_ | refine lsS_of hup ?_ | refine lsS_rfl ?_ | refine brS_tt ?_ | refine brS_ff ?_ | refine brS_not ?_ | refine brS_t (iEq_self _) ?_ | refine brS_t (by assumption) ?_ | refine brS_f (by assumption) ?_ | refine brS_intro (fun _ => ?_) (fun _ => ?_) | refine ltS_intro (by first | assumption | decide | exact Nat.le_of_ble_eq_true rfl | omega) ?_ | refine ixS_of rfl (by first | assumption | decide | omega) ?_ | refine okS_intro (by first | assumption | kernel_rfl) ?_ | refine nzS_intro (by first | decide | assumption) ?_ | intro _)
    conv => whnf
    exact ⟨⟨_, _, .inl ⟨hp, rfl, rfl⟩, rfl, WV⟩, by (first | (simp only [addL_eq, addL_rec]; omega) | omega | exact Nat.le_refl _)⟩
  · intro f' t p1 L1 c1 p2 L2 c2 ht hc1 hc2
    have hz : iEq (Int.ofNat L1) 0 = false := (iEq_n (a := L1) (b := 0)).trans (decide_eq_false (by have := hc1.pos; omega))
    repeat' ((conv => whnf); first | refine eqS_rfl ?_ | refine eqA_rfl ?_ | refine eqA_of (by assumption) ?_ | refine eqS_of (by rfl) ?_ | refine eqL_rfl ?_ | refine eqJ_rfl ?_ | refine flE_intro (fun _ _ => rfl) ?_ | refine seS_rfl ?_ | refine lsS_of hup ?_ | refine lsS_rfl ?_ | refine brS_tt ?_ | refine brS_ff ?_ | refine brS_not ?_ | refine brS_t (iEq_self _) ?_ | refine brS_t (by assumption) ?_ | refine brS_f (by assumption) ?_ | refine brS_intro (fun _ => ?_) (fun _ => ?_) | refine ltS_intro (by first | assumption | decide | exact Nat.le_of_ble_eq_true rfl | omega) ?_ | refine ixS_of rfl (by first | assumption | decide | omega) ?_ | refine okS_intro (by first | assumption | kernel_rfl) ?_ | refine nzS_intro (by first | decide | assumption) ?_ | intro _)
    conv => whnf
    exact ⟨⟨_, _, .inr ⟨t, p1, L1, c1, p2, L2, c2, ht, hc1, hc2, rfl, rfl⟩, rfl, WV⟩, by (first | (simp only [addL_eq, addL_rec]; omega) | omega | exact Nat.le_refl _)⟩
end Go.Proofs.Ytoocmgefoagfnaa
namespace Go.Proofs.Ytoocmgefoagfnaa
open Go.Ab
attribute [local irreducible] aggOk drwOK
set_option maxRecDepth 100000
set_option maxHeartbeats 4000000
set_option linter.unusedVariables false
set_option linter.unusedSimpArgs false
/-- what is given, and then what was found -/
def gt (n0 : Nat) (gv : Nat → Nat) (tv : Nat → Bool) (z : Nat) : Nat := if z < n0 then gv z else 2 * (z - n0) + if tv (z - n0) then 1 else 0
def Agr (ru : Nat → Nat × Nat) (n : Nat) (mo : Nat → Nat) (k : Nat) : Prop := ∀ i j, i < k → j < k → ¬ Rch ru n (mo i) (ng (mo j))
theorem ltS_11 {p s b : Nat} {K : Prop} (hs : s = 1) (h : p * 1 < b) (k : K) : ltS (Nat.mul p s) b K := by subst hs; exact ltS_intro h k
theorem call77g {F d T n e c n1 c1 n2 e2 c2 N : Nat} {a a1 a2 : Option Addr} {ru : Nat → Nat × Nat} {go mo : Nat → Nat} {bs bm : Nat} {f : Nat → Option SV} {rest : Mem} {P : Bool → Prop}
    (h : ∀ R, callS (CL F (d + 8)) (.fn 77 [] []) [.ptr 900 bs 0, .sl 1001 a2 n2 c2] ([(900, .own bs 100 [.int .i64 (Int.ofNat T), .sl 1000 a n c, .sl 1002 a1 n1 c1, .mpv 901 bm]), (901, .mp bm cv f), (1000, roR a n e ru), (1001, roC a2 n2 e2 mo), (1002, .gr a1 n1 50 2 (fun z => cl (go z)))] ++ rest) (addL R N) 1002 fun w m' R' _ => R ≤ R' ∧ ∃ f' hb, P hb ∧ den w = .bool hb ∧ WkM m' ([(900, .own bs 100 [.int .i64 (Int.ofNat T), .sl 1000 a n c, .sl 1002 a1 n1 c1, .mpv 901 bm]), (901, .mp bm cv f'), (1000, roR a n e ru), (1001, roC a2 n2 e2 mo), (1002, .gr a1 n1 50 2 (fun z => cl (go z)))] ++ rest))
    (R2 : Nat) {args : List SV} {m : Mem} {R ni : Nat} {K : SV → Mem → Nat → Nat → Prop} (ha : dens args = dens [.ptr 900 bs 0, .sl 1001 a2 n2 c2]) (hw : WkM m ([(900, .own bs 100 [.int .i64 (Int.ofNat T), .sl 1000 a n c, .sl 1002 a1 n1 c1, .mpv 901 bm]), (901, .mp bm cv f), (1000, roR a n e ru), (1001, roC a2 n2 e2 mo), (1002, .gr a1 n1 50 2 (fun z => cl (go z)))] ++ rest)) (hN : R2 + N ≤ R)
    (hK : ∀ f' hb, P hb → K (.bool hb) ([(900, .own bs 100 [.int .i64 (Int.ofNat T), .sl 1000 a n c, .sl 1002 a1 n1 c1, .mpv 901 bm]), (901, .mp bm cv f'), (1000, roR a n e ru), (1001, roC a2 n2 e2 mo), (1002, .gr a1 n1 50 2 (fun z => cl (go z)))] ++ rest) R2 ni) : callS (CL F (d + 8)) (.fn 77 [] []) args m R ni K := by
  refine callS.cast (fv' := .fn 77 [] []) rfl ha ?_
  refine callS.wk hw ?_
  have h1 := h (R - N)
  rw [addL_eq, Nat.sub_add_cancel (by omega)] at h1
  exact call_post h1 fun w m' R' n' ⟨hR, f', hb, hP, e, hw1⟩ => ⟨.bool hb, _, R2, ni, e, hw1, by omega, hK f' hb hP⟩
/-- what First answers for a valid book -/
def QF (i T : Nat) (P : Prop) (tv : Nat → Bool) (w0 : SV) (mf : Mem) : Prop := (¬ P ∧ w0 = .tup [.val (.slice none 0 0), i64 13] ∧ mf = []) ∨ (P ∧ ∃ a, w0 = .tup [.sl i a T T, i64 0] ∧ mf = [(i, .gr a T 4 1 (fun z => [.bool (tv z)]))])
theorem c18 (F d i0 : Nat) (T : Nat) (hF : 2 * T + 400 < F) (hT : 1 ≤ T ∧ T ≤ 24) (a : Option Addr) (n e c : Nat) (hn : n ≤ 80) (ru : Nat → Nat × Nat) (hr : ∀ j, j < n → (ru j).1 < 2 * T ∧ (ru j).2 < 2 * T) (ag : Option Addr) (n0 cg : Nat) (gv : Nat → Nat) (hn0 : n0 ≤ 24) (hp0 : 0 < n0) (hag : ag ≠ none) (hg0 : ∀ j, j < n0 → gv j < 2 * T) (tv : Nat → Bool) (htv : ∀ i, i < T → (tv i = true ↔ ¬ Agr ru n (cm (gt n0 gv tv) (fun _ => 2 * i) (n0 + i)) (n0 + i + 1))) (B C : Nat) (hB : 200 * n + 400 ≤ B) (hC : C = B * (2 * T + 1) + 3000) (R : Nat) :
    callS (CL F (d + 10)) (.fn 18 [] []) [bk T a n c, .sl 1001 ag n0 cg] [(1000, roR a n e ru), (1001, roC ag n0 51 gv)] (addL R (C * T + (2 * C + 100) * T + 2 * C + 200000 + 100)) 0 fun w m' R' _ => (∃ w0 mf, QF i0 T (∃ bits, bits < 2 ^ T ∧ okR ru n bits = true ∧ okG gv n0 bits = true) tv w0 mf ∧ den w = den w0 ∧ WkM m' mf) ∧ R ≤ R' := by
  have k26 := c26 F (d + 5) T a n e c ru (by omega) hT hn hr
  have k65 := c65 F (d + 6) T (.sl 1000 a n c) rfl ag n0 51 cg gv (by omega) (by omega) hg0
  have d24 : iLt 24 (Int.ofNat n0) = false := iLt_f (a := 24) (b := n0) hn0
  rw [show C * T + (2 * C + 100) * T + 2 * C + 200000 + 100 = (C * T + (2 * C + 100) * T + 2 * C + 200000) + 100 from rfl, addL_eq, ← Nat.add_assoc, ← addL_eq _ 100, Nat.add_comm R (C * T + (2 * C + 100) * T + 2 * C + 200000)]
  refine call_in (n := 50) Try.func18 rfl rfl rfl rfl rfl rfl rfl ?_
  repeat' ((conv => whnf); first | refine eqS_rfl ?_ | refine eqA_rfl ?_ | refine eqA_of (by assumption) ?_ | refine eqS_of (by rfl) ?_ | refine eqL_rfl ?_ | refine eqJ_rfl ?_ | refine flE_intro (fun _ _ => rfl) ?_ | refine seS_rfl ?_ | refine lsS_of hup ?_ | refine lsS_rfl ?_ | refine brS_tt ?_ | refine brS_ff ?_ | refine brS_not ?_ | refine brS_t (iEq_self _) ?_ | refine brS_t (by assumption) ?_ | refine brS_f (by assumption) ?_ | refine brS_intro (fun _ => ?_) (fun _ => ?_) | refine ltS_intro (by first | assumption | decide | exact Nat.le_of_ble_eq_true rfl | omega) ?_ | refine ixS_of rfl (by first | assumption | decide | omega) ?_ | refine okS_intro (by first | assumption | kernel_rfl) ?_ | refine nzS_intro (by first | decide | assumption) ?_ | refine call_readL k26 (addL (C * T + (2 * C + 100) * T + 2 * C + 195000 + R) 95) (by rfl) (by exact SeesM.cons 1000 (sees_ro (i := 1000) (by rfl)) (SeesM.nil _) (fun _ _ _ _ _ _ x hx => by cases hx)) (by (first | (simp only [addL_eq, addL_rec]; omega) | omega | exact Nat.le_refl _)) ?_ | refine call_readL k65 (addL (C * T + (2 * C + 100) * T + 2 * C + 190000 + R) 90) (by rfl) (by exact SeesM.cons 1001 (sees_ro (i := 1001) (by rfl)) (SeesM.nil _) (fun _ _ _ _ _ _ x hx => by cases hx)) (by (first | (simp only [addL_eq, addL_rec]; omega) | omega | exact Nat.le_refl _)) ?_ | refine call_in (n := 21) Try.func55 rfl rfl rfl rfl rfl rfl rfl ?_ | refine call_in (n := 18) Try.func78 rfl rfl rfl rfl rfl rfl rfl ?_ | refine call_in (n := 11) Try.func67 rfl rfl rfl rfl rfl rfl rfl ?_ | refine call_in (n := 8) Try.func89 rfl rfl rfl rfl rfl rfl rfl ?_ | refine nlS_intro (fun h => absurd h hag) (fun _ => ?_) | refine emS_p hp0 ?_ | refine orS_l ⟨hp0, Nat.le_refl _⟩ ?_ | refine ltS_12 (by kernel_rfl) (by first | omega | (simp only [Nat.add_eq, Nat.sub_eq, Nat.mul_eq, Nat.succ_eq_add_one]; omega)) ?_ | refine ltS_intro (by first | omega | (simp only [Nat.add_eq, Nat.sub_eq, Nat.mul_eq, Nat.succ_eq_add_one]; omega)) ?_ | refine flE_intro (fun _ _ => rfl) ?_ | intro _)
  rename_i b0 b1 b2 b3 bm xh by_ a1 bs
  conv => whnf
  refine call77g (rest := [(0, .own b0 24 [.int .i64 (Int.ofNat T), .sl 1000 a n c])]) (c77g F d T hF hT.2 a n e c hn ru hr a1 n0 n0 gv (by omega) hg0 none 0 0 0 (fun _ => 0) (by omega) (fun _ => rfl) (fun j hj => absurd hj (Nat.not_lt_zero _)) bs bm (fun _ => none) B C hB hC _) (addL (C * T + C + 170000 + R) 50) (by rfl) ((WkM.ro0 (i := 1001) (sz := 2) (f := fun _ => cl 0) rfl).trans WV) (by (first | (simp only [addL_eq, addL_rec]; omega) | omega | exact Nat.le_refl _)) ?_
  intro f' hb hP
  have hcm : ∀ bits, okG (cm gv (fun _ => 0) n0) (n0 + 0) bits = okG gv n0 bits := fun bits => by
    unfold okG
    rw [Bool.eq_iff_iff, List.all_eq_true, List.all_eq_true]
    refine forall_congr' fun j => ⟨fun h hj => ?_, fun h hj => ?_⟩
    · have := h hj; unfold cm at this; rw [if_pos (show j < n0 from List.mem_range.1 hj)] at this; exact this
    · unfold cm; rw [if_pos (show j < n0 from List.mem_range.1 hj)]; exact h hj
  have hP2 : hb = true ↔ ∃ bits, bits < 2 ^ T ∧ okR ru n bits = true ∧ okG gv n0 bits = true := hP.trans (exists_congr fun bits => by rw [hcm])
  have hCT : (B * (2 * T + 1) + 9000) * T = C * T + 6000 * T := by
    rw [show B * (2 * T + 1) + 9000 = C + 6000 by rw [hC], Nat.add_mul]
  cases hb with
  | false =>
    repeat' ((conv => whnf); first | refine eqS_rfl ?_ | refine eqA_rfl ?_ | refine eqA_of (by assumption) ?_ | refine eqS_of (by rfl) ?_ | refine eqL_rfl ?_ | refine eqJ_rfl ?_ | refine flE_intro (fun _ _ => rfl) ?_ | refine seS_rfl ?_ | refine lsS_of hup ?_ | refine lsS_rfl ?_ | refine brS_tt ?_ | refine brS_ff ?_ | refine brS_not ?_ | refine brS_t (iEq_self _) ?_ | refine brS_t (by assumption) ?_ | refine brS_f (by assumption) ?_ | refine brS_intro (fun _ => ?_) (fun _ => ?_) | refine ltS_intro (by first | assumption | decide | exact Nat.le_of_ble_eq_true rfl | omega) ?_ | refine ixS_of rfl (by first | assumption | decide | omega) ?_ | refine okS_intro (by first | assumption | kernel_rfl) ?_ | refine nzS_intro (by first | decide | assumption) ?_ | intro _)
    conv => whnf
    refine ⟨⟨_, _, .inl ⟨fun h => ?_, rfl, rfl⟩, rfl, WV⟩, by (first | (simp only [addL_eq, addL_rec]; omega) | omega | exact Nat.le_refl _)⟩
    have := hP2.2 h
    cases this
  | true =>
    repeat' ((conv => whnf); first | refine eqS_rfl ?_ | refine eqA_rfl ?_ | refine eqA_of (by assumption) ?_ | refine eqS_of (by rfl) ?_ | refine eqL_rfl ?_ | refine eqJ_rfl ?_ | refine flE_intro (fun _ _ => rfl) ?_ | refine seS_rfl ?_ | refine lsS_of hup ?_ | refine lsS_rfl ?_ | refine brS_tt ?_ | refine brS_ff ?_ | refine brS_not ?_ | refine brS_t (iEq_self _) ?_ | refine brS_t (by assumption) ?_ | refine brS_f (by assumption) ?_ | refine brS_intro (fun _ => ?_) (fun _ => ?_) | refine ltS_intro (by first | assumption | decide | exact Nat.le_of_ble_eq_true rfl | omega) ?_ | refine ixS_of rfl (by first | assumption | decide | omega) ?_ | refine okS_intro (by first | assumption | kernel_rfl) ?_ | refine nzS_intro (by first | decide | assumption) ?_ | refine ltS_11 (by kernel_rfl) (by omega) ?_ | intro _)
    rename_i b4
    conv => whnf
    refine loS_i (fun jj ff mm R' ni => ∃ (i : Nat) (a1 : Option Addr) (f1 : Nat → Option SV), i ≤ T ∧ jj = T - i + 1 ∧ ff = [(2, .ptr 0 b0 0), (6, .ptr 900 bs 0), (8, .sl 700 (some ⟨b4, 0, none⟩) T T), (23, .int .i64 (Int.ofNat T)), (24, .int .i64 (Int.ofNat i))] ∧ mm = [(700, .gr (some ⟨b4, 0, none⟩) T 4 1 (fun z => [.bool (z < i && tv z)])), (0, .own b0 24 [.int .i64 (Int.ofNat T), .sl 1000 a n c])] ++ [(900, .own bs 100 [.int .i64 (Int.ofNat T), .sl 1000 a n c, .sl 1002 a1 (n0 + i) (n0 + i), .mpv 901 bm]), (901, .mp bm cv f1), (1000, roR a n e ru), (1002, .gr a1 (n0 + i) 50 2 (fun z => cl (gt n0 gv tv z)))] ∧ R' = addL ((B * (2 * T + 1) + 9000) * (T - i) + R) 60 ∧ ni = 5000) (T + 1) (by omega)
      ⟨[(2, .ptr 0 b0 0), (6, .ptr 900 bs 0), (8, .sl 700 (some ⟨b4, 0, none⟩) T T), (23, .int .i64 (Int.ofNat T)), (24, .int .i64 (Int.ofNat 0))], [(700, .gr (some ⟨b4, 0, none⟩) T 4 1 (fun z => [.bool (z < 0 && tv z)])), (0, .own b0 24 [.int .i64 (Int.ofNat T), .sl 1000 a n c])] ++ [(900, .own bs 100 [.int .i64 (Int.ofNat T), .sl 1000 a n c, .sl 1002 a1 (n0 + 0) (n0 + 0), .mpv 901 bm]), (901, .mp bm cv f'), (1000, roR a n e ru), (1002, .gr a1 (n0 + 0) 50 2 (fun z => cl (gt n0 gv tv z)))], addL ((B * (2 * T + 1) + 9000) * (T - 0) + R) 60, 5000, ⟨eqF_rfl _, ⟨rfl, rfl⟩, ⟨rfl, rfl⟩, eqF_rfl _, eqF_rfl _, trivial⟩, ?_, ?_, 0, a1, f', by omega, by omega, rfl, rfl, rfl, rfl⟩ ?_
    · have hz0 : ∀ j, j < T → (fun _ : Nat => ofVs (vcells (Value.bool false))) j = [SV.bool (decide (j < 0) && tv j)] := fun j hj => by rw [decide_eq_false (Nat.not_lt_zero j)]; rfl
      have hz1 : ∀ j, j < n0 + 0 → cl (gv j) = cl (gt n0 gv tv j) := fun j hj => by unfold gt; rw [if_pos (show j < n0 from hj)]
      exact WV
    · rw [Nat.sub_zero, hCT]; (first | (simp only [addL_eq, addL_rec]; omega) | omega | exact Nat.le_refl _)
    rintro _ _ _ _ _ ⟨i, a1, f1, hi, rfl, rfl, rfl, rfl, rfl⟩
    by_cases hlt : i < T
    · have h1 := iLt_t hlt
      have hbT : (B * (2 * T + 1) + 9000) * (T - i) = (B * (2 * T + 1) + 9000) * (T - (i + 1)) + (B * (2 * T + 1) + 9000) := by rw [← Nat.mul_succ]; congr 1; omega
      have hgo : ∀ j, j < n0 + i → gt n0 gv tv j < 2 * T := fun j hj => by
        unfold gt
        split
        · exact hg0 _ (by omega)
        · split <;> omega
      repeat' ((conv => whnf); first | refine eqS_rfl ?_ | refine eqA_rfl ?_ | refine eqA_of (by assumption) ?_ | refine eqS_of (by rfl) ?_ | refine eqL_rfl ?_ | refine eqJ_rfl ?_ | refine flE_intro (fun _ _ => rfl) ?_ | refine seS_rfl ?_ | refine lsS_of hup ?_ | refine lsS_rfl ?_ | refine brS_tt ?_ | refine brS_ff ?_ | refine brS_not ?_ | refine brS_t (iEq_self _) ?_ | refine brS_t (by assumption) ?_ | refine brS_f (by assumption) ?_ | refine brS_intro (fun _ => ?_) (fun _ => ?_) | refine ltS_intro (by first | assumption | decide | exact Nat.le_of_ble_eq_true rfl | omega) ?_ | refine ixS_of rfl (by first | assumption | decide | omega) ?_ | refine okS_intro (by first | assumption | kernel_rfl) ?_ | refine nzS_intro (by first | decide | assumption) ?_ | refine ltS_intro (by have := lt_of_iLt ‹iLt (Int.ofNat _) (Int.ofNat _) = true›; omega) ?_ | refine ixS_of rfl (by have := lt_of_iLt ‹iLt (Int.ofNat _) (Int.ofNat _) = true›; omega) ?_ | refine call_in (n := 11) Try.func56 rfl rfl rfl rfl rfl rfl rfl ?_ | intro _)
      rename_i b5
      have hsl : slL (fun z => cl ((fun _ => 2 * i) z)) 1 = dens [.int .i64 (Int.ofNat i), .bool false] := by
        show dens [.int .i64 (Int.ofNat (2 * i / 2)), .bool (2 * i % 2 == 1)] = _
        rw [show 2 * i / 2 = i by omega, show 2 * i % 2 = 0 by omega]; rfl
      conv => whnf
      refine call83g (F := F) (d := d + 2) (T := T) (a1 := a1) (n1 := n0 + i) (c1 := n0 + i) (go := gt n0 gv tv) (a2 := some ⟨b5, 0, none⟩) (n2 := 1) (e2 := 0) (c2 := 1) (mo := fun _ => 2 * i) (f := f1) (rest := [(700, .gr (some ⟨b4, 0, none⟩) T 4 1 (fun z => [.bool (z < i && tv z)])), (0, .own b0 24 [.int .i64 (Int.ofNat T), .sl 1000 a n c])]) (c83g F (d + 2) T hF hT.2 a n e c hn ru hr a1 (n0 + i) (n0 + i) (gt n0 gv tv) (by omega) hgo (some ⟨b5, 0, none⟩) 1 0 1 (fun _ => 2 * i) (by omega) (fun h => absurd h (by omega)) (fun j hj => by omega) bs bm f1 B hB _) (addL ((B * (2 * T + 1) + 9000) * (T - (i + 1)) + 200 + R) 60) (by rfl) WO (by (first | (simp only [addL_eq, addL_rec]; omega) | omega | exact Nat.le_refl _)) ?_
      intro g D hS
      have hd : decide (∀ q, q < n0 + i + 1 → g (ng (cm (gt n0 gv tv) (fun _ => 2 * i) (n0 + i) q)) = none) = !tv i := by
        have h2 := agr_iff hS
        have h3 := htv i hlt
        cases htq : tv i with
        | true => exact decide_eq_false fun h => h3.1 htq (h2.1 h)
        | false => exact decide_eq_true (h2.2 (Classical.byContradiction fun h => by have := h3.2 h; rw [htq] at this; cases this))
      rw [hd]
      cases htq : tv i
      all_goals
        have hup : updG i [SV.bool (!!tv i)] (fun z => [SV.bool (decide (z < i) && tv z)]) i = [SV.bool (tv i)] := by rw [updG_same, Bool.not_not]
        have hA : ∀ j, j < T → updG i [SV.bool (!!tv i)] (fun z => [SV.bool (decide (z < i) && tv z)]) j = [SV.bool (decide (j < i + 1) && tv j)] := fun j hj => by
          by_cases e : j = i
          · rw [e, updG_same, Bool.not_not, decide_eq_true (Nat.lt_succ_self i)]; rfl
          · rw [updG_other e, show decide (j < i) = decide (j < i + 1) from decide_eq_decide.2 (by omega)]
        have hG : ∀ j, j < n0 + i + 1 → grow (n0 + i) 2 (fun z => cl (gt n0 gv tv z)) [.int .i64 (Int.ofNat i), .bool (!!tv i)] j = cl (gt n0 gv tv j) := growE rfl (by
          show cl (gt n0 gv tv (n0 + i)) = _
          unfold gt
          rw [if_neg (by omega), show n0 + i - n0 = i by omega, Bool.not_not]
          cases tv i
          · show [SV.int .i64 (Int.ofNat ((2 * i + 0) / 2)), SV.bool ((2 * i + 0) % 2 == 1)] = _
            rw [show (2 * i + 0) / 2 = i by omega, show (2 * i + 0) % 2 = 0 by omega]; rfl
          · show [SV.int .i64 (Int.ofNat ((2 * i + 1) / 2)), SV.bool ((2 * i + 1) % 2 == 1)] = _
            rw [show (2 * i + 1) / 2 = i by omega, show (2 * i + 1) % 2 = 1 by omega]; rfl)
        rw [htq] at hup hA hG
        repeat' ((conv => whnf); first | refine eqS_rfl ?_ | refine eqA_rfl ?_ | refine eqA_of (by assumption) ?_ | refine eqS_of (by rfl) ?_ | refine eqL_rfl ?_ | refine eqJ_rfl ?_ | refine flE_intro (fun _ _ => rfl) ?_ | refine seS_rfl ?_ | refine lsS_of hup ?_ | refine lsS_rfl ?_ | refine brS_tt ?_ | refine brS_ff ?_ | refine brS_not ?_ | refine brS_t (iEq_self _) ?_ | refine brS_t (by assumption) ?_ | refine brS_f (by assumption) ?_ | refine brS_intro (fun _ => ?_) (fun _ => ?_) | refine ltS_intro (by first | assumption | decide | exact Nat.le_of_ble_eq_true rfl | omega) ?_ | refine ixS_of rfl (by first | assumption | decide | omega) ?_ | refine okS_intro (by first | assumption | kernel_rfl) ?_ | refine nzS_intro (by first | decide | assumption) ?_ | refine ltS_intro (by have := lt_of_iLt ‹iLt (Int.ofNat _) (Int.ofNat _) = true›; omega) ?_ | refine ixS_of rfl (by have := lt_of_iLt ‹iLt (Int.ofNat _) (Int.ofNat _) = true›; omega) ?_ | refine ltS_intro (show (n0 + i) * 2 + 2 < 32769 by omega) ?_ | rw [updG_same] | intro _)
        rename_i a9
        conv => whnf
        exact ⟨T - (i + 1) + 1, [(2, .ptr 0 b0 0), (6, .ptr 900 bs 0), (8, .sl 700 (some ⟨b4, 0, none⟩) T T), (23, .int .i64 (Int.ofNat T)), (24, .int .i64 (Int.ofNat (i + 1)))], [(700, .gr (some ⟨b4, 0, none⟩) T 4 1 (fun z => [.bool (z < (i + 1) && tv z)])), (0, .own b0 24 [.int .i64 (Int.ofNat T), .sl 1000 a n c])] ++ [(900, .own bs 100 [.int .i64 (Int.ofNat T), .sl 1000 a n c, .sl 1002 a9 (n0 + (i + 1)) (n0 + (i + 1)), .mpv 901 bm]), (901, .mp bm cv (gm g)), (1000, roR a n e ru), (1002, .gr a9 (n0 + (i + 1)) 50 2 (fun z => cl (gt n0 gv tv z)))], addL ((B * (2 * T + 1) + 9000) * (T - (i + 1)) + R) 60, 5000, by omega, ⟨eqF_rfl _, eqF_rfl _, eqF_rfl _, eqF_rfl _, ⟨congrArg (Value.int .i64) (smn (i := i + 1) (by omega)), rfl⟩, trivial⟩, WV, by (first | (simp only [addL_eq, addL_rec]; omega) | omega | exact Nat.le_refl _), i + 1, a9, gm g, by omega, rfl, rfl, rfl, rfl, rfl⟩
    · have e2 : i = T := by omega
      subst e2
      have h1 := iLt_f (Nat.le_refl i)
      have hZ : ∀ j, j < i → [SV.bool (decide (j < i) && tv j)] = [SV.bool (tv j)] := fun j hj => by rw [decide_eq_true hj]; rfl
      repeat' ((conv => whnf); first | refine eqS_rfl ?_ | refine eqA_rfl ?_ | refine eqA_of (by assumption) ?_ | refine eqS_of (by rfl) ?_ | refine eqL_rfl ?_ | refine eqJ_rfl ?_ | refine flE_intro (fun _ _ => rfl) ?_ | refine seS_rfl ?_ | refine lsS_of hup ?_ | refine lsS_rfl ?_ | refine brS_tt ?_ | refine brS_ff ?_ | refine brS_not ?_ | refine brS_t (iEq_self _) ?_ | refine brS_t (by assumption) ?_ | refine brS_f (by assumption) ?_ | refine brS_intro (fun _ => ?_) (fun _ => ?_) | refine ltS_intro (by first | assumption | decide | exact Nat.le_of_ble_eq_true rfl | omega) ?_ | refine ixS_of rfl (by first | assumption | decide | omega) ?_ | refine okS_intro (by first | assumption | kernel_rfl) ?_ | refine nzS_intro (by first | decide | assumption) ?_ | intro _)
      conv => whnf
      exact ⟨⟨_, _, .inr ⟨hP2.1 rfl, _, rfl, rfl⟩, rfl, WV⟩, by (first | (simp only [addL_eq, addL_rec]; omega) | omega | exact Nat.le_refl _)⟩
end Go.Proofs.Ytoocmgefoagfnaa
namespace Go.Proofs.Ytoocmgefoagfnaa
open Go.Ab
attribute [local irreducible] aggOk drwOK
set_option maxRecDepth 100000
set_option maxHeartbeats 4000000
set_option linter.unusedVariables false
set_option linter.unusedSimpArgs false
theorem c88 (F d : Nat) (T x : Nat) (av : Option Addr) (cT : Nat) (vt : Nat → Bool) (hx : x < 2 * T) : ReadC (CL F (d + 1)) 88 [cv x, .sl 1001 av T cT] [(1001, .ro av T 5 1 fun z => [.bool (vt z)])] 20 (.bool (vt (x / 2) == (x % 2 == 1))) := by
  have hx2 : x / 2 < T := by omega
  intro R
  refine call_in (n := 13) Try.func88 rfl rfl rfl rfl rfl rfl rfl ?_
  repeat' ((conv => whnf); first | refine eqS_rfl ?_ | refine eqA_rfl ?_ | refine eqA_of (by assumption) ?_ | refine eqS_of (by rfl) ?_ | refine eqL_rfl ?_ | refine eqJ_rfl ?_ | refine flE_intro (fun _ _ => rfl) ?_ | refine seS_rfl ?_ | refine lsS_of hup ?_ | refine lsS_rfl ?_ | refine brS_tt ?_ | refine brS_ff ?_ | refine brS_not ?_ | refine brS_t (iEq_self _) ?_ | refine brS_t (by assumption) ?_ | refine brS_f (by assumption) ?_ | refine brS_intro (fun _ => ?_) (fun _ => ?_) | refine ltS_intro (by first | assumption | decide | exact Nat.le_of_ble_eq_true rfl | omega) ?_ | refine ixS_of rfl (by first | assumption | decide | omega) ?_ | refine okS_intro (by first | assumption | kernel_rfl) ?_ | refine nzS_intro (by first | decide | assumption) ?_ | refine ixS_of rfl hx2 ?_ | intro _)
  conv => whnf
  exact ⟨rfl, by (first | (simp only [addL_eq, addL_rec]; omega) | omega | exact Nat.le_refl _)⟩
/-- whether a case is true with values -/
def trV (vt : Nat → Bool) (x : Nat) : Bool := vt (x / 2) == (x % 2 == 1)
theorem c87 (F d c2 : Nat) (hF : 200 < F) (T : Nat) (a : Option Addr) (n e c : Nat) (hn : n ≤ 80) (ru : Nat → Nat × Nat) (hr : ∀ j, j < n → (ru j).1 < 2 * T ∧ (ru j).2 < 2 * T) (av : Option Addr) (cT : Nat) (vt : Nat → Bool) (hv : ∀ j, j < n → trV vt (ru j).1 = true ∨ trV vt (ru j).2 = true) (bb bv : Nat) : IterC (CL F (d + 1)) (CL F (d + 2)) (.fn 87 [] [.ptr 902 bb 0, .ptr 901 bv 0]) [(902, .own bb 24 [.int .i64 (Int.ofNat T), .sl 1000 a n c]), (1000, roR a n e ru), (901, .own bv 26 [.sl 1001 av T cT]), (1001, .ro av T 5 1 fun z => [.bool (vt z)])] (100 * n + 100) c2 0 (fun _ => []) := by
  intro i b I Q hr0 m hI R
  rw [addL_eq, ← Nat.add_assoc, ← addL_eq _ 100, Nat.add_comm R]
  refine call_in (n := 33) Try.func87 rfl rfl rfl rfl rfl rfl rfl ?_
  repeat' ((conv => whnf); first | refine eqS_rfl ?_ | refine eqA_rfl ?_ | refine eqA_of (by assumption) ?_ | refine eqS_of (by rfl) ?_ | refine eqL_rfl ?_ | refine eqJ_rfl ?_ | refine flE_intro (fun _ _ => rfl) ?_ | refine seS_rfl ?_ | refine lsS_of hup ?_ | refine lsS_rfl ?_ | refine brS_tt ?_ | refine brS_ff ?_ | refine brS_not ?_ | refine brS_t (iEq_self _) ?_ | refine brS_t (by assumption) ?_ | refine brS_f (by assumption) ?_ | refine brS_intro (fun _ => ?_) (fun _ => ?_) | refine ltS_intro (by first | assumption | decide | exact Nat.le_of_ble_eq_true rfl | omega) ?_ | refine ixS_of rfl (by first | assumption | decide | omega) ?_ | refine okS_intro (by first | assumption | kernel_rfl) ?_ | refine nzS_intro (by first | decide | assumption) ?_ | intro _)
  conv => whnf
  refine loS_i (fun jj f mm R' ni => ∃ j : Nat, j ≤ n ∧ jj = n - j + 1 ∧ f = [(0, .yf i b), (2, .ptr 901 bv 0), (9, .sl 1000 a n c), (10, .int .i64 (Int.ofNat n)), (11, .int .i64 (Int.ofNat j))] ∧ mm = [(902, .own bb 24 [.int .i64 (Int.ofNat T), .sl 1000 a n c]), (1000, roR a n e ru), (901, .own bv 26 [.sl 1001 av T cT]), (1001, .ro av T 5 1 fun z => [.bool (vt z)])] ++ m ∧ R' = addL (100 * (n - j) + R) 80 ∧ ni = 500) (n + 1) (by omega)
    ⟨[(0, .yf i b), (2, .ptr 901 bv 0), (9, .sl 1000 a n c), (10, .int .i64 (Int.ofNat n)), (11, .int .i64 (Int.ofNat 0))], [(902, .own bb 24 [.int .i64 (Int.ofNat T), .sl 1000 a n c]), (1000, roR a n e ru), (901, .own bv 26 [.sl 1001 av T cT]), (1001, .ro av T 5 1 fun z => [.bool (vt z)])] ++ m, addL (100 * (n - 0) + R) 80, 500, ⟨eqF_rfl _, eqF_rfl _, eqF_rfl _, eqF_rfl _, eqF_rfl _, trivial⟩, WS, by (first | (simp only [addL_eq, addL_rec]; omega) | omega | exact Nat.le_refl _), 0, by omega, by omega, rfl, rfl, rfl, rfl⟩ ?_
  rintro _ _ _ _ _ ⟨j, hj, rfl, rfl, rfl, rfl, rfl⟩
  by_cases hlt : j < n
  · have h1 := iLt_t hlt
    have hb : 100 * (n - j) = 100 * (n - (j + 1)) + 100 := by omega
    have k1 := c88 F d T (ru j).1 av cT vt (hr j hlt).1
    have k2 := c88 F d T (ru j).2 av cT vt (hr j hlt).2
    cases ht : (vt ((ru j).1 / 2) == ((ru j).1 % 2 == 1)) with
    | true =>
      rw [ht] at k1
      repeat' ((conv => whnf); first | refine eqS_rfl ?_ | refine eqA_rfl ?_ | refine eqA_of (by assumption) ?_ | refine eqS_of (by rfl) ?_ | refine eqL_rfl ?_ | refine eqJ_rfl ?_ | refine flE_intro (fun _ _ => rfl) ?_ | refine seS_rfl ?_ | refine lsS_of hup ?_ | refine lsS_rfl ?_ | refine brS_tt ?_ | refine brS_ff ?_ | refine brS_not ?_ | refine brS_t (iEq_self _) ?_ | refine brS_t (by assumption) ?_ | refine brS_f (by assumption) ?_ | refine brS_intro (fun _ => ?_) (fun _ => ?_) | refine ltS_intro (by first | assumption | decide | exact Nat.le_of_ble_eq_true rfl | omega) ?_ | refine ixS_of rfl (by first | assumption | decide | omega) ?_ | refine okS_intro (by first | assumption | kernel_rfl) ?_ | refine nzS_intro (by first | decide | assumption) ?_ | refine ltS_intro (by have := lt_of_iLt ‹iLt (Int.ofNat _) (Int.ofNat _) = true›; omega) ?_ | refine ixS_of rfl (by have := lt_of_iLt ‹iLt (Int.ofNat _) (Int.ofNat _) = true›; omega) ?_ | refine call_readL k1 (addL (100 * (n - (j + 1)) + R) 130) (by rfl) (by exact SeesM.cons 1001 (sees_ro (i := 1001) (by rfl)) (SeesM.nil _) (fun _ _ _ _ _ _ x hx => by cases hx)) (by (first | (simp only [addL_eq, addL_rec]; omega) | omega | exact Nat.le_refl _)) ?_ | refine call_readL k2 (addL (100 * (n - (j + 1)) + R) 90) (by rfl) (by exact SeesM.cons 1001 (sees_ro (i := 1001) (by rfl)) (SeesM.nil _) (fun _ _ _ _ _ _ x hx => by cases hx)) (by (first | (simp only [addL_eq, addL_rec]; omega) | omega | exact Nat.le_refl _)) ?_ | refine loS_u 3 (by omega) ?_ | intro _)
      conv => whnf
      exact ⟨n - (j + 1) + 1, [(0, .yf i b), (2, .ptr 901 bv 0), (9, .sl 1000 a n c), (10, .int .i64 (Int.ofNat n)), (11, .int .i64 (Int.ofNat (j + 1)))], [(902, .own bb 24 [.int .i64 (Int.ofNat T), .sl 1000 a n c]), (1000, roR a n e ru), (901, .own bv 26 [.sl 1001 av T cT]), (1001, .ro av T 5 1 fun z => [.bool (vt z)])] ++ m, addL (100 * (n - (j + 1)) + R) 80, 500, by omega, ⟨eqF_rfl _, eqF_rfl _, eqF_rfl _, eqF_rfl _, ⟨congrArg (Value.int .i64) (smn (i := j + 1) (by omega)), rfl⟩, trivial⟩, WS, by (first | (simp only [addL_eq, addL_rec]; omega) | omega | exact Nat.le_refl _), j + 1, by omega, rfl, rfl, rfl, rfl, rfl⟩
    | false =>
      have ht2 : (vt ((ru j).2 / 2) == ((ru j).2 % 2 == 1)) = true := (hv j hlt).resolve_left fun h => by unfold trV at h; rw [ht] at h; cases h
      rw [ht] at k1
      rw [ht2] at k2
      repeat' ((conv => whnf); first | refine eqS_rfl ?_ | refine eqA_rfl ?_ | refine eqA_of (by assumption) ?_ | refine eqS_of (by rfl) ?_ | refine eqL_rfl ?_ | refine eqJ_rfl ?_ | refine flE_intro (fun _ _ => rfl) ?_ | refine seS_rfl ?_ | refine lsS_of hup ?_ | refine lsS_rfl ?_ | refine brS_tt ?_ | refine brS_ff ?_ | refine brS_not ?_ | refine brS_t (iEq_self _) ?_ | refine brS_t (by assumption) ?_ | refine brS_f (by assumption) ?_ | refine brS_intro (fun _ => ?_) (fun _ => ?_) | refine ltS_intro (by first | assumption | decide | exact Nat.le_of_ble_eq_true rfl | omega) ?_ | refine ixS_of rfl (by first | assumption | decide | omega) ?_ | refine okS_intro (by first | assumption | kernel_rfl) ?_ | refine nzS_intro (by first | decide | assumption) ?_ | refine ltS_intro (by have := lt_of_iLt ‹iLt (Int.ofNat _) (Int.ofNat _) = true›; omega) ?_ | refine ixS_of rfl (by have := lt_of_iLt ‹iLt (Int.ofNat _) (Int.ofNat _) = true›; omega) ?_ | refine call_readL k1 (addL (100 * (n - (j + 1)) + R) 130) (by rfl) (by exact SeesM.cons 1001 (sees_ro (i := 1001) (by rfl)) (SeesM.nil _) (fun _ _ _ _ _ _ x hx => by cases hx)) (by (first | (simp only [addL_eq, addL_rec]; omega) | omega | exact Nat.le_refl _)) ?_ | refine call_readL k2 (addL (100 * (n - (j + 1)) + R) 90) (by rfl) (by exact SeesM.cons 1001 (sees_ro (i := 1001) (by rfl)) (SeesM.nil _) (fun _ _ _ _ _ _ x hx => by cases hx)) (by (first | (simp only [addL_eq, addL_rec]; omega) | omega | exact Nat.le_refl _)) ?_ | refine loS_u 3 (by omega) ?_ | intro _)
      conv => whnf
      exact ⟨n - (j + 1) + 1, [(0, .yf i b), (2, .ptr 901 bv 0), (9, .sl 1000 a n c), (10, .int .i64 (Int.ofNat n)), (11, .int .i64 (Int.ofNat (j + 1)))], [(902, .own bb 24 [.int .i64 (Int.ofNat T), .sl 1000 a n c]), (1000, roR a n e ru), (901, .own bv 26 [.sl 1001 av T cT]), (1001, .ro av T 5 1 fun z => [.bool (vt z)])] ++ m, addL (100 * (n - (j + 1)) + R) 80, 500, by omega, ⟨eqF_rfl _, eqF_rfl _, eqF_rfl _, eqF_rfl _, ⟨congrArg (Value.int .i64) (smn (i := j + 1) (by omega)), rfl⟩, trivial⟩, WS, by (first | (simp only [addL_eq, addL_rec]; omega) | omega | exact Nat.le_refl _), j + 1, by omega, rfl, rfl, rfl, rfl, rfl⟩
  · have e2 : j = n := by omega
    subst e2
    have h1 := iLt_f (Nat.le_refl j)
    repeat' ((conv => whnf); first | refine eqS_rfl ?_ | refine eqA_rfl ?_ | refine eqA_of (by assumption) ?_ | refine eqS_of (by rfl) ?_ | refine eqL_rfl ?_ | refine eqJ_rfl ?_ | refine flE_intro (fun _ _ => rfl) ?_ | refine seS_rfl ?_ | refine lsS_of hup ?_ | refine lsS_rfl ?_ | refine brS_tt ?_ | refine brS_ff ?_ | refine brS_not ?_ | refine brS_t (iEq_self _) ?_ | refine brS_t (by assumption) ?_ | refine brS_f (by assumption) ?_ | refine brS_intro (fun _ => ?_) (fun _ => ?_) | refine ltS_intro (by first | assumption | decide | exact Nat.le_of_ble_eq_true rfl | omega) ?_ | refine ixS_of rfl (by first | assumption | decide | omega) ?_ | refine okS_intro (by first | assumption | kernel_rfl) ?_ | refine nzS_intro (by first | decide | assumption) ?_ | intro _)
    conv => whnf
    exact ⟨by (first | (simp only [addL_eq, addL_rec]; omega) | omega | exact Nat.le_refl _), m, by repeat' (first | exact WkM.comm [(902, _), (1000, _), (901, _), (1001, _)] _ | refine WkM.drop ?_), .inl hI⟩
end Go.Proofs.Ytoocmgefoagfnaa
namespace Go.Proofs.Ytoocmgefoagfnaa
open Go.Ab
attribute [local irreducible] aggOk drwOK
set_option maxRecDepth 100000
set_option maxHeartbeats 4000000
set_option linter.unusedVariables false
set_option linter.unusedSimpArgs false
theorem c22 (F d : Nat) (hF : 200 < F) (T : Nat) (hT : 1 ≤ T ∧ T ≤ 24) (a : Option Addr) (n e c : Nat) (hn : n ≤ 80) (ru : Nat → Nat × Nat) (hr : ∀ j, j < n → (ru j).1 < 2 * T ∧ (ru j).2 < 2 * T) (av : Option Addr) (cT : Nat) (vt : Nat → Bool) (hv : ∀ j, j < n → trV vt (ru j).1 = true ∨ trV vt (ru j).2 = true) : ReadC (CL F (d + 5)) 22 [bk T a n c, .sl 1001 av T cT] [(1000, roR a n e ru), (1001, .ro av T 5 1 fun z => [.bool (vt z)])] (12000 + 200) (.tup [.val (.slice none 0 0), i64 0]) := by
  have k26 := c26 F (d + 2) T a n e c ru (by omega) hT hn hr
  intro R
  rw [show 12000 + 200 = (12000) + 200 from rfl, addL_eq, ← Nat.add_assoc, ← addL_eq _ 200, Nat.add_comm R (12000)]
  refine call_in (n := 21) Try.func22 rfl rfl rfl rfl rfl rfl rfl ?_
  repeat' ((conv => whnf); first | refine eqS_rfl ?_ | refine eqA_rfl ?_ | refine eqA_of (by assumption) ?_ | refine eqS_of (by rfl) ?_ | refine eqL_rfl ?_ | refine eqJ_rfl ?_ | refine flE_intro (fun _ _ => rfl) ?_ | refine seS_rfl ?_ | refine lsS_of hup ?_ | refine lsS_rfl ?_ | refine brS_tt ?_ | refine brS_ff ?_ | refine brS_not ?_ | refine brS_t (iEq_self _) ?_ | refine brS_t (by assumption) ?_ | refine brS_f (by assumption) ?_ | refine brS_intro (fun _ => ?_) (fun _ => ?_) | refine ltS_intro (by first | assumption | decide | exact Nat.le_of_ble_eq_true rfl | omega) ?_ | refine ixS_of rfl (by first | assumption | decide | omega) ?_ | refine okS_intro (by first | assumption | kernel_rfl) ?_ | refine nzS_intro (by first | decide | assumption) ?_ | refine call_readL k26 (addL (9800 + R) 95) (by rfl) (by exact SeesM.cons 1000 (sees_ro (i := 1000) (by rfl)) (SeesM.nil _) (fun _ _ _ _ _ _ x hx => by cases hx)) (by (first | (simp only [addL_eq, addL_rec]; omega) | omega | exact Nat.le_refl _)) ?_ | refine call_in (n := 6) Try.func63 rfl rfl rfl rfl rfl rfl rfl ?_ | refine call_in (n := 5) Try.func62 rfl rfl rfl rfl rfl rfl rfl ?_ | refine call_in (n := 13) Try.func86 rfl rfl rfl rfl rfl rfl rfl ?_ | intro _)
  rename_i b0 bb bv bs b1 b2
  refine call_iter (c87 F d 20 hF T a n e c hn ru hr av cT vt hv bb bv) (fun k m => m = [(4, lopF Try.f86 0 b2 .ready none 13 [(2, .ptr 3 bs 0)] b1), (dfN, .dfr [b1]), (3, .own bs 38 [.val (.slice none 0 0)])]) (fun _ => False) [(4, lopF Try.f86 0 b2 .ready none 13 [(2, .ptr 3 bs 0)] b1), (dfN, .dfr [b1]), (3, .own bs 38 [.val (.slice none 0 0)])] (addL R 50) (by rfl) (by exact (WkM.lop (i := 4) (j := 4) (f' := [(2, .ptr 3 bs 0)]) ⟨eqF_rfl _, trivial⟩ (WkM.refl _)).trans WS) rfl ?_ (by (first | (simp only [addL_eq, addL_rec]; omega) | omega | exact Nat.le_refl _)) ?_
  · intro k hk
    exact absurd hk (Nat.not_lt_zero _)
  · rintro _ _ (rfl | h)
    · skip
      repeat' ((conv => whnf); first | refine eqS_rfl ?_ | refine eqA_rfl ?_ | refine eqA_of (by assumption) ?_ | refine eqS_of (by rfl) ?_ | refine eqL_rfl ?_ | refine eqJ_rfl ?_ | refine flE_intro (fun _ _ => rfl) ?_ | refine seS_rfl ?_ | refine lsS_of hup ?_ | refine lsS_rfl ?_ | refine brS_tt ?_ | refine brS_ff ?_ | refine brS_not ?_ | refine brS_t (iEq_self _) ?_ | refine brS_t (by assumption) ?_ | refine brS_f (by assumption) ?_ | refine brS_intro (fun _ => ?_) (fun _ => ?_) | refine ltS_intro (by first | assumption | decide | exact Nat.le_of_ble_eq_true rfl | omega) ?_ | refine ixS_of rfl (by first | assumption | decide | omega) ?_ | refine okS_intro (by first | assumption | kernel_rfl) ?_ | refine nzS_intro (by first | decide | assumption) ?_ | intro _)
      conv => whnf
      exact ⟨rfl, by (first | (simp only [addL_eq, addL_rec]; omega) | omega | exact Nat.le_refl _)⟩
    · exact h.elim
end Go.Proofs.Ytoocmgefoagfnaa
namespace Go.Proofs.Ytoocmgefoagfnaa
open Go.Ab
attribute [local irreducible] aggOk drwOK
set_option maxRecDepth 100000
set_option maxHeartbeats 4000000
set_option linter.unusedVariables false
set_option linter.unusedSimpArgs false
/-- values compared thing by thing: which come before others, among the last r things -/
def bfr (a b T : Nat) : Nat → Bool
  | 0 => false
  | r + 1 => if tb a (T - (r + 1)) = tb b (T - (r + 1)) then bfr a b T r else tb b (T - (r + 1))
/-- the last r things as a number, the first of them foremost -/
def rvn (a T : Nat) : Nat → Nat
  | 0 => 0
  | r + 1 => (if tb a (T - (r + 1)) then 2 ^ r else 0) + rvn a T r
theorem rvn_lt (a T : Nat) : ∀ r, rvn a T r < 2 ^ r
  | 0 => by simp [rvn]
  | r + 1 => by
    have := rvn_lt a T r
    have e : 2 ^ (r + 1) = 2 ^ r + 2 ^ r := by rw [Nat.pow_succ]; omega
    unfold rvn
    split <;> omega
theorem bfr_iff (a b T : Nat) : ∀ r, bfr a b T r = decide (rvn a T r < rvn b T r)
  | 0 => by simp [bfr, rvn]
  | r + 1 => by
    have ih := bfr_iff a b T r
    have h1 := rvn_lt a T r
    have h2 := rvn_lt b T r
    unfold bfr rvn
    cases ha : tb a (T - (r + 1)) <;> cases hb : tb b (T - (r + 1))
    · rw [if_pos rfl, ih]; refine decide_eq_decide.2 ?_; simp
    · rw [if_neg (by decide)]; refine (decide_eq_true ?_).symm; simp; omega
    · rw [if_neg (by decide)]; refine (decide_eq_false ?_).symm; simp; omega
    · rw [if_pos rfl, ih]; refine decide_eq_decide.2 ?_; simp
theorem rvn_eq {a b T : Nat} (h : ∀ i, i < T → (∀ j, j < i → tb a j = tb b j) → tb a i = tb b i) : ∀ t, t < T → tb a t = tb b t := by
  intro t
  induction t using Nat.strongRecOn with
  | ind t ih => exact fun ht => h t ht fun j hj => ih j hj (by omega)
/-- what is not greater has no thing that is so where the other one has one that is not, and all before are the same -/
theorem rvn_le {a b T : Nat} (h : rvn a T T ≤ rvn b T T) : ∀ i, i < T → (∀ j, j < i → tb a j = tb b j) → tb b i = false → tb a i = false := by
  have key : ∀ r, r ≤ T → ∀ k, k ≤ r → rvn a T r ≤ rvn b T r → (∀ j, T - r ≤ j → j < T - r + k → tb a j = tb b j) → rvn a T (r - k) ≤ rvn b T (r - k) := by
    intro r hr k
    induction k with
    | zero => intro _ h _; exact h
    | succ k ih =>
      intro hk h1 h2
      have h3 := ih (by omega) h1 fun j g1 g2 => h2 j g1 (by omega)
      obtain ⟨q, hq⟩ : ∃ q, q = r - (k + 1) := ⟨_, rfl⟩
      rw [show r - k = q + 1 by omega] at h3
      have h4 := h2 (T - (q + 1)) (by omega) (by omega)
      unfold rvn at h3
      rw [h4] at h3
      rw [← hq]
      omega
  intro i hi h1 h2
  have h3 := key T (Nat.le_refl _) i (by omega) h fun j _ g2 => h1 j (by omega)
  obtain ⟨q, hq⟩ : ∃ q, T - i = q + 1 := ⟨T - i - 1, by omega⟩
  rw [hq] at h3
  have e : T - (q + 1) = i := by omega
  have h4 := rvn_lt b T q
  unfold rvn at h3
  rw [e, h2] at h3
  cases ha : tb a i with
  | false => rfl
  | true =>
    rw [ha, if_pos rfl, if_neg (by decide)] at h3
    omega
theorem bfr_skip {x y T : Nat} : ∀ j, j ≤ T → (∀ t, t < j → tb x t = tb y t) → bfr x y T T = bfr x y T (T - j)
  | 0, _, _ => rfl
  | j + 1, hj, h => by
    rw [bfr_skip j (by omega) fun t ht => h t (by omega)]
    obtain ⟨q, hq⟩ : ∃ q, q = T - (j + 1) := ⟨_, rfl⟩
    rw [show T - j = q + 1 by omega, ← hq]
    show (if _ then _ else _) = _
    rw [if_pos (by rw [show T - (q + 1) = j by omega]; exact h j (by omega))]
theorem bfr_at {x y T j : Nat} (hj : j < T) (h : ∀ t, t < j → tb x t = tb y t) (h2 : tb x j ≠ tb y j) : bfr x y T T = tb y j := by
  rw [bfr_skip j (by omega) h]
  obtain ⟨q, hq⟩ : ∃ q, T - j = q + 1 := ⟨T - j - 1, by omega⟩
  rw [hq]
  show (if _ then _ else _) = _
  rw [show T - (q + 1) = j by omega, if_neg h2]
theorem bit_eq (x j : Nat) (hx : x < 2 ^ 60) (hj : j ≤ 60) : andI .i64 (shrV .i64 (Int.ofNat x) j) 1 = Int.ofNat (x / 2 ^ j % 2) := by
  rw [shr_nat x j (by omega), and_1 (x / 2 ^ j) (by have := Nat.div_le_self x (2 ^ j); omega)]
theorem tb_nat (x j : Nat) : tb x j = decide (x / 2 ^ j % 2 = 1) := by unfold tb; rw [Bool.eq_iff_iff]; simp
theorem c44 (F d : Nat) (hF : 200 < F) (x y T : Nat) (hT : T ≤ 24) (hx : x < 2 ^ 60) (hy : y < 2 ^ 60) : ReadC (CL F (d + 1)) 44 [.int .i64 (Int.ofNat x), .int .i64 (Int.ofNat y), .int .i64 (Int.ofNat T)] [] (1000 + 100) (.bool (bfr x y T T)) := by
  intro R
  rw [show 1000 + 100 = (1000) + 100 from rfl, addL_eq, ← Nat.add_assoc, ← addL_eq _ 100, Nat.add_comm R (1000)]
  refine call_in (n := 27) Try.func44 rfl rfl rfl rfl rfl rfl rfl ?_
  repeat' ((conv => whnf); first | refine eqS_rfl ?_ | refine eqA_rfl ?_ | refine eqA_of (by assumption) ?_ | refine eqS_of (by rfl) ?_ | refine eqL_rfl ?_ | refine eqJ_rfl ?_ | refine flE_intro (fun _ _ => rfl) ?_ | refine seS_rfl ?_ | refine lsS_of hup ?_ | refine lsS_rfl ?_ | refine brS_tt ?_ | refine brS_ff ?_ | refine brS_not ?_ | refine brS_t (iEq_self _) ?_ | refine brS_t (by assumption) ?_ | refine brS_f (by assumption) ?_ | refine brS_intro (fun _ => ?_) (fun _ => ?_) | refine ltS_intro (by first | assumption | decide | exact Nat.le_of_ble_eq_true rfl | omega) ?_ | refine ixS_of rfl (by first | assumption | decide | omega) ?_ | refine okS_intro (by first | assumption | kernel_rfl) ?_ | refine nzS_intro (by first | decide | assumption) ?_ | intro _)
  conv => whnf
  refine loS_i (fun jj f mm R' ni => ∃ j : Nat, j ≤ T ∧ jj = T - j + 1 ∧ (∀ t, t < j → tb x t = tb y t) ∧ f = [(0, .int .i64 (Int.ofNat x)), (1, .int .i64 (Int.ofNat y)), (2, .int .i64 (Int.ofNat T)), (7, .int .i64 (Int.ofNat j))] ∧ mm = [] ∧ R' = addL (30 * (T - j) + R) 40 ∧ ni = 0) (T + 1) (by omega)
    ⟨[(0, .int .i64 (Int.ofNat x)), (1, .int .i64 (Int.ofNat y)), (2, .int .i64 (Int.ofNat T)), (7, .int .i64 (Int.ofNat 0))], [], addL (30 * (T - 0) + R) 40, 0, ⟨eqF_rfl _, eqF_rfl _, eqF_rfl _, eqF_rfl _, trivial⟩, WkM.refl _, by (first | (simp only [addL_eq, addL_rec]; omega) | omega | exact Nat.le_refl _), 0, by omega, by omega, fun t ht => absurd ht (Nat.not_lt_zero _), rfl, rfl, rfl, rfl⟩ ?_
  rintro _ _ _ _ _ ⟨j, hj, rfl, hok, rfl, rfl, rfl, rfl⟩
  by_cases hlt : j < T
  · have h1 := iLt_t hlt
    have b1 := bit_eq x j hx (by omega)
    have b2 := bit_eq y j hy (by omega)
    have b3 : iEq (andI .i64 (shrV .i64 (Int.ofNat y) j) 1) 1 = tb y j := by rw [b2, show (1 : Int) = Int.ofNat 1 from rfl, iEq_n, tb_nat]
    by_cases ht : tb x j = tb y j
    · have hq : iEq (andI .i64 (shrV .i64 (Int.ofNat x) j) 1) (andI .i64 (shrV .i64 (Int.ofNat y) j) 1) = true := by
        rw [b1, b2, iEq_n]
        rw [tb_nat, tb_nat] at ht
        refine decide_eq_true ?_
        have := decide_eq_decide.1 ht
        omega
      repeat' ((conv => whnf); first | refine eqS_rfl ?_ | refine eqA_rfl ?_ | refine eqA_of (by assumption) ?_ | refine eqS_of (by rfl) ?_ | refine eqL_rfl ?_ | refine eqJ_rfl ?_ | refine flE_intro (fun _ _ => rfl) ?_ | refine seS_rfl ?_ | refine lsS_of hup ?_ | refine lsS_rfl ?_ | refine brS_tt ?_ | refine brS_ff ?_ | refine brS_not ?_ | refine brS_t (iEq_self _) ?_ | refine brS_t (by assumption) ?_ | refine brS_f (by assumption) ?_ | refine brS_intro (fun _ => ?_) (fun _ => ?_) | refine ltS_intro (by first | assumption | decide | exact Nat.le_of_ble_eq_true rfl | omega) ?_ | refine ixS_of rfl (by first | assumption | decide | omega) ?_ | refine okS_intro (by first | assumption | kernel_rfl) ?_ | refine nzS_intro (by first | decide | assumption) ?_ | intro _)
      conv => whnf
      refine ⟨T - (j + 1) + 1, [(0, .int .i64 (Int.ofNat x)), (1, .int .i64 (Int.ofNat y)), (2, .int .i64 (Int.ofNat T)), (7, .int .i64 (Int.ofNat (j + 1)))], [], addL (30 * (T - (j + 1)) + R) 40, 0, by omega, ⟨eqF_rfl _, eqF_rfl _, eqF_rfl _, ⟨congrArg (Value.int .i64) (smn (i := j + 1) (by omega)), rfl⟩, trivial⟩, WS, by (first | (simp only [addL_eq, addL_rec]; omega) | omega | exact Nat.le_refl _), j + 1, by omega, rfl, fun t h => ?_, rfl, rfl, rfl, rfl⟩
      by_cases e : t = j
      · rw [e]; exact ht
      · exact hok t (by omega)
    · have hq : iEq (andI .i64 (shrV .i64 (Int.ofNat x) j) 1) (andI .i64 (shrV .i64 (Int.ofNat y) j) 1) = false := by
        rw [b1, b2, iEq_n]
        rw [tb_nat, tb_nat] at ht
        refine decide_eq_false fun h => ht ?_
        rw [h]
      repeat' ((conv => whnf); first | refine eqS_rfl ?_ | refine eqA_rfl ?_ | refine eqA_of (by assumption) ?_ | refine eqS_of (by rfl) ?_ | refine eqL_rfl ?_ | refine eqJ_rfl ?_ | refine flE_intro (fun _ _ => rfl) ?_ | refine seS_rfl ?_ | refine lsS_of hup ?_ | refine lsS_rfl ?_ | refine brS_tt ?_ | refine brS_ff ?_ | refine brS_not ?_ | refine brS_t (iEq_self _) ?_ | refine brS_t (by assumption) ?_ | refine brS_f (by assumption) ?_ | refine brS_intro (fun _ => ?_) (fun _ => ?_) | refine ltS_intro (by first | assumption | decide | exact Nat.le_of_ble_eq_true rfl | omega) ?_ | refine ixS_of rfl (by first | assumption | decide | omega) ?_ | refine okS_intro (by first | assumption | kernel_rfl) ?_ | refine nzS_intro (by first | decide | assumption) ?_ | intro _)
      conv => whnf
      exact ⟨congrArg Value.bool (b3.trans (bfr_at hlt hok ht).symm), by (first | (simp only [addL_eq, addL_rec]; omega) | omega | exact Nat.le_refl _)⟩
  · have e2 : j = T := by omega
    subst e2
    have h1 := iLt_f (Nat.le_refl j)
    repeat' ((conv => whnf); first | refine eqS_rfl ?_ | refine eqA_rfl ?_ | refine eqA_of (by assumption) ?_ | refine eqS_of (by rfl) ?_ | refine eqL_rfl ?_ | refine eqJ_rfl ?_ | refine flE_intro (fun _ _ => rfl) ?_ | refine seS_rfl ?_ | refine lsS_of hup ?_ | refine lsS_rfl ?_ | refine brS_tt ?_ | refine brS_ff ?_ | refine brS_not ?_ | refine brS_t (iEq_self _) ?_ | refine brS_t (by assumption) ?_ | refine brS_f (by assumption) ?_ | refine brS_intro (fun _ => ?_) (fun _ => ?_) | refine ltS_intro (by first | assumption | decide | exact Nat.le_of_ble_eq_true rfl | omega) ?_ | refine ixS_of rfl (by first | assumption | decide | omega) ?_ | refine okS_intro (by first | assumption | kernel_rfl) ?_ | refine nzS_intro (by first | decide | assumption) ?_ | intro _)
    conv => whnf
    exact ⟨congrArg Value.bool (by rw [bfr_skip j (Nat.le_refl _) hok, Nat.sub_self]; rfl), by (first | (simp only [addL_eq, addL_rec]; omega) | omega | exact Nat.le_refl _)⟩
end Go.Proofs.Ytoocmgefoagfnaa
namespace Go.Proofs.Ytoocmgefoagfnaa
open Go.Ab
attribute [local irreducible] aggOk drwOK
set_option maxRecDepth 100000
set_option maxHeartbeats 4000000
set_option linter.unusedVariables false
set_option linter.unusedSimpArgs false
theorem c18z (F d i0 : Nat) (T : Nat) (hF : 2 * T + 400 < F) (hT : 1 ≤ T ∧ T ≤ 24) (a : Option Addr) (n e c : Nat) (hn : n ≤ 80) (ru : Nat → Nat × Nat) (hr : ∀ j, j < n → (ru j).1 < 2 * T ∧ (ru j).2 < 2 * T) (gv : Nat → Nat) (tv : Nat → Bool) (htv : ∀ i, i < T → (tv i = true ↔ ¬ Agr ru n (cm (gt 0 gv tv) (fun _ => 2 * i) (0 + i)) (0 + i + 1))) (B C : Nat) (hB : 200 * n + 400 ≤ B) (hC : C = B * (2 * T + 1) + 3000) (R : Nat) :
    callS (CL F (d + 10)) (.fn 18 [] []) [bk T a n c, .sl 1001 none 0 0] [(1000, roR a n e ru), (1001, roC none 0 51 gv)] (addL R (C * T + (2 * C + 100) * T + 2 * C + 200000 + 100)) 0 fun w m' R' _ => (∃ w0 mf, QF i0 T (∃ bits, bits < 2 ^ T ∧ okR ru n bits = true ∧ okG gv 0 bits = true) tv w0 mf ∧ den w = den w0 ∧ WkM m' mf) ∧ R ≤ R' := by
  have k26 := c26 F (d + 5) T a n e c ru (by omega) hT hn hr
  have k65 := c65 F (d + 6) T (.sl 1000 a n c) rfl none 0 51 0 gv (by omega) (by omega) (fun j hj => absurd hj (Nat.not_lt_zero _))
  have d24 : iLt 24 (Int.ofNat 0) = false := iLt_f (a := 24) (b := 0) (by omega)
  rw [show C * T + (2 * C + 100) * T + 2 * C + 200000 + 100 = (C * T + (2 * C + 100) * T + 2 * C + 200000) + 100 from rfl, addL_eq, ← Nat.add_assoc, ← addL_eq _ 100, Nat.add_comm R (C * T + (2 * C + 100) * T + 2 * C + 200000)]
  refine call_in (n := 50) Try.func18 rfl rfl rfl rfl rfl rfl rfl ?_
  repeat' ((conv => whnf); first | refine eqS_rfl ?_ | refine eqA_rfl ?_ | refine eqA_of (by assumption) ?_ | refine eqS_of (by rfl) ?_ | refine eqL_rfl ?_ | refine eqJ_rfl ?_ | refine flE_intro (fun _ _ => rfl) ?_ | refine seS_rfl ?_ | refine lsS_of hup ?_ | refine lsS_rfl ?_ | refine brS_tt ?_ | refine brS_ff ?_ | refine brS_not ?_ | refine brS_t (iEq_self _) ?_ | refine brS_t (by assumption) ?_ | refine brS_f (by assumption) ?_ | refine brS_intro (fun _ => ?_) (fun _ => ?_) | refine ltS_intro (by first | assumption | decide | exact Nat.le_of_ble_eq_true rfl | omega) ?_ | refine ixS_of rfl (by first | assumption | decide | omega) ?_ | refine okS_intro (by first | assumption | kernel_rfl) ?_ | refine nzS_intro (by first | decide | assumption) ?_ | refine call_readL k26 (addL (C * T + (2 * C + 100) * T + 2 * C + 195000 + R) 95) (by rfl) (by exact SeesM.cons 1000 (sees_ro (i := 1000) (by rfl)) (SeesM.nil _) (fun _ _ _ _ _ _ x hx => by cases hx)) (by (first | (simp only [addL_eq, addL_rec]; omega) | omega | exact Nat.le_refl _)) ?_ | refine call_readL k65 (addL (C * T + (2 * C + 100) * T + 2 * C + 190000 + R) 90) (by rfl) (by exact SeesM.cons 1001 (sees_ro (i := 1001) (by rfl)) (SeesM.nil _) (fun _ _ _ _ _ _ x hx => by cases hx)) (by (first | (simp only [addL_eq, addL_rec]; omega) | omega | exact Nat.le_refl _)) ?_ | refine call_in (n := 21) Try.func55 rfl rfl rfl rfl rfl rfl rfl ?_ | refine call_in (n := 18) Try.func78 rfl rfl rfl rfl rfl rfl rfl ?_ | refine call_in (n := 11) Try.func67 rfl rfl rfl rfl rfl rfl rfl ?_ | refine call_in (n := 8) Try.func89 rfl rfl rfl rfl rfl rfl rfl ?_ | refine nlS_intro (fun _ => ?_) (fun h => absurd rfl h) | refine emS_p hp0 ?_ | refine orS_l ⟨hp0, Nat.le_refl _⟩ ?_ | refine ltS_12 (by kernel_rfl) (by first | omega | (simp only [Nat.add_eq, Nat.sub_eq, Nat.mul_eq, Nat.succ_eq_add_one]; omega)) ?_ | refine ltS_intro (by first | omega | (simp only [Nat.add_eq, Nat.sub_eq, Nat.mul_eq, Nat.succ_eq_add_one]; omega)) ?_ | refine flE_intro (fun _ _ => rfl) ?_ | intro _)
  rename_i b0 b1 b2 b3 bm xh bs
  conv => whnf
  refine call77g (rest := [(0, .own b0 24 [.int .i64 (Int.ofNat T), .sl 1000 a n c])]) (c77g F d T hF hT.2 a n e c hn ru hr none 0 0 gv (by omega) (fun j hj => absurd hj (Nat.not_lt_zero _)) none 0 0 0 (fun _ => 0) (by omega) (fun _ => rfl) (fun j hj => absurd hj (Nat.not_lt_zero _)) bs bm (fun _ => none) B C hB hC _) (addL (C * T + C + 170000 + R) 50) (by rfl) (((WkM.ro0 (i := 1001) (sz := 2) (f := fun _ => cl 0) rfl).trans (WkM.gr0 (i := 1002) (e := 50) (sz := 2) (f := fun z => cl (gv z)) (WkM.refl _))).trans WV) (by (first | (simp only [addL_eq, addL_rec]; omega) | omega | exact Nat.le_refl _)) ?_
  intro f' hb hP
  have hcm : ∀ bits, okG (cm gv (fun _ => 0) 0) (0 + 0) bits = okG gv 0 bits := fun bits => by
    unfold okG
    rw [Bool.eq_iff_iff, List.all_eq_true, List.all_eq_true]
    refine forall_congr' fun j => ⟨fun h hj => ?_, fun h hj => ?_⟩
    · have := h hj; unfold cm at this; rw [if_pos (show j < 0 from List.mem_range.1 hj)] at this; exact this
    · unfold cm; rw [if_pos (show j < 0 from List.mem_range.1 hj)]; exact h hj
  have hP2 : hb = true ↔ ∃ bits, bits < 2 ^ T ∧ okR ru n bits = true ∧ okG gv 0 bits = true := hP.trans (exists_congr fun bits => by rw [hcm])
  have hCT : (B * (2 * T + 1) + 9000) * T = C * T + 6000 * T := by
    rw [show B * (2 * T + 1) + 9000 = C + 6000 by rw [hC], Nat.add_mul]
  cases hb with
  | false =>
    repeat' ((conv => whnf); first | refine eqS_rfl ?_ | refine eqA_rfl ?_ | refine eqA_of (by assumption) ?_ | refine eqS_of (by rfl) ?_ | refine eqL_rfl ?_ | refine eqJ_rfl ?_ | refine flE_intro (fun _ _ => rfl) ?_ | refine seS_rfl ?_ | refine lsS_of hup ?_ | refine lsS_rfl ?_ | refine brS_tt ?_ | refine brS_ff ?_ | refine brS_not ?_ | refine brS_t (iEq_self _) ?_ | refine brS_t (by assumption) ?_ | refine brS_f (by assumption) ?_ | refine brS_intro (fun _ => ?_) (fun _ => ?_) | refine ltS_intro (by first | assumption | decide | exact Nat.le_of_ble_eq_true rfl | omega) ?_ | refine ixS_of rfl (by first | assumption | decide | omega) ?_ | refine okS_intro (by first | assumption | kernel_rfl) ?_ | refine nzS_intro (by first | decide | assumption) ?_ | intro _)
    conv => whnf
    refine ⟨⟨_, _, .inl ⟨fun h => ?_, rfl, rfl⟩, rfl, WV⟩, by (first | (simp only [addL_eq, addL_rec]; omega) | omega | exact Nat.le_refl _)⟩
    have := hP2.2 h
    cases this
  | true =>
    repeat' ((conv => whnf); first | refine eqS_rfl ?_ | refine eqA_rfl ?_ | refine eqA_of (by assumption) ?_ | refine eqS_of (by rfl) ?_ | refine eqL_rfl ?_ | refine eqJ_rfl ?_ | refine flE_intro (fun _ _ => rfl) ?_ | refine seS_rfl ?_ | refine lsS_of hup ?_ | refine lsS_rfl ?_ | refine brS_tt ?_ | refine brS_ff ?_ | refine brS_not ?_ | refine brS_t (iEq_self _) ?_ | refine brS_t (by assumption) ?_ | refine brS_f (by assumption) ?_ | refine brS_intro (fun _ => ?_) (fun _ => ?_) | refine ltS_intro (by first | assumption | decide | exact Nat.le_of_ble_eq_true rfl | omega) ?_ | refine ixS_of rfl (by first | assumption | decide | omega) ?_ | refine okS_intro (by first | assumption | kernel_rfl) ?_ | refine nzS_intro (by first | decide | assumption) ?_ | refine ltS_11 (by kernel_rfl) (by omega) ?_ | intro _)
    rename_i b4
    conv => whnf
    refine loS_i (fun jj ff mm R' ni => ∃ (i : Nat) (a1 : Option Addr) (f1 : Nat → Option SV), i ≤ T ∧ jj = T - i + 1 ∧ ff = [(2, .ptr 0 b0 0), (6, .ptr 900 bs 0), (8, .sl 700 (some ⟨b4, 0, none⟩) T T), (23, .int .i64 (Int.ofNat T)), (24, .int .i64 (Int.ofNat i))] ∧ mm = [(700, .gr (some ⟨b4, 0, none⟩) T 4 1 (fun z => [.bool (z < i && tv z)])), (0, .own b0 24 [.int .i64 (Int.ofNat T), .sl 1000 a n c])] ++ [(900, .own bs 100 [.int .i64 (Int.ofNat T), .sl 1000 a n c, .sl 1002 a1 (0 + i) (0 + i), .mpv 901 bm]), (901, .mp bm cv f1), (1000, roR a n e ru), (1002, .gr a1 (0 + i) 50 2 (fun z => cl (gt 0 gv tv z)))] ∧ R' = addL ((B * (2 * T + 1) + 9000) * (T - i) + R) 60 ∧ ni = 5000) (T + 1) (by omega)
      ⟨[(2, .ptr 0 b0 0), (6, .ptr 900 bs 0), (8, .sl 700 (some ⟨b4, 0, none⟩) T T), (23, .int .i64 (Int.ofNat T)), (24, .int .i64 (Int.ofNat 0))], [(700, .gr (some ⟨b4, 0, none⟩) T 4 1 (fun z => [.bool (z < 0 && tv z)])), (0, .own b0 24 [.int .i64 (Int.ofNat T), .sl 1000 a n c])] ++ [(900, .own bs 100 [.int .i64 (Int.ofNat T), .sl 1000 a n c, .sl 1002 none (0 + 0) (0 + 0), .mpv 901 bm]), (901, .mp bm cv f'), (1000, roR a n e ru), (1002, .gr none (0 + 0) 50 2 (fun z => cl (gt 0 gv tv z)))], addL ((B * (2 * T + 1) + 9000) * (T - 0) + R) 60, 5000, ⟨eqF_rfl _, ⟨rfl, rfl⟩, ⟨rfl, rfl⟩, eqF_rfl _, eqF_rfl _, trivial⟩, ?_, ?_, 0, none, f', by omega, by omega, rfl, rfl, rfl, rfl⟩ ?_
    · have hz0 : ∀ j, j < T → (fun _ : Nat => ofVs (vcells (Value.bool false))) j = [SV.bool (decide (j < 0) && tv j)] := fun j hj => by rw [decide_eq_false (Nat.not_lt_zero j)]; rfl
      have hz1 : ∀ j, j < 0 + 0 → cl (gv j) = cl (gt 0 gv tv j) := fun j hj => by unfold gt; rw [if_pos (show j < 0 from hj)]
      exact WV
    · rw [Nat.sub_zero, hCT]; (first | (simp only [addL_eq, addL_rec]; omega) | omega | exact Nat.le_refl _)
    rintro _ _ _ _ _ ⟨i, a1, f1, hi, rfl, rfl, rfl, rfl, rfl⟩
    by_cases hlt : i < T
    · have h1 := iLt_t hlt
      have hbT : (B * (2 * T + 1) + 9000) * (T - i) = (B * (2 * T + 1) + 9000) * (T - (i + 1)) + (B * (2 * T + 1) + 9000) := by rw [← Nat.mul_succ]; congr 1; omega
      have hgo : ∀ j, j < 0 + i → gt 0 gv tv j < 2 * T := fun j hj => by
        unfold gt
        split
        · exact absurd (by assumption) (Nat.not_lt_zero _)
        · split <;> omega
      repeat' ((conv => whnf); first | refine eqS_rfl ?_ | refine eqA_rfl ?_ | refine eqA_of (by assumption) ?_ | refine eqS_of (by rfl) ?_ | refine eqL_rfl ?_ | refine eqJ_rfl ?_ | refine flE_intro (fun _ _ => rfl) ?_ | refine seS_rfl ?_ | refine lsS_of hup ?_ | refine lsS_rfl ?_ | refine brS_tt ?_ | refine brS_ff ?_ | refine brS_not ?_ | refine brS_t (iEq_self _) ?_ | refine brS_t (by assumption) ?_ | refine brS_f (by assumption) ?_ | refine brS_intro (fun _ => ?_) (fun _ => ?_) | refine ltS_intro (by first | assumption | decide | exact Nat.le_of_ble_eq_true rfl | omega) ?_ | refine ixS_of rfl (by first | assumption | decide | omega) ?_ | refine okS_intro (by first | assumption | kernel_rfl) ?_ | refine nzS_intro (by first | decide | assumption) ?_ | refine ltS_intro (by have := lt_of_iLt ‹iLt (Int.ofNat _) (Int.ofNat _) = true›; omega) ?_ | refine ixS_of rfl (by have := lt_of_iLt ‹iLt (Int.ofNat _) (Int.ofNat _) = true›; omega) ?_ | refine call_in (n := 11) Try.func56 rfl rfl rfl rfl rfl rfl rfl ?_ | intro _)
      rename_i b5
      have hsl : slL (fun z => cl ((fun _ => 2 * i) z)) 1 = dens [.int .i64 (Int.ofNat i), .bool false] := by
        show dens [.int .i64 (Int.ofNat (2 * i / 2)), .bool (2 * i % 2 == 1)] = _
        rw [show 2 * i / 2 = i by omega, show 2 * i % 2 = 0 by omega]; rfl
      conv => whnf
      refine call83g (F := F) (d := d + 2) (T := T) (a1 := a1) (n1 := 0 + i) (c1 := 0 + i) (go := gt 0 gv tv) (a2 := some ⟨b5, 0, none⟩) (n2 := 1) (e2 := 0) (c2 := 1) (mo := fun _ => 2 * i) (f := f1) (rest := [(700, .gr (some ⟨b4, 0, none⟩) T 4 1 (fun z => [.bool (z < i && tv z)])), (0, .own b0 24 [.int .i64 (Int.ofNat T), .sl 1000 a n c])]) (c83g F (d + 2) T hF hT.2 a n e c hn ru hr a1 (0 + i) (0 + i) (gt 0 gv tv) (by omega) hgo (some ⟨b5, 0, none⟩) 1 0 1 (fun _ => 2 * i) (by omega) (fun h => absurd h (by omega)) (fun j hj => by omega) bs bm f1 B hB _) (addL ((B * (2 * T + 1) + 9000) * (T - (i + 1)) + 200 + R) 60) (by rfl) WO (by (first | (simp only [addL_eq, addL_rec]; omega) | omega | exact Nat.le_refl _)) ?_
      intro g D hS
      have hd : decide (∀ q, q < 0 + i + 1 → g (ng (cm (gt 0 gv tv) (fun _ => 2 * i) (0 + i) q)) = none) = !tv i := by
        have h2 := agr_iff hS
        have h3 := htv i hlt
        cases htq : tv i with
        | true => exact decide_eq_false fun h => h3.1 htq (h2.1 h)
        | false => exact decide_eq_true (h2.2 (Classical.byContradiction fun h => by have := h3.2 h; rw [htq] at this; cases this))
      rw [hd]
      cases htq : tv i
      all_goals
        have hup : updG i [SV.bool (!!tv i)] (fun z => [SV.bool (decide (z < i) && tv z)]) i = [SV.bool (tv i)] := by rw [updG_same, Bool.not_not]
        have hA : ∀ j, j < T → updG i [SV.bool (!!tv i)] (fun z => [SV.bool (decide (z < i) && tv z)]) j = [SV.bool (decide (j < i + 1) && tv j)] := fun j hj => by
          by_cases e : j = i
          · rw [e, updG_same, Bool.not_not, decide_eq_true (Nat.lt_succ_self i)]; rfl
          · rw [updG_other e, show decide (j < i) = decide (j < i + 1) from decide_eq_decide.2 (by omega)]
        have hG : ∀ j, j < 0 + i + 1 → grow (0 + i) 2 (fun z => cl (gt 0 gv tv z)) [.int .i64 (Int.ofNat i), .bool (!!tv i)] j = cl (gt 0 gv tv j) := growE rfl (by
          show cl (gt 0 gv tv (0 + i)) = _
          unfold gt
          rw [if_neg (by omega), show 0 + i - 0 = i by omega, Bool.not_not]
          cases tv i
          · show [SV.int .i64 (Int.ofNat ((2 * i + 0) / 2)), SV.bool ((2 * i + 0) % 2 == 1)] = _
            rw [show (2 * i + 0) / 2 = i by omega, show (2 * i + 0) % 2 = 0 by omega]; rfl
          · show [SV.int .i64 (Int.ofNat ((2 * i + 1) / 2)), SV.bool ((2 * i + 1) % 2 == 1)] = _
            rw [show (2 * i + 1) / 2 = i by omega, show (2 * i + 1) % 2 = 1 by omega]; rfl)
        rw [htq] at hup hA hG
        repeat' ((conv => whnf); first | refine eqS_rfl ?_ | refine eqA_rfl ?_ | refine eqA_of (by assumption) ?_ | refine eqS_of (by rfl) ?_ | refine eqL_rfl ?_ | refine eqJ_rfl ?_ | refine flE_intro (fun _ _ => rfl) ?_ | refine seS_rfl ?_ | refine lsS_of hup ?_ | refine lsS_rfl ?_ | refine brS_tt ?_ | refine brS_ff ?_ | refine brS_not ?_ | refine brS_t (iEq_self _) ?_ | refine brS_t (by assumption) ?_ | refine brS_f (by assumption) ?_ | refine brS_intro (fun _ => ?_) (fun _ => ?_) | refine ltS_intro (by first | assumption | decide | exact Nat.le_of_ble_eq_true rfl | omega) ?_ | refine ixS_of rfl (by first | assumption | decide | omega) ?_ | refine okS_intro (by first | assumption | kernel_rfl) ?_ | refine nzS_intro (by first | decide | assumption) ?_ | refine ltS_intro (by have := lt_of_iLt ‹iLt (Int.ofNat _) (Int.ofNat _) = true›; omega) ?_ | refine ixS_of rfl (by have := lt_of_iLt ‹iLt (Int.ofNat _) (Int.ofNat _) = true›; omega) ?_ | refine ltS_intro (show (0 + i) * 2 + 2 < 32769 by omega) ?_ | rw [updG_same] | intro _)
        rename_i a9
        conv => whnf
        exact ⟨T - (i + 1) + 1, [(2, .ptr 0 b0 0), (6, .ptr 900 bs 0), (8, .sl 700 (some ⟨b4, 0, none⟩) T T), (23, .int .i64 (Int.ofNat T)), (24, .int .i64 (Int.ofNat (i + 1)))], [(700, .gr (some ⟨b4, 0, none⟩) T 4 1 (fun z => [.bool (z < (i + 1) && tv z)])), (0, .own b0 24 [.int .i64 (Int.ofNat T), .sl 1000 a n c])] ++ [(900, .own bs 100 [.int .i64 (Int.ofNat T), .sl 1000 a n c, .sl 1002 a9 (0 + (i + 1)) (0 + (i + 1)), .mpv 901 bm]), (901, .mp bm cv (gm g)), (1000, roR a n e ru), (1002, .gr a9 (0 + (i + 1)) 50 2 (fun z => cl (gt 0 gv tv z)))], addL ((B * (2 * T + 1) + 9000) * (T - (i + 1)) + R) 60, 5000, by omega, ⟨eqF_rfl _, eqF_rfl _, eqF_rfl _, eqF_rfl _, ⟨congrArg (Value.int .i64) (smn (i := i + 1) (by omega)), rfl⟩, trivial⟩, WV, by (first | (simp only [addL_eq, addL_rec]; omega) | omega | exact Nat.le_refl _), i + 1, a9, gm g, by omega, rfl, rfl, rfl, rfl, rfl⟩
    · have e2 : i = T := by omega
      subst e2
      have h1 := iLt_f (Nat.le_refl i)
      have hZ : ∀ j, j < i → [SV.bool (decide (j < i) && tv j)] = [SV.bool (tv j)] := fun j hj => by rw [decide_eq_true hj]; rfl
      repeat' ((conv => whnf); first | refine eqS_rfl ?_ | refine eqA_rfl ?_ | refine eqA_of (by assumption) ?_ | refine eqS_of (by rfl) ?_ | refine eqL_rfl ?_ | refine eqJ_rfl ?_ | refine flE_intro (fun _ _ => rfl) ?_ | refine seS_rfl ?_ | refine lsS_of hup ?_ | refine lsS_rfl ?_ | refine brS_tt ?_ | refine brS_ff ?_ | refine brS_not ?_ | refine brS_t (iEq_self _) ?_ | refine brS_t (by assumption) ?_ | refine brS_f (by assumption) ?_ | refine brS_intro (fun _ => ?_) (fun _ => ?_) | refine ltS_intro (by first | assumption | decide | exact Nat.le_of_ble_eq_true rfl | omega) ?_ | refine ixS_of rfl (by first | assumption | decide | omega) ?_ | refine okS_intro (by first | assumption | kernel_rfl) ?_ | refine nzS_intro (by first | decide | assumption) ?_ | intro _)
      conv => whnf
      exact ⟨⟨_, _, .inr ⟨hP2.1 rfl, _, rfl, rfl⟩, rfl, WV⟩, by (first | (simp only [addL_eq, addL_rec]; omega) | omega | exact Nat.le_refl _)⟩
theorem agr_congr {ru : Nat → Nat × Nat} {n k : Nat} {f g : Nat → Nat} (h : ∀ z, z < k → f z = g z) : Agr ru n f k ↔ Agr ru n g k := by
  unfold Agr
  constructor
  · intro H i j hi hj; rw [← h i hi, ← h j hj]; exact H i j hi hj
  · intro H i j hi hj; rw [h i hi, h j hj]; exact H i j hi hj
/-- what First finds, thing by thing: there is such a list -/
theorem tv_ex (ru : Nat → Nat × Nat) (n n0 : Nat) (gv : Nat → Nat) (T : Nat) : ∃ tv : Nat → Bool, ∀ i, i < T → (tv i = true ↔ ¬ Agr ru n (cm (gt n0 gv tv) (fun _ => 2 * i) (n0 + i)) (n0 + i + 1)) := by
  induction T with
  | zero => exact ⟨fun _ => false, fun i h => absurd h (Nat.not_lt_zero _)⟩
  | succ T ih =>
    obtain ⟨tv, h⟩ := ih
    have hd := Classical.em (Agr ru n (cm (gt n0 gv tv) (fun _ => 2 * T) (n0 + T)) (n0 + T + 1))
    obtain ⟨b, hb⟩ : ∃ b : Bool, b = true ↔ ¬ Agr ru n (cm (gt n0 gv tv) (fun _ => 2 * T) (n0 + T)) (n0 + T + 1) := by
      rcases hd with hd | hd
      · exact ⟨false, by simp [hd]⟩
      · exact ⟨true, by simp [hd]⟩
    refine ⟨fun t => if t = T then b else tv t, fun i hi => ?_⟩
    have hc : ∀ z, z < n0 + i + 1 → cm (gt n0 gv (fun t => if t = T then b else tv t)) (fun _ => 2 * i) (n0 + i) z = cm (gt n0 gv tv) (fun _ => 2 * i) (n0 + i) z := fun z hz => by
      unfold cm
      by_cases hz2 : z < n0 + i
      · rw [if_pos hz2, if_pos hz2]
        unfold gt
        by_cases hz3 : z < n0
        · rw [if_pos hz3, if_pos hz3]
        · rw [if_neg hz3, if_neg hz3]
          show (2 * (z - n0) + if (if z - n0 = T then b else tv (z - n0)) = true then 1 else 0) = _
          rw [if_neg (show z - n0 ≠ T by omega)]
      · rw [if_neg hz2, if_neg hz2]
    rw [agr_congr hc]
    show (if i = T then b else tv i) = true ↔ _
    by_cases e : i = T
    · subst e; rw [if_pos rfl]; exact hb
    · rw [if_neg e]; exact h i (by omega)
theorem tb_case {bits i : Nat} : trB bits (2 * i) = !tb bits i := by
  unfold trB
  rw [show 2 * i / 2 = i by omega, show 2 * i % 2 = 0 by omega]
  cases tb bits i <;> rfl
theorem tb_case1 {bits i : Nat} : trB bits (2 * i + 1) = tb bits i := by
  unfold trB
  rw [show (2 * i + 1) / 2 = i by omega, show (2 * i + 1) % 2 = 1 by omega]
  cases tb bits i <;> rfl
theorem okG_congr {k bits : Nat} {f g : Nat → Nat} (h : ∀ z, z < k → f z = g z) : okG f k bits = okG g k bits := by
  rw [Bool.eq_iff_iff, mem_okG, mem_okG]
  exact ⟨fun H j hj => by rw [← h j hj]; exact H j hj, fun H j hj => by rw [h j hj]; exact H j hj⟩
/-- what First finds is the first truth that agrees with what is given -/
theorem first_tv {ru : Nat → Nat × Nat} {n T n0 : Nat} {gv : Nat → Nat} {tv : Nat → Bool} (hr : ∀ j, j < n → (ru j).1 < 2 * T ∧ (ru j).2 < 2 * T) (hg0 : ∀ j, j < n0 → gv j < 2 * T) (htv : ∀ i, i < T → (tv i = true ↔ ¬ Agr ru n (cm (gt n0 gv tv) (fun _ => 2 * i) (n0 + i)) (n0 + i + 1))) (hP : ∃ bits, bits < 2 ^ T ∧ okR ru n bits = true ∧ okG gv n0 bits = true) :
    ∃ bits, bits < 2 ^ T ∧ okR ru n bits = true ∧ okG gv n0 bits = true ∧ (∀ t, t < T → tb bits t = tv t) ∧ ∀ b, okR ru n b = true → okG gv n0 b = true → ∀ i, i < T → (∀ j, j < i → tb b j = tb bits j) → tb b i = false → tb bits i = false := by
  have hgt : ∀ k, k ≤ T → ∀ j, j < n0 + k → gt n0 gv tv j < 2 * T := fun k hk j hj => by
    unfold gt
    split
    · exact hg0 _ (by omega)
    · split <;> omega
  have hg : ∀ k bits, okG (gt n0 gv tv) (n0 + k) bits = true ↔ okG gv n0 bits = true ∧ ∀ t, t < k → tb bits t = tv t := fun k bits => by
    rw [mem_okG, mem_okG]
    constructor
    · intro h
      refine ⟨fun j hj => ?_, fun t ht => ?_⟩
      · have := h j (by omega); unfold gt at this; rw [if_pos hj] at this; exact this
      · have := h (n0 + t) (by omega)
        unfold gt at this
        rw [if_neg (by omega), show n0 + t - n0 = t by omega] at this
        cases hv : tv t <;> rw [hv] at this
        · rw [if_neg (by decide), Nat.add_zero, tb_case] at this; simpa using this
        · rw [if_pos rfl, tb_case1] at this; exact this
    · rintro ⟨h1, h2⟩ j hj
      unfold gt
      by_cases e : j < n0
      · rw [if_pos e]; exact h1 j e
      · rw [if_neg e]
        have := h2 (j - n0) (by omega)
        cases hv : tv (j - n0) <;> rw [hv] at this
        · rw [if_neg (by decide), Nat.add_zero, tb_case, this]; rfl
        · rw [if_pos rfl, tb_case1, this]
  have hcm : ∀ i bits, okG (cm (gt n0 gv tv) (fun _ => 2 * i) (n0 + i)) (n0 + i + 1) bits = (okG (gt n0 gv tv) (n0 + i) bits && !tb bits i) := fun i bits => by
    rw [okG_succ]
    have e1 : okG (cm (gt n0 gv tv) (fun _ => 2 * i) (n0 + i)) (n0 + i) bits = okG (gt n0 gv tv) (n0 + i) bits := okG_congr fun z hz => by unfold cm; rw [if_pos hz]
    have e2 : cm (gt n0 gv tv) (fun _ => 2 * i) (n0 + i) (n0 + i) = 2 * i := by unfold cm; rw [if_neg (Nat.lt_irrefl _)]
    rw [e1, e2, tb_case]
  have hcl : ∀ i, i < T → ∀ j, j < n0 + i + 1 → cm (gt n0 gv tv) (fun _ => 2 * i) (n0 + i) j < 2 * T := fun i hi j hj => by
    unfold cm
    split
    · exact hgt i (by omega) j (by omega)
    · show 2 * i < 2 * T; omega
  have hpos : Poss ru n T := ((sat_iff hr hg0).1 hP).1
  have step : ∀ i, i < T → (tv i = true ↔ ¬ ∃ bits, bits < 2 ^ T ∧ okR ru n bits = true ∧ (okG (gt n0 gv tv) (n0 + i) bits && !tb bits i) = true) := fun i hi => by
    have h2 := sat_iff (T := T) hr (gv := cm (gt n0 gv tv) (fun _ => 2 * i) (n0 + i)) (n3 := n0 + i + 1) (hcl i hi)
    rw [htv i hi]
    refine not_congr ?_
    constructor
    · intro h
      obtain ⟨bits, h3, h4, h5⟩ := h2.2 ⟨hpos, h⟩
      exact ⟨bits, h3, h4, by rw [← hcm]; exact h5⟩
    · rintro ⟨bits, h3, h4, h5⟩
      exact (h2.1 ⟨bits, h3, h4, by rw [hcm]; exact h5⟩).2
  have key : ∀ k, k ≤ T → ∃ bits, bits < 2 ^ T ∧ okR ru n bits = true ∧ okG (gt n0 gv tv) (n0 + k) bits = true := by
    intro k
    induction k with
    | zero =>
      intro _
      obtain ⟨bits, h1, h2, h3⟩ := hP
      exact ⟨bits, h1, h2, (hg 0 bits).2 ⟨h3, fun t ht => absurd ht (Nat.not_lt_zero _)⟩⟩
    | succ k ih =>
      intro hk
      obtain ⟨bits, h1, h2, h3⟩ := ih (by omega)
      have hs := step k (by omega)
      cases hv : tv k with
      | true =>
        have h4 := hs.1 hv
        refine ⟨bits, h1, h2, (hg (k + 1) bits).2 ⟨((hg k bits).1 h3).1, fun t ht => ?_⟩⟩
        by_cases e : t = k
        · subst e
          rw [hv]
          cases hb : tb bits t with
          | true => rfl
          | false => exact absurd ⟨bits, h1, h2, by rw [h3, hb]; rfl⟩ h4
        · exact ((hg k bits).1 h3).2 t (by omega)
      | false =>
        have h4 : ∃ bits, bits < 2 ^ T ∧ okR ru n bits = true ∧ (okG (gt n0 gv tv) (n0 + k) bits && !tb bits k) = true := Classical.byContradiction fun h => by have := hs.2 h; rw [hv] at this; cases this
        obtain ⟨b2, g1, g2, g3⟩ := h4
        rw [Bool.and_eq_true] at g3
        refine ⟨b2, g1, g2, (hg (k + 1) b2).2 ⟨((hg k b2).1 g3.1).1, fun t ht => ?_⟩⟩
        by_cases e : t = k
        · subst e; rw [hv]; simpa using g3.2
        · exact ((hg k b2).1 g3.1).2 t (by omega)
  obtain ⟨bits, h1, h2, h3⟩ := key T (Nat.le_refl _)
  obtain ⟨h4, h5⟩ := (hg T bits).1 h3
  refine ⟨bits, h1, h2, h4, h5, fun b k1 k2 i hi heq hf => ?_⟩
  rw [h5 i hi]
  cases hv : tv i with
  | false => rfl
  | true =>
    exfalso
    refine (step i hi).1 hv ?_
    obtain ⟨b', hb1, hb2⟩ := bits_of (fun t => tb b t) T
    have hx : ∀ x, x < 2 * T → trB b' x = trB b x := fun x hx => by unfold trB; rw [hb2 _ (by omega)]
    refine ⟨b', hb1, mem_okR.2 fun j hj => ?_, ?_⟩
    · rw [hx _ (hr j hj).1, hx _ (hr j hj).2]; exact mem_okR.1 k1 j hj
    · rw [Bool.and_eq_true]
      refine ⟨(hg i b').2 ⟨mem_okG.2 fun j hj => by rw [hx _ (hg0 j hj)]; exact mem_okG.1 k2 j hj, fun t ht => ?_⟩, ?_⟩
      · rw [hb2 t (by omega), heq t ht, h5 t (by omega)]
      · rw [hb2 i hi, hf]; rfl
end Go.Proofs.Ytoocmgefoagfnaa
namespace Go.Proofs.Ytoocmgefoagfnaa
open Go.Ab
attribute [local irreducible] aggOk drwOK
set_option maxRecDepth 100000
set_option maxHeartbeats 4000000
set_option linter.unusedVariables false
set_option linter.unusedSimpArgs false
theorem call18 {call : CallT} {g : FuncId} {args args0 : List SV} {m0 : Mem} {N i T : Nat} {Pr : Prop} {tv : Nat → Bool} (h : ∀ R, callS call (.fn g [] []) args0 m0 (addL R N) 0 fun w m' R' _ => (∃ w0 mf, QF i T Pr tv w0 mf ∧ den w = den w0 ∧ WkM m' mf) ∧ R ≤ R') (R2 : Nat) {m : Mem} {R ni : Nat} {K : SV → Mem → Nat → Nat → Prop} (ha : dens args = dens args0) (hs : SeesM m m0) (hN : R2 + N ≤ R)
    (hK0 : ¬ Pr → K (.tup [.val (.slice none 0 0), i64 13]) m R2 ni) (hK1 : Pr → ∀ a, K (.tup [.sl i a T T, i64 0]) ((i, .gr a T 4 1 (fun z => [.bool (tv z)])) :: m) R2 ni) : callS call (.fn g [] []) args m R ni K := by
  refine call_freshL (QF i T Pr tv) h ?_ R2 ha hs hN ?_
  · rintro _ _ (⟨_, rfl, rfl⟩ | ⟨_, a, rfl, rfl⟩) x hx
    · cases hx
    · rw [List.mem_singleton.1 hx]; exact ⟨_, _, _, _, _, rfl⟩
  · rintro _ _ (⟨h1, rfl, rfl⟩ | ⟨h1, a, rfl, rfl⟩)
    · exact hK0 h1
    · exact hK1 h1 a
theorem call32 {call : CallT} {g : FuncId} {args args0 : List SV} {m0 : Mem} {N i j T n : Nat} {ru : Nat → Nat × Nat} (h : ∀ R, callS call (.fn g [] []) args0 m0 (addL R N) 0 fun w m' R' _ => (∃ w0 mf, QC i j T n ru w0 mf ∧ den w = den w0 ∧ WkM m' mf) ∧ R ≤ R') (R2 : Nat) {m : Mem} {R ni : Nat} {K : SV → Mem → Nat → Nat → Prop} (ha : dens args = dens args0) (hs : SeesM m m0) (hN : R2 + N ≤ R)
    (hK0 : Poss ru n T → K (.tup [.val (.slice none 0 0), .val (.slice none 0 0), i64 6]) m R2 ni)
    (hK1 : ∀ t p1 L1 c1 p2 L2 c2, t < T → CH ru n T (2 * t) (2 * t + 1) L1 c1 → CH ru n T (2 * t + 1) (2 * t) L2 c2 → K (.tup [.sl i p1 L1 L1, .sl j p2 L2 L2, i64 0]) ((i, .gr p1 L1 50 2 (fun z => cl (c1 z))) :: (j, .gr p2 L2 50 2 (fun z => cl (c2 z))) :: m) R2 ni) : callS call (.fn g [] []) args m R ni K := by
  refine call_freshL (QC i j T n ru) h ?_ R2 ha hs hN ?_
  · rintro _ _ (⟨_, rfl, rfl⟩ | ⟨t, p1, L1, c1, p2, L2, c2, _, _, _, rfl, rfl⟩) x hx
    · cases hx
    · rcases List.mem_cons.1 hx with rfl | hx
      · exact ⟨_, _, _, _, _, rfl⟩
      · rw [List.mem_singleton.1 hx]; exact ⟨_, _, _, _, _, rfl⟩
  · rintro _ _ (⟨h1, rfl, rfl⟩ | ⟨t, p1, L1, c1, p2, L2, c2, h1, h2, h3, rfl, rfl⟩)
    · exact hK0 h1
    · exact hK1 t p1 L1 c1 p2 L2 c2 h1 h2 h3
abbrev gz : Nat → Nat := fun _ => 0
theorem okG_z (gv : Nat → Nat) (bits : Nat) : okG gv 0 bits = true := by unfold okG; simp
/-- the first of the truths so far -/
def Fst (l : List Nat) (T : Nat) (j : Nat) (fv : Int) : Prop := (j = 0 ∧ fv = -1) ∨ (0 < j ∧ ∃ q, fv = Int.ofNat q ∧ q ∈ l ∧ ∀ r, r < j → rvn q T T ≤ rvn (l.getD r 0) T T)
theorem l7 (F d : Nat) (hF : 500 < F) (x0 : Nat) (hx : x0 < 256) (a : Option Addr) (n c : Nat) (o0 o1 : Nat → Nat) (h0 : ∀ j, o0 j < 256) (h1 : ∀ j, o1 j < 256) : ReadC (CL F (d + 11)) 7 [.agg [.int .u8 (Int.ofNat x0), .sl 1000 a n c]] [(1000, .ro a n 0 2 fun j => [.int .u8 (Int.ofNat (o0 j)), .int .u8 (Int.ofNat (o1 j))])] (1300000 + 100) (.bool true) := by
  obtain ⟨T, hT⟩ : ∃ T, T = 1 + x0 % 5 := ⟨_, rfl⟩
  obtain ⟨k, hk⟩ : ∃ k, k = min n 9 := ⟨_, rfl⟩
  have hT0 : T ≠ 0 := by omega
  have hT5 : T ≤ 5 := by omega
  have hk9 : k ≤ 9 := by omega
  have hr := fun j (_ : j < k) => ofr_lt hT0 o0 o1 j
  have hK : 2 ^ T ≤ 2 ^ 5 := Nat.pow_le_pow_right (by decide) hT5
  have hB : 500 * 2 ^ T ≤ 500 * 2 ^ 5 := Nat.mul_le_mul_left _ hK
  obtain ⟨C, hC⟩ : ∃ C, C = 2200 * (2 * T + 1) + 3000 := ⟨_, rfl⟩
  have e1 : (2 * C + 100) * T ≤ 54500 * 5 := Nat.mul_le_mul (by omega) hT5
  have e2 : C * T ≤ 27200 * 5 := Nat.mul_le_mul (by omega) hT5
  obtain ⟨Z18, hZ18⟩ : ∃ Z, Z = C * T + (2 * C + 100) * T + 2 * C + 200000 := ⟨_, rfl⟩
  obtain ⟨Z32, hZ32⟩ : ∃ Z, Z = (2 * C + 100) * T + 3000 := ⟨_, rfl⟩
  have hZa : Z18 ≤ 670000 := by omega
  have hZb : Z32 ≤ 276000 := by omega
  obtain ⟨tv, htv⟩ := tv_ex (ofr T o0 o1) k 0 gz T
  have k18 : ∀ a R, callS (CL F (d + 10)) (.fn 18 [] []) [bk T a k k, .sl 1001 none 0 0] [(1000, roR a k 87 (ofr T o0 o1)), (1001, roC none 0 51 gz)] (addL R (Z18 + 100)) 0 fun w m' R' _ => (∃ w0 mf, QF 860 T (∃ bits, bits < 2 ^ T ∧ okR (ofr T o0 o1) k bits = true ∧ okG gz 0 bits = true) tv w0 mf ∧ den w = den w0 ∧ WkM m' mf) ∧ R ≤ R' := fun a R => by
    rw [hZ18]
    exact c18z F d 860 T (by omega) ⟨by omega, by omega⟩ a k 87 k (by omega) (ofr T o0 o1) hr gz tv htv 2200 C (by omega) hC R
  have k32 : ∀ a R, callS (CL F (d + 10)) (.fn 32 [] []) [bk T a k k] [(1000, roR a k 87 (ofr T o0 o1))] (addL R (Z32 + 100)) 0 fun w m' R' _ => (∃ w0 mf, QC 910 911 T k (ofr T o0 o1) w0 mf ∧ den w = den w0 ∧ WkM m' mf) ∧ R ≤ R' := fun a R => by
    rw [hZ32]
    exact c32 F (d + 2) 910 911 T (by omega) ⟨by omega, by omega⟩ a k 87 k (by omega) (ofr T o0 o1) hr 2200 C (by omega) hC R
  have hsat := sat_iff (T := T) hr (gv := gz) (n3 := 0) (fun j hj => absurd hj (Nat.not_lt_zero _))
  have hPP : (∃ bits, bits < 2 ^ T ∧ okR (ofr T o0 o1) k bits = true ∧ okG gz 0 bits = true) ↔ Poss (ofr T o0 o1) k T := hsat.trans ⟨fun h => h.1, fun h => ⟨h, fun i j hi => absurd hi (Nat.not_lt_zero _)⟩⟩
  have tr := fun a => c41 F (d + 8) 840 T (2 ^ T) a k 87 k (by omega) rfl (by omega) (by omega) (ofr T o0 o1) hr none 0 0 0 gz (by omega) (fun j hj => absurd hj (Nat.not_lt_zero _)) 500 (by omega)
  have hLl := trL_len (ofr T o0 o1) k gz 0 (2 ^ T)
  intro R
  rw [show 1300000 + 100 = (1300000) + 100 from rfl, addL_eq, ← Nat.add_assoc, ← addL_eq _ 100, Nat.add_comm R (1300000)]
  refine call_in (n := 168) Try.func7 rfl rfl rfl rfl rfl rfl rfl ?_
  by_cases hP : (∃ bits, bits < 2 ^ T ∧ okR (ofr T o0 o1) k bits = true ∧ okG gz 0 bits = true)
  · have hne : 0 < (trL (ofr T o0 o1) k gz 0 (2 ^ T)).length := by
      obtain ⟨bits, b1, b2, b3⟩ := hP
      exact List.length_pos_of_mem (mem_trL.2 ⟨b1, b2, b3⟩)
    have hz : iEq (Int.ofNat (trL (ofr T o0 o1) k gz 0 (2 ^ T)).length) 0 = false := (iEq_n (a := (trL (ofr T o0 o1) k gz 0 (2 ^ T)).length) (b := 0)).trans (decide_eq_false (by omega))
    repeat' ((conv => whnf); first | refine eqS_rfl ?_ | refine eqA_rfl ?_ | refine eqA_of (by assumption) ?_ | refine eqS_of (by rfl) ?_ | refine eqL_rfl ?_ | refine eqJ_rfl ?_ | refine flE_intro (fun _ _ => rfl) ?_ | refine seS_rfl ?_ | refine lsS_of hup ?_ | refine lsS_rfl ?_ | refine brS_tt ?_ | refine brS_ff ?_ | refine brS_not ?_ | refine brS_t (iEq_self _) ?_ | refine brS_t (by assumption) ?_ | refine brS_f (by assumption) ?_ | refine brS_intro (fun _ => ?_) (fun _ => ?_) | refine ltS_intro (by first | assumption | decide | exact Nat.le_of_ble_eq_true rfl | omega) ?_ | refine ixS_of rfl (by first | assumption | decide | omega) ?_ | refine okS_intro (by first | assumption | kernel_rfl) ?_ | refine nzS_intro (by first | decide | assumption) ?_ | refine call40 (c40 F _ 800 (by omega) x0 hx T hT a n c o0 o1 h0 h1 k hk) (addL (1290000 + R) 70) (by rfl) (by exact SeesM.cons 1000 (sees_ro (i := 1000) (by rfl)) (SeesM.nil _) (fun _ _ _ _ _ _ x hx => by cases hx)) (by (first | (simp only [addL_eq, addL_rec]; omega) | omega | exact Nat.le_refl _)) ?_ | refine ltS_intro (by have := lt_of_iLt ‹iLt (Int.ofNat _) (Int.ofNat _) = true›; omega) ?_ | refine ixS_of rfl (by have := lt_of_iLt ‹iLt (Int.ofNat _) (Int.ofNat _) = true›; omega) ?_ | refine agS.mk (by kernel_rfl) ?_ | refine eqvS_of (eqC_t (by assumption)) ?_ | refine eqvS_of (eqC_f (by assumption)) ?_ | refine ltS_intro (by first | omega | (simp only [Nat.add_eq, Nat.sub_eq, Nat.mul_eq, Nat.succ_eq_add_one]; omega)) ?_ | refine ixS_of (q := 0) rfl (by assumption) ?_ | refine ixS_of i1 q1 ?_ | refine ixS_of i2 q2 ?_ | refine call_pure (c43 F _ _) ?_ | refine call_w rfl ?_ | refine call41 (tr _) (addL (1273000 + R) 60) (by rfl) (by exact SeesM.cons 1000 (sees_gr (i := 800) (by rfl)) (SeesM.cons 1001 (sees_nil _ _ _ _) (SeesM.nil _) (fun _ _ _ _ _ _ x hx => by cases hx)) (fun _ _ _ _ _ _ x hx => by rcases List.mem_singleton.1 hx with rfl; exact fun _ h => h)) (by (first | (simp only [addL_eq, addL_rec]; omega) | omega | exact Nat.le_refl _)) ?_ | refine call18 (k18 _) (addL (600000 + R) 50) (by rfl) (by exact SeesM.cons 1000 (sees_gr (i := 800) (by rfl)) (SeesM.cons 1001 (sees_nil _ _ _ _) (SeesM.nil _) (fun _ _ _ _ _ _ x hx => by cases hx)) (fun _ _ _ _ _ _ x hx => by rcases List.mem_singleton.1 hx with rfl; exact fun _ h => h)) (by (first | (simp only [addL_eq, addL_rec]; omega) | omega | exact Nat.le_refl _)) (fun h => absurd hP h) (fun _ => ?_) | refine call32 (k32 _) (addL (320000 + R) 40) (by rfl) (by exact SeesM.cons 1000 (sees_gr (i := 800) (by rfl)) (SeesM.nil _) (fun _ _ _ _ _ _ x hx => by cases hx)) (by (first | (simp only [addL_eq, addL_rec]; omega) | omega | exact Nat.le_refl _)) (fun _ => ?_) (fun t p1 L1 c1 p2 L2 c2 ht hc1 hc2 => absurd (hPP.1 hP) fun hp => poss_iff.1 hp t ht ⟨hc1.rch, hc2.rch⟩) | intro _)
    rename_i bo a8 b3 a7 hP2 pv hPo
    have hmem : ∀ j, j < (trL (ofr T o0 o1) k gz 0 (2 ^ T)).length → (trL (ofr T o0 o1) k gz 0 (2 ^ T)).getD j 0 ∈ trL (ofr T o0 o1) k gz 0 (2 ^ T) := fun j hj => getD_mem hj
    have hsm : ∀ q, q ∈ trL (ofr T o0 o1) k gz 0 (2 ^ T) → q < 2 ^ 60 := fun q hq => by
      have := (mem_trL.1 hq).1
      have h32 : (2 : Nat) ^ 5 = 32 := rfl
      have h60 : (32 : Nat) ≤ 2 ^ 60 := by decide
      omega
    have hA32 : (trL (ofr T o0 o1) k gz 0 (2 ^ T)).length ≤ 32 := Nat.le_trans hLl hK
    conv => whnf
    refine loS_i (fun jj f mm R' ni => ∃ (j : Nat) (fv : Int), j ≤ (trL (ofr T o0 o1) k gz 0 (2 ^ T)).length ∧ jj = (trL (ofr T o0 o1) k gz 0 (2 ^ T)).length - j + 1 ∧ Fst (trL (ofr T o0 o1) k gz 0 (2 ^ T)) T j fv ∧ f = [(3, .ptr 1 b3 0), (5, .sl 860 pv T T), (12, .int .i64 fv), (120, .sl 840 a7 (trL (ofr T o0 o1) k gz 0 (2 ^ T)).length (trL (ofr T o0 o1) k gz 0 (2 ^ T)).length), (121, .int .i64 (Int.ofNat (trL (ofr T o0 o1) k gz 0 (2 ^ T)).length)), (122, .int .i64 (Int.ofNat j))] ∧ mm = [(860, .gr pv T 4 1 (fun z => [.bool (tv z)])), (840, .gr a7 (trL (ofr T o0 o1) k gz 0 (2 ^ T)).length 3 1 (fun z => [.int .i64 (Int.ofNat ((trL (ofr T o0 o1) k gz 0 (2 ^ T)).getD z 0))])), (800, .gr a8 k 86 4 (fun z => rl ((ofr T o0 o1) z))), (1, .own b3 24 [.int .i64 (Int.ofNat T), .sl 800 a8 k k]), (1000, .ro a n 0 2 fun j => [.int .u8 (Int.ofNat (o0 j)), .int .u8 (Int.ofNat (o1 j))])] ∧ R' = addL (1300 * ((trL (ofr T o0 o1) k gz 0 (2 ^ T)).length - j) + (100000 + R)) 60 ∧ ni = 50) ((trL (ofr T o0 o1) k gz 0 (2 ^ T)).length + 1) (by omega)
      ⟨[(3, .ptr 1 b3 0), (5, .sl 860 pv T T), (12, .int .i64 (-1)), (120, .sl 840 a7 (trL (ofr T o0 o1) k gz 0 (2 ^ T)).length (trL (ofr T o0 o1) k gz 0 (2 ^ T)).length), (121, .int .i64 (Int.ofNat (trL (ofr T o0 o1) k gz 0 (2 ^ T)).length)), (122, .int .i64 (Int.ofNat 0))], [(860, .gr pv T 4 1 (fun z => [.bool (tv z)])), (840, .gr a7 (trL (ofr T o0 o1) k gz 0 (2 ^ T)).length 3 1 (fun z => [.int .i64 (Int.ofNat ((trL (ofr T o0 o1) k gz 0 (2 ^ T)).getD z 0))])), (800, .gr a8 k 86 4 (fun z => rl ((ofr T o0 o1) z))), (1, .own b3 24 [.int .i64 (Int.ofNat T), .sl 800 a8 k k]), (1000, .ro a n 0 2 fun j => [.int .u8 (Int.ofNat (o0 j)), .int .u8 (Int.ofNat (o1 j))])], addL (1300 * ((trL (ofr T o0 o1) k gz 0 (2 ^ T)).length - 0) + (100000 + R)) 60, 50, ⟨eqF_rfl _, eqF_rfl _, ⟨rfl, rfl⟩, eqF_rfl _, eqF_rfl _, eqF_rfl _, trivial⟩, WS, by (first | (simp only [addL_eq, addL_rec]; omega) | omega | exact Nat.le_refl _), 0, -1, by omega, by omega, .inl ⟨rfl, rfl⟩, rfl, rfl, rfl, rfl⟩ ?_
    rintro _ _ _ _ _ ⟨j, fv, hj, rfl, hI, rfl, rfl, rfl, rfl⟩
    by_cases hlt : j < (trL (ofr T o0 o1) k gz 0 (2 ^ T)).length
    · have d1 := iLt_t hlt
      have hxm := hmem j hlt
      have hxs := hsm _ hxm
      rcases hI with ⟨rfl, rfl⟩ | ⟨hj0, q, rfl, hq, hmin⟩
      · have d2 : iLt (-1) 0 = true := by decide
        repeat' ((conv => whnf); first | refine eqS_rfl ?_ | refine eqA_rfl ?_ | refine eqA_of (by assumption) ?_ | refine eqS_of (by rfl) ?_ | refine eqL_rfl ?_ | refine eqJ_rfl ?_ | refine flE_intro (fun _ _ => rfl) ?_ | refine seS_rfl ?_ | refine lsS_of hup ?_ | refine lsS_rfl ?_ | refine brS_tt ?_ | refine brS_ff ?_ | refine brS_not ?_ | refine brS_t (iEq_self _) ?_ | refine brS_t (by assumption) ?_ | refine brS_f (by assumption) ?_ | refine brS_intro (fun _ => ?_) (fun _ => ?_) | refine ltS_intro (by first | assumption | decide | exact Nat.le_of_ble_eq_true rfl | omega) ?_ | refine ixS_of rfl (by first | assumption | decide | omega) ?_ | refine okS_intro (by first | assumption | kernel_rfl) ?_ | refine nzS_intro (by first | decide | assumption) ?_ | refine ltS_intro (by have := lt_of_iLt ‹iLt (Int.ofNat _) (Int.ofNat _) = true›; omega) ?_ | refine ixS_of rfl (by have := lt_of_iLt ‹iLt (Int.ofNat _) (Int.ofNat _) = true›; omega) ?_ | refine agS.mk (by kernel_rfl) ?_ | refine eqvS_of (eqC_t (by assumption)) ?_ | refine eqvS_of (eqC_f (by assumption)) ?_ | refine ltS_intro (by first | omega | (simp only [Nat.add_eq, Nat.sub_eq, Nat.mul_eq, Nat.succ_eq_add_one]; omega)) ?_ | refine ixS_of (q := 0) rfl (by assumption) ?_ | refine ixS_of i1 q1 ?_ | refine ixS_of i2 q2 ?_ | refine call_pure (c43 F _ _) ?_ | refine call_w rfl ?_ | refine call41 (tr _) (addL (1273000 + R) 60) (by rfl) (by exact SeesM.cons 1000 (sees_gr (i := 800) (by rfl)) (SeesM.cons 1001 (sees_nil _ _ _ _) (SeesM.nil _) (fun _ _ _ _ _ _ x hx => by cases hx)) (fun _ _ _ _ _ _ x hx => by rcases List.mem_singleton.1 hx with rfl; exact fun _ h => h)) (by (first | (simp only [addL_eq, addL_rec]; omega) | omega | exact Nat.le_refl _)) ?_ | intro _)
        conv => whnf
        exact ⟨(trL (ofr T o0 o1) k gz 0 (2 ^ T)).length - (0 + 1) + 1, [(3, .ptr 1 b3 0), (5, .sl 860 pv T T), (12, .int .i64 (Int.ofNat ((trL (ofr T o0 o1) k gz 0 (2 ^ T)).getD 0 0))), (120, .sl 840 a7 (trL (ofr T o0 o1) k gz 0 (2 ^ T)).length (trL (ofr T o0 o1) k gz 0 (2 ^ T)).length), (121, .int .i64 (Int.ofNat (trL (ofr T o0 o1) k gz 0 (2 ^ T)).length)), (122, .int .i64 (Int.ofNat (0 + 1)))], [(860, .gr pv T 4 1 (fun z => [.bool (tv z)])), (840, .gr a7 (trL (ofr T o0 o1) k gz 0 (2 ^ T)).length 3 1 (fun z => [.int .i64 (Int.ofNat ((trL (ofr T o0 o1) k gz 0 (2 ^ T)).getD z 0))])), (800, .gr a8 k 86 4 (fun z => rl ((ofr T o0 o1) z))), (1, .own b3 24 [.int .i64 (Int.ofNat T), .sl 800 a8 k k]), (1000, .ro a n 0 2 fun j => [.int .u8 (Int.ofNat (o0 j)), .int .u8 (Int.ofNat (o1 j))])], addL (1300 * ((trL (ofr T o0 o1) k gz 0 (2 ^ T)).length - (0 + 1)) + (100000 + R)) 60, 50, by omega, ⟨eqF_rfl _, eqF_rfl _, eqF_rfl _, eqF_rfl _, eqF_rfl _, ⟨congrArg (Value.int .i64) (smn (i := 0 + 1) (by omega)), rfl⟩, trivial⟩, WS, by (first | (simp only [addL_eq, addL_rec]; omega) | omega | exact Nat.le_refl _), 0 + 1, _, by omega, rfl, .inr ⟨by omega, _, rfl, hxm, fun r hr => by rw [show r = 0 by omega]; exact Nat.le_refl _⟩, rfl, rfl, rfl, rfl⟩
      · have d2 : iLt (Int.ofNat q) 0 = false := iLt_0 q
        have k44 := c44 F (d + 9) (by omega) ((trL (ofr T o0 o1) k gz 0 (2 ^ T)).getD j 0) q T (by omega) hxs (hsm _ hq)
        rw [bfr_iff] at k44
        by_cases hb : rvn ((trL (ofr T o0 o1) k gz 0 (2 ^ T)).getD j 0) T T < rvn q T T
        · rw [decide_eq_true hb] at k44
          repeat' ((conv => whnf); first | refine eqS_rfl ?_ | refine eqA_rfl ?_ | refine eqA_of (by assumption) ?_ | refine eqS_of (by rfl) ?_ | refine eqL_rfl ?_ | refine eqJ_rfl ?_ | refine flE_intro (fun _ _ => rfl) ?_ | refine seS_rfl ?_ | refine lsS_of hup ?_ | refine lsS_rfl ?_ | refine brS_tt ?_ | refine brS_ff ?_ | refine brS_not ?_ | refine brS_t (iEq_self _) ?_ | refine brS_t (by assumption) ?_ | refine brS_f (by assumption) ?_ | refine brS_intro (fun _ => ?_) (fun _ => ?_) | refine ltS_intro (by first | assumption | decide | exact Nat.le_of_ble_eq_true rfl | omega) ?_ | refine ixS_of rfl (by first | assumption | decide | omega) ?_ | refine okS_intro (by first | assumption | kernel_rfl) ?_ | refine nzS_intro (by first | decide | assumption) ?_ | refine ltS_intro (by have := lt_of_iLt ‹iLt (Int.ofNat _) (Int.ofNat _) = true›; omega) ?_ | refine ixS_of rfl (by have := lt_of_iLt ‹iLt (Int.ofNat _) (Int.ofNat _) = true›; omega) ?_ | refine agS.mk (by kernel_rfl) ?_ | refine eqvS_of (eqC_t (by assumption)) ?_ | refine eqvS_of (eqC_f (by assumption)) ?_ | refine ltS_intro (by first | omega | (simp only [Nat.add_eq, Nat.sub_eq, Nat.mul_eq, Nat.succ_eq_add_one]; omega)) ?_ | refine ixS_of (q := 0) rfl (by assumption) ?_ | refine ixS_of i1 q1 ?_ | refine ixS_of i2 q2 ?_ | refine call_pure (c43 F _ _) ?_ | refine call_w rfl ?_ | refine call41 (tr _) (addL (1273000 + R) 60) (by rfl) (by exact SeesM.cons 1000 (sees_gr (i := 800) (by rfl)) (SeesM.cons 1001 (sees_nil _ _ _ _) (SeesM.nil _) (fun _ _ _ _ _ _ x hx => by cases hx)) (fun _ _ _ _ _ _ x hx => by rcases List.mem_singleton.1 hx with rfl; exact fun _ h => h)) (by (first | (simp only [addL_eq, addL_rec]; omega) | omega | exact Nat.le_refl _)) ?_ | refine call_readL k44 (addL (1300 * ((trL (ofr T o0 o1) k gz 0 (2 ^ T)).length - (j + 1)) + (100000 + R)) 95) (by rfl) (SeesM.nil _) (by (first | (simp only [addL_eq, addL_rec]; omega) | omega | exact Nat.le_refl _)) ?_ | intro _)
          conv => whnf
          exact ⟨(trL (ofr T o0 o1) k gz 0 (2 ^ T)).length - (j + 1) + 1, [(3, .ptr 1 b3 0), (5, .sl 860 pv T T), (12, .int .i64 (Int.ofNat ((trL (ofr T o0 o1) k gz 0 (2 ^ T)).getD j 0))), (120, .sl 840 a7 (trL (ofr T o0 o1) k gz 0 (2 ^ T)).length (trL (ofr T o0 o1) k gz 0 (2 ^ T)).length), (121, .int .i64 (Int.ofNat (trL (ofr T o0 o1) k gz 0 (2 ^ T)).length)), (122, .int .i64 (Int.ofNat (j + 1)))], [(860, .gr pv T 4 1 (fun z => [.bool (tv z)])), (840, .gr a7 (trL (ofr T o0 o1) k gz 0 (2 ^ T)).length 3 1 (fun z => [.int .i64 (Int.ofNat ((trL (ofr T o0 o1) k gz 0 (2 ^ T)).getD z 0))])), (800, .gr a8 k 86 4 (fun z => rl ((ofr T o0 o1) z))), (1, .own b3 24 [.int .i64 (Int.ofNat T), .sl 800 a8 k k]), (1000, .ro a n 0 2 fun j => [.int .u8 (Int.ofNat (o0 j)), .int .u8 (Int.ofNat (o1 j))])], addL (1300 * ((trL (ofr T o0 o1) k gz 0 (2 ^ T)).length - (j + 1)) + (100000 + R)) 60, 50, by omega, ⟨eqF_rfl _, eqF_rfl _, eqF_rfl _, eqF_rfl _, eqF_rfl _, ⟨congrArg (Value.int .i64) (smn (i := j + 1) (by omega)), rfl⟩, trivial⟩, WS, by (first | (simp only [addL_eq, addL_rec]; omega) | omega | exact Nat.le_refl _), j + 1, _, by omega, rfl, .inr ⟨by omega, _, rfl, hxm, fun r hr => by
            by_cases e : r = j
            · rw [e]; exact Nat.le_refl _
            · have := hmin r (by omega); omega⟩, rfl, rfl, rfl, rfl⟩
        · rw [decide_eq_false hb] at k44
          repeat' ((conv => whnf); first | refine eqS_rfl ?_ | refine eqA_rfl ?_ | refine eqA_of (by assumption) ?_ | refine eqS_of (by rfl) ?_ | refine eqL_rfl ?_ | refine eqJ_rfl ?_ | refine flE_intro (fun _ _ => rfl) ?_ | refine seS_rfl ?_ | refine lsS_of hup ?_ | refine lsS_rfl ?_ | refine brS_tt ?_ | refine brS_ff ?_ | refine brS_not ?_ | refine brS_t (iEq_self _) ?_ | refine brS_t (by assumption) ?_ | refine brS_f (by assumption) ?_ | refine brS_intro (fun _ => ?_) (fun _ => ?_) | refine ltS_intro (by first | assumption | decide | exact Nat.le_of_ble_eq_true rfl | omega) ?_ | refine ixS_of rfl (by first | assumption | decide | omega) ?_ | refine okS_intro (by first | assumption | kernel_rfl) ?_ | refine nzS_intro (by first | decide | assumption) ?_ | refine ltS_intro (by have := lt_of_iLt ‹iLt (Int.ofNat _) (Int.ofNat _) = true›; omega) ?_ | refine ixS_of rfl (by have := lt_of_iLt ‹iLt (Int.ofNat _) (Int.ofNat _) = true›; omega) ?_ | refine agS.mk (by kernel_rfl) ?_ | refine eqvS_of (eqC_t (by assumption)) ?_ | refine eqvS_of (eqC_f (by assumption)) ?_ | refine ltS_intro (by first | omega | (simp only [Nat.add_eq, Nat.sub_eq, Nat.mul_eq, Nat.succ_eq_add_one]; omega)) ?_ | refine ixS_of (q := 0) rfl (by assumption) ?_ | refine ixS_of i1 q1 ?_ | refine ixS_of i2 q2 ?_ | refine call_pure (c43 F _ _) ?_ | refine call_w rfl ?_ | refine call41 (tr _) (addL (1273000 + R) 60) (by rfl) (by exact SeesM.cons 1000 (sees_gr (i := 800) (by rfl)) (SeesM.cons 1001 (sees_nil _ _ _ _) (SeesM.nil _) (fun _ _ _ _ _ _ x hx => by cases hx)) (fun _ _ _ _ _ _ x hx => by rcases List.mem_singleton.1 hx with rfl; exact fun _ h => h)) (by (first | (simp only [addL_eq, addL_rec]; omega) | omega | exact Nat.le_refl _)) ?_ | refine call_readL k44 (addL (1300 * ((trL (ofr T o0 o1) k gz 0 (2 ^ T)).length - (j + 1)) + (100000 + R)) 95) (by rfl) (SeesM.nil _) (by (first | (simp only [addL_eq, addL_rec]; omega) | omega | exact Nat.le_refl _)) ?_ | intro _)
          conv => whnf
          exact ⟨(trL (ofr T o0 o1) k gz 0 (2 ^ T)).length - (j + 1) + 1, [(3, .ptr 1 b3 0), (5, .sl 860 pv T T), (12, .int .i64 (Int.ofNat q)), (120, .sl 840 a7 (trL (ofr T o0 o1) k gz 0 (2 ^ T)).length (trL (ofr T o0 o1) k gz 0 (2 ^ T)).length), (121, .int .i64 (Int.ofNat (trL (ofr T o0 o1) k gz 0 (2 ^ T)).length)), (122, .int .i64 (Int.ofNat (j + 1)))], [(860, .gr pv T 4 1 (fun z => [.bool (tv z)])), (840, .gr a7 (trL (ofr T o0 o1) k gz 0 (2 ^ T)).length 3 1 (fun z => [.int .i64 (Int.ofNat ((trL (ofr T o0 o1) k gz 0 (2 ^ T)).getD z 0))])), (800, .gr a8 k 86 4 (fun z => rl ((ofr T o0 o1) z))), (1, .own b3 24 [.int .i64 (Int.ofNat T), .sl 800 a8 k k]), (1000, .ro a n 0 2 fun j => [.int .u8 (Int.ofNat (o0 j)), .int .u8 (Int.ofNat (o1 j))])], addL (1300 * ((trL (ofr T o0 o1) k gz 0 (2 ^ T)).length - (j + 1)) + (100000 + R)) 60, 50, by omega, ⟨eqF_rfl _, eqF_rfl _, eqF_rfl _, eqF_rfl _, eqF_rfl _, ⟨congrArg (Value.int .i64) (smn (i := j + 1) (by omega)), rfl⟩, trivial⟩, WS, by (first | (simp only [addL_eq, addL_rec]; omega) | omega | exact Nat.le_refl _), j + 1, _, by omega, rfl, .inr ⟨by omega, _, rfl, hq, fun r hr => by
            by_cases e : r = j
            · rw [e]; omega
            · exact hmin r (by omega)⟩, rfl, rfl, rfl, rfl⟩
    · have e3 : j = (trL (ofr T o0 o1) k gz 0 (2 ^ T)).length := by omega
      subst e3
      have d1 := iLt_f (Nat.le_refl ((trL (ofr T o0 o1) k gz 0 (2 ^ T)).length))
      rcases hI with ⟨he, rfl⟩ | ⟨hj0, q, rfl, hq, hmin⟩
      · omega
      obtain ⟨bits, b1, b2, b3', b4, b5⟩ := first_tv (T := T) (n0 := 0) (gv := gz) (tv := tv) hr (fun j hj => absurd hj (Nat.not_lt_zero _)) htv hP
      have hqt := mem_trL.1 hq
      have hle : rvn q T T ≤ rvn bits T T := by
        obtain ⟨r, hr1, hr2⟩ := mem_getD (mem_trL.2 ⟨b1, b2, b3'⟩)
        have := hmin r hr1
        rw [hr2] at this; exact this
      have hqb : ∀ t, t < T → tb q t = tb bits t := rvn_eq fun i hi heq => by
        cases hqi : tb q i with
        | false => exact (b5 q hqt.2.1 hqt.2.2 i hi heq hqi).symm
        | true =>
          cases hbi : tb bits i with
          | true => rfl
          | false => have := rvn_le hle i hi heq hbi; rw [hqi] at this; cases this
      have hqv : ∀ t, t < T → tb q t = tv t := fun t ht => (hqb t ht).trans (b4 t ht)
      have hv : ∀ j, j < k → trV tv ((ofr T o0 o1) j).1 = true ∨ trV tv ((ofr T o0 o1) j).2 = true := fun j hj => by
        have e4 : ∀ x, x < 2 * T → trV tv x = trB q x := fun x hx => by unfold trV trB; rw [hqv _ (by omega)]
        have := mem_okR.1 hqt.2.1 j hj
        rw [e4 _ (hr j hj).1, e4 _ (hr j hj).2]; exact this
      have hqs := hsm _ hq
      repeat' ((conv => whnf); first | refine eqS_rfl ?_ | refine eqA_rfl ?_ | refine eqA_of (by assumption) ?_ | refine eqS_of (by rfl) ?_ | refine eqL_rfl ?_ | refine eqJ_rfl ?_ | refine flE_intro (fun _ _ => rfl) ?_ | refine seS_rfl ?_ | refine lsS_of hup ?_ | refine lsS_rfl ?_ | refine brS_tt ?_ | refine brS_ff ?_ | refine brS_not ?_ | refine brS_t (iEq_self _) ?_ | refine brS_t (by assumption) ?_ | refine brS_f (by assumption) ?_ | refine brS_intro (fun _ => ?_) (fun _ => ?_) | refine ltS_intro (by first | assumption | decide | exact Nat.le_of_ble_eq_true rfl | omega) ?_ | refine ixS_of rfl (by first | assumption | decide | omega) ?_ | refine okS_intro (by first | assumption | kernel_rfl) ?_ | refine nzS_intro (by first | decide | assumption) ?_ | refine ltS_intro (by have := lt_of_iLt ‹iLt (Int.ofNat _) (Int.ofNat _) = true›; omega) ?_ | refine ixS_of rfl (by have := lt_of_iLt ‹iLt (Int.ofNat _) (Int.ofNat _) = true›; omega) ?_ | refine agS.mk (by kernel_rfl) ?_ | refine eqvS_of (eqC_t (by assumption)) ?_ | refine eqvS_of (eqC_f (by assumption)) ?_ | refine ltS_intro (by first | omega | (simp only [Nat.add_eq, Nat.sub_eq, Nat.mul_eq, Nat.succ_eq_add_one]; omega)) ?_ | refine ixS_of (q := 0) rfl (by assumption) ?_ | refine ixS_of i1 q1 ?_ | refine ixS_of i2 q2 ?_ | refine call_pure (c43 F _ _) ?_ | refine call_w rfl ?_ | refine call41 (tr _) (addL (1273000 + R) 60) (by rfl) (by exact SeesM.cons 1000 (sees_gr (i := 800) (by rfl)) (SeesM.cons 1001 (sees_nil _ _ _ _) (SeesM.nil _) (fun _ _ _ _ _ _ x hx => by cases hx)) (fun _ _ _ _ _ _ x hx => by rcases List.mem_singleton.1 hx with rfl; exact fun _ h => h)) (by (first | (simp only [addL_eq, addL_rec]; omega) | omega | exact Nat.le_refl _)) ?_ | intro _)
      conv => whnf
      refine loS_i (fun jj f mm R' ni => ∃ t : Nat, t ≤ T ∧ jj = T - t + 1 ∧ f = [(3, .ptr 1 b3 0), (5, .sl 860 pv T T), (12, .int .i64 (Int.ofNat q)), (137, .sl 860 pv T T), (138, .int .i64 (Int.ofNat T)), (139, .int .i64 (Int.ofNat t))] ∧ mm = [(860, .gr pv T 4 1 (fun z => [.bool (tv z)])), (800, .gr a8 k 86 4 (fun z => rl ((ofr T o0 o1) z))), (1, .own b3 24 [.int .i64 (Int.ofNat T), .sl 800 a8 k k]), (1000, .ro a n 0 2 fun j => [.int .u8 (Int.ofNat (o0 j)), .int .u8 (Int.ofNat (o1 j))])] ∧ R' = addL (60 * (T - t) + (50000 + R)) 60 ∧ ni = 60) (T + 1) (by omega)
        ⟨[(3, .ptr 1 b3 0), (5, .sl 860 pv T T), (12, .int .i64 (Int.ofNat q)), (137, .sl 860 pv T T), (138, .int .i64 (Int.ofNat T)), (139, .int .i64 (Int.ofNat 0))], [(860, .gr pv T 4 1 (fun z => [.bool (tv z)])), (800, .gr a8 k 86 4 (fun z => rl ((ofr T o0 o1) z))), (1, .own b3 24 [.int .i64 (Int.ofNat T), .sl 800 a8 k k]), (1000, .ro a n 0 2 fun j => [.int .u8 (Int.ofNat (o0 j)), .int .u8 (Int.ofNat (o1 j))])], addL (60 * (T - 0) + (50000 + R)) 60, 60, ⟨eqF_rfl _, eqF_rfl _, eqF_rfl _, eqF_rfl _, eqF_rfl _, eqF_rfl _, trivial⟩, WS, by (first | (simp only [addL_eq, addL_rec]; omega) | omega | exact Nat.le_refl _), 0, by omega, by omega, rfl, rfl, rfl, rfl⟩ ?_
      rintro _ _ _ _ _ ⟨t, ht, rfl, rfl, rfl, rfl, rfl⟩
      by_cases hlt2 : t < T
      · have d3 := iLt_t hlt2
        have hq2 : (tv t == iEq (andI .i64 (shrV .i64 (Int.ofNat q) t) 1) 1) = true := by
          rw [bit_eq q t hqs (by omega), show (1 : Int) = Int.ofNat 1 from rfl, iEq_n, ← tb_nat, hqv t hlt2]; cases tv t <;> rfl
        repeat' ((conv => whnf); first | refine eqS_rfl ?_ | refine eqA_rfl ?_ | refine eqA_of (by assumption) ?_ | refine eqS_of (by rfl) ?_ | refine eqL_rfl ?_ | refine eqJ_rfl ?_ | refine flE_intro (fun _ _ => rfl) ?_ | refine seS_rfl ?_ | refine lsS_of hup ?_ | refine lsS_rfl ?_ | refine brS_tt ?_ | refine brS_ff ?_ | refine brS_not ?_ | refine brS_t (iEq_self _) ?_ | refine brS_t (by assumption) ?_ | refine brS_f (by assumption) ?_ | refine brS_intro (fun _ => ?_) (fun _ => ?_) | refine ltS_intro (by first | assumption | decide | exact Nat.le_of_ble_eq_true rfl | omega) ?_ | refine ixS_of rfl (by first | assumption | decide | omega) ?_ | refine okS_intro (by first | assumption | kernel_rfl) ?_ | refine nzS_intro (by first | decide | assumption) ?_ | refine ltS_intro (by have := lt_of_iLt ‹iLt (Int.ofNat _) (Int.ofNat _) = true›; omega) ?_ | refine ixS_of rfl (by have := lt_of_iLt ‹iLt (Int.ofNat _) (Int.ofNat _) = true›; omega) ?_ | refine agS.mk (by kernel_rfl) ?_ | refine eqvS_of (eqC_t (by assumption)) ?_ | refine eqvS_of (eqC_f (by assumption)) ?_ | refine ltS_intro (by first | omega | (simp only [Nat.add_eq, Nat.sub_eq, Nat.mul_eq, Nat.succ_eq_add_one]; omega)) ?_ | refine ixS_of (q := 0) rfl (by assumption) ?_ | refine ixS_of i1 q1 ?_ | refine ixS_of i2 q2 ?_ | refine call_pure (c43 F _ _) ?_ | refine call_w rfl ?_ | refine call41 (tr _) (addL (1273000 + R) 60) (by rfl) (by exact SeesM.cons 1000 (sees_gr (i := 800) (by rfl)) (SeesM.cons 1001 (sees_nil _ _ _ _) (SeesM.nil _) (fun _ _ _ _ _ _ x hx => by cases hx)) (fun _ _ _ _ _ _ x hx => by rcases List.mem_singleton.1 hx with rfl; exact fun _ h => h)) (by (first | (simp only [addL_eq, addL_rec]; omega) | omega | exact Nat.le_refl _)) ?_ | intro _)
        conv => whnf
        exact ⟨T - (t + 1) + 1, [(3, .ptr 1 b3 0), (5, .sl 860 pv T T), (12, .int .i64 (Int.ofNat q)), (137, .sl 860 pv T T), (138, .int .i64 (Int.ofNat T)), (139, .int .i64 (Int.ofNat (t + 1)))], [(860, .gr pv T 4 1 (fun z => [.bool (tv z)])), (800, .gr a8 k 86 4 (fun z => rl ((ofr T o0 o1) z))), (1, .own b3 24 [.int .i64 (Int.ofNat T), .sl 800 a8 k k]), (1000, .ro a n 0 2 fun j => [.int .u8 (Int.ofNat (o0 j)), .int .u8 (Int.ofNat (o1 j))])], addL (60 * (T - (t + 1)) + (50000 + R)) 60, 60, by omega, ⟨eqF_rfl _, eqF_rfl _, eqF_rfl _, eqF_rfl _, eqF_rfl _, ⟨congrArg (Value.int .i64) (smn (i := t + 1) (by omega)), rfl⟩, trivial⟩, WS, by (first | (simp only [addL_eq, addL_rec]; omega) | omega | exact Nat.le_refl _), t + 1, by omega, rfl, rfl, rfl, rfl, rfl⟩
      · have e4 : t = T := by omega
        rw [e4]
        have d3 := iLt_f (Nat.le_refl T)
        have k22 := fun a => c22 F (d + 5) (by omega) T ⟨by omega, by omega⟩ a k 87 k (by omega) (ofr T o0 o1) hr pv T tv hv
        repeat' ((conv => whnf); first | refine eqS_rfl ?_ | refine eqA_rfl ?_ | refine eqA_of (by assumption) ?_ | refine eqS_of (by rfl) ?_ | refine eqL_rfl ?_ | refine eqJ_rfl ?_ | refine flE_intro (fun _ _ => rfl) ?_ | refine seS_rfl ?_ | refine lsS_of hup ?_ | refine lsS_rfl ?_ | refine brS_tt ?_ | refine brS_ff ?_ | refine brS_not ?_ | refine brS_t (iEq_self _) ?_ | refine brS_t (by assumption) ?_ | refine brS_f (by assumption) ?_ | refine brS_intro (fun _ => ?_) (fun _ => ?_) | refine ltS_intro (by first | assumption | decide | exact Nat.le_of_ble_eq_true rfl | omega) ?_ | refine ixS_of rfl (by first | assumption | decide | omega) ?_ | refine okS_intro (by first | assumption | kernel_rfl) ?_ | refine nzS_intro (by first | decide | assumption) ?_ | refine ltS_intro (by have := lt_of_iLt ‹iLt (Int.ofNat _) (Int.ofNat _) = true›; omega) ?_ | refine ixS_of rfl (by have := lt_of_iLt ‹iLt (Int.ofNat _) (Int.ofNat _) = true›; omega) ?_ | refine agS.mk (by kernel_rfl) ?_ | refine eqvS_of (eqC_t (by assumption)) ?_ | refine eqvS_of (eqC_f (by assumption)) ?_ | refine ltS_intro (by first | omega | (simp only [Nat.add_eq, Nat.sub_eq, Nat.mul_eq, Nat.succ_eq_add_one]; omega)) ?_ | refine ixS_of (q := 0) rfl (by assumption) ?_ | refine ixS_of i1 q1 ?_ | refine ixS_of i2 q2 ?_ | refine call_pure (c43 F _ _) ?_ | refine call_w rfl ?_ | refine call41 (tr _) (addL (1273000 + R) 60) (by rfl) (by exact SeesM.cons 1000 (sees_gr (i := 800) (by rfl)) (SeesM.cons 1001 (sees_nil _ _ _ _) (SeesM.nil _) (fun _ _ _ _ _ _ x hx => by cases hx)) (fun _ _ _ _ _ _ x hx => by rcases List.mem_singleton.1 hx with rfl; exact fun _ h => h)) (by (first | (simp only [addL_eq, addL_rec]; omega) | omega | exact Nat.le_refl _)) ?_ | refine call_readL (k22 _) (addL (1000 + R) 60) (by rfl) (by exact SeesM.cons 1000 (sees_gr (i := 800) (by rfl)) (SeesM.cons 1001 (sees_gr (i := 860) (by rfl)) (SeesM.nil _) (fun _ _ _ _ _ _ x hx => by cases hx)) (fun _ _ _ _ _ _ x hx => by rcases List.mem_singleton.1 hx with rfl; exact fun _ h => h)) (by (first | (simp only [addL_eq, addL_rec]; omega) | omega | exact Nat.le_refl _)) ?_ | intro _)
        conv => whnf
        exact ⟨rfl, by (first | (simp only [addL_eq, addL_rec]; omega) | omega | exact Nat.le_refl _)⟩
  · have hnil : trL (ofr T o0 o1) k gz 0 (2 ^ T) = [] := by
      refine List.eq_nil_iff_forall_not_mem.2 fun bits hb => hP ?_
      have := mem_trL.1 hb
      exact ⟨bits, this.1, this.2⟩
    rw [hnil] at tr
    have hPn : ¬ Poss (ofr T o0 o1) k T := fun h => hP (hPP.2 h)
    repeat' ((conv => whnf); first | refine eqS_rfl ?_ | refine eqA_rfl ?_ | refine eqA_of (by assumption) ?_ | refine eqS_of (by rfl) ?_ | refine eqL_rfl ?_ | refine eqJ_rfl ?_ | refine flE_intro (fun _ _ => rfl) ?_ | refine seS_rfl ?_ | refine lsS_of hup ?_ | refine lsS_rfl ?_ | refine brS_tt ?_ | refine brS_ff ?_ | refine brS_not ?_ | refine brS_t (iEq_self _) ?_ | refine brS_t (by assumption) ?_ | refine brS_f (by assumption) ?_ | refine brS_intro (fun _ => ?_) (fun _ => ?_) | refine ltS_intro (by first | assumption | decide | exact Nat.le_of_ble_eq_true rfl | omega) ?_ | refine ixS_of rfl (by first | assumption | decide | omega) ?_ | refine okS_intro (by first | assumption | kernel_rfl) ?_ | refine nzS_intro (by first | decide | assumption) ?_ | refine call40 (c40 F _ 800 (by omega) x0 hx T hT a n c o0 o1 h0 h1 k hk) (addL (1290000 + R) 70) (by rfl) (by exact SeesM.cons 1000 (sees_ro (i := 1000) (by rfl)) (SeesM.nil _) (fun _ _ _ _ _ _ x hx => by cases hx)) (by (first | (simp only [addL_eq, addL_rec]; omega) | omega | exact Nat.le_refl _)) ?_ | refine ltS_intro (by have := lt_of_iLt ‹iLt (Int.ofNat _) (Int.ofNat _) = true›; omega) ?_ | refine ixS_of rfl (by have := lt_of_iLt ‹iLt (Int.ofNat _) (Int.ofNat _) = true›; omega) ?_ | refine agS.mk (by kernel_rfl) ?_ | refine eqvS_of (eqC_t (by assumption)) ?_ | refine eqvS_of (eqC_f (by assumption)) ?_ | refine ltS_intro (by first | omega | (simp only [Nat.add_eq, Nat.sub_eq, Nat.mul_eq, Nat.succ_eq_add_one]; omega)) ?_ | refine ixS_of (q := 0) rfl (by assumption) ?_ | refine ixS_of i1 q1 ?_ | refine ixS_of i2 q2 ?_ | refine call_pure (c43 F _ _) ?_ | refine call_w rfl ?_ | refine call41 (tr _) (addL (1273000 + R) 60) (by rfl) (by exact SeesM.cons 1000 (sees_gr (i := 800) (by rfl)) (SeesM.cons 1001 (sees_nil _ _ _ _) (SeesM.nil _) (fun _ _ _ _ _ _ x hx => by cases hx)) (fun _ _ _ _ _ _ x hx => by rcases List.mem_singleton.1 hx with rfl; exact fun _ h => h)) (by (first | (simp only [addL_eq, addL_rec]; omega) | omega | exact Nat.le_refl _)) ?_ | refine call18 (k18 _) (addL (600000 + R) 50) (by rfl) (by exact SeesM.cons 1000 (sees_gr (i := 800) (by rfl)) (SeesM.cons 1001 (sees_nil _ _ _ _) (SeesM.nil _) (fun _ _ _ _ _ _ x hx => by cases hx)) (fun _ _ _ _ _ _ x hx => by rcases List.mem_singleton.1 hx with rfl; exact fun _ h => h)) (by (first | (simp only [addL_eq, addL_rec]; omega) | omega | exact Nat.le_refl _)) (fun _ => ?_) (fun h => absurd h hP) | refine call32 (k32 _) (addL (320000 + R) 40) (by rfl) (by exact SeesM.cons 1000 (sees_gr (i := 800) (by rfl)) (SeesM.nil _) (fun _ _ _ _ _ _ x hx => by cases hx)) (by (first | (simp only [addL_eq, addL_rec]; omega) | omega | exact Nat.le_refl _)) (fun h => absurd h hPn) (fun t p1 L1 c1 p2 L2 c2 ht hc1 hc2 => ?_) | intro _)
    rename_i bo a8 b3 a7 hP2
    have r1 := hc1.pos
    have r2 := hc2.pos
    have hl1 := hc1.le
    have hl2 := hc2.le
    have i1 := len1 r1 (by omega)
    have i2 := len1 r2 (by omega)
    have q1 : L1 - 1 < L1 := by omega
    have q2 : L2 - 1 < L2 := by omega
    have w1b := fun a b => c42 F (d + 7) (by omega) T a k 87 k (by omega) (ofr T o0 o1) b L1 L1 c1 (by omega) hc1.lt
    have w2b := fun a b => c42 F (d + 7) (by omega) T a k 87 k (by omega) (ofr T o0 o1) b L2 L2 c2 (by omega) hc2.lt
    have pp := fun a b b2 => c34 F (d + 4) (by omega) T a k 87 k (by omega) (by omega) (ofr T o0 o1) hr b L1 L1 c1 (by omega) (Nat.le_refl _) hc1.lt b2 L2 L2 c2 (by omega) (Nat.le_refl _) hc2.lt
    have g1 : c1 (L1 - 1) = ng (c1 0) := by rw [hc1.lst, hc1.fst]; unfold ng; rw [if_neg (by omega)]
    have g2 : c2 0 = c1 (L1 - 1) := by rw [hc1.lst, hc2.fst]
    have g3 : c2 (L2 - 1) = c1 0 := by rw [hc2.lst, hc1.fst]
    have hw1 : (decide (0 < L1) && linkB (ofr T o0 o1) k c1 (L1 - 1)) = true := by rw [hc1.lnk, decide_eq_true r1]; rfl
    have hw2 : (decide (0 < L2) && linkB (ofr T o0 o1) k c2 (L2 - 1)) = true := by rw [hc2.lnk, decide_eq_true r2]; rfl
    have v1 : verE (ofr T o0 o1) k c1 L1 = 0 := by unfold verE; rw [if_neg (by omega), if_pos hc1.lnk]
    have v2 : verE (ofr T o0 o1) k c2 L2 = 0 := by unfold verE; rw [if_neg (by omega), if_pos hc2.lnk]
    have hpr : prE (ofr T o0 o1) k c1 L1 c2 L2 = 0 := by unfold prE; rw [if_neg (by simp [v1]), if_neg (by simp [v2]), if_pos ⟨g1, g2, g3⟩]
    rw [hw1] at w1b
    rw [hw2] at w2b
    rw [hpr] at pp
    repeat' ((conv => whnf); first | refine eqS_rfl ?_ | refine eqA_rfl ?_ | refine eqA_of (by assumption) ?_ | refine eqS_of (by rfl) ?_ | refine eqL_rfl ?_ | refine eqJ_rfl ?_ | refine flE_intro (fun _ _ => rfl) ?_ | refine seS_rfl ?_ | refine lsS_of hup ?_ | refine lsS_rfl ?_ | refine brS_tt ?_ | refine brS_ff ?_ | refine brS_not ?_ | refine brS_t (iEq_self _) ?_ | refine brS_t (by assumption) ?_ | refine brS_f (by assumption) ?_ | refine brS_intro (fun _ => ?_) (fun _ => ?_) | refine ltS_intro (by first | assumption | decide | exact Nat.le_of_ble_eq_true rfl | omega) ?_ | refine ixS_of rfl (by first | assumption | decide | omega) ?_ | refine okS_intro (by first | assumption | kernel_rfl) ?_ | refine nzS_intro (by first | decide | assumption) ?_ | refine ltS_intro (by have := lt_of_iLt ‹iLt (Int.ofNat _) (Int.ofNat _) = true›; omega) ?_ | refine ixS_of rfl (by have := lt_of_iLt ‹iLt (Int.ofNat _) (Int.ofNat _) = true›; omega) ?_ | refine agS.mk (by kernel_rfl) ?_ | refine eqvS_of (eqC_t (by assumption)) ?_ | refine eqvS_of (eqC_f (by assumption)) ?_ | refine ltS_intro (by first | omega | (simp only [Nat.add_eq, Nat.sub_eq, Nat.mul_eq, Nat.succ_eq_add_one]; omega)) ?_ | refine ixS_of (q := 0) rfl (by assumption) ?_ | refine ixS_of i1 q1 ?_ | refine ixS_of i2 q2 ?_ | refine call_pure (c43 F _ _) ?_ | refine call_w rfl ?_ | refine call41 (tr _) (addL (1273000 + R) 60) (by rfl) (by exact SeesM.cons 1000 (sees_gr (i := 800) (by rfl)) (SeesM.cons 1001 (sees_nil _ _ _ _) (SeesM.nil _) (fun _ _ _ _ _ _ x hx => by cases hx)) (fun _ _ _ _ _ _ x hx => by rcases List.mem_singleton.1 hx with rfl; exact fun _ h => h)) (by (first | (simp only [addL_eq, addL_rec]; omega) | omega | exact Nat.le_refl _)) ?_ | refine call_readL (w1b _ _) (addL (240000 + R) 100) (by rfl) (by exact SeesM.cons 1000 (sees_gr (i := 800) (by rfl)) (SeesM.cons 1001 (sees_gr (i := 910) (by rfl)) (SeesM.nil _) (fun _ _ _ _ _ _ x hx => by cases hx)) (fun _ _ _ _ _ _ x hx => by rcases List.mem_singleton.1 hx with rfl; exact fun _ h => h)) (by (first | (simp only [addL_eq, addL_rec]; omega) | omega | exact Nat.le_refl _)) ?_ | refine call_readL (w2b _ _) (addL (200000 + R) 90) (by rfl) (by exact SeesM.cons 1000 (sees_gr (i := 800) (by rfl)) (SeesM.cons 1001 (sees_gr (i := 911) (by rfl)) (SeesM.nil _) (fun _ _ _ _ _ _ x hx => by cases hx)) (fun _ _ _ _ _ _ x hx => by rcases List.mem_singleton.1 hx with rfl; exact fun _ h => h)) (by (first | (simp only [addL_eq, addL_rec]; omega) | omega | exact Nat.le_refl _)) ?_ | refine call_readL (pp _ _ _) (addL (1000 + R) 80) (by rfl) (by exact SeesM.cons 1000 (sees_gr (i := 800) (by rfl)) (SeesM.cons 1001 (sees_gr (i := 910) (by rfl)) (SeesM.cons 1002 (sees_gr (i := 911) (by rfl)) (SeesM.nil _) (fun _ _ _ _ _ _ x hx => by cases hx)) (fun _ _ _ _ _ _ x hx => by rcases List.mem_singleton.1 hx with rfl; exact fun _ h => h)) (fun _ _ _ _ _ _ x hx => by rcases List.mem_cons.1 hx with rfl | hx; exact fun _ h => h; rcases List.mem_singleton.1 hx with rfl; exact fun _ h => h)) (by (first | (simp only [addL_eq, addL_rec]; omega) | omega | exact Nat.le_refl _)) ?_ | intro _)
    conv => whnf
    exact ⟨rfl, by (first | (simp only [addL_eq, addL_rec]; omega) | omega | exact Nat.le_refl _)⟩
end Go.Proofs.Ytoocmgefoagfnaa
namespace Go.Proofs.Ytoocmgefoagfnaa
open Go.Ab
attribute [local irreducible] aggOk drwOK
set_option maxRecDepth 100000
set_option maxHeartbeats 4000000
set_option linter.unusedVariables false
set_option linter.unusedSimpArgs false
theorem callS.gr_ne {call : CallT} {fv : SV} {args : List SV} {m : Mem} {R ni : Nat} {K : SV → Mem → Nat → Nat → Prop} {i : Nat} {a : Option Addr} {n : Nat} {e : TypeId} {sz : Nat} {f : Nat → List SV} (hm : (i, Ent.gr a n e sz f) ∈ m) (hn : 0 < n) (h : a ≠ none → callS call fv args m R ni K) : callS call fv args m R ni K :=
  ⟨fun X Z s0 s hM Kr r hK => by
    have h1 := (hM.ent _ hm).2.1
    have ha : a ≠ none := by
      rintro rfl
      rcases h1 with ⟨h2, _⟩ | ⟨b, q, h2, _⟩
      · injection h2 with _ h2 _; omega
      · cases h2
    exact (h ha).run X Z s0 s hM Kr r hK⟩
/-- what Chain answers for a valid book -/
def QH (i T n x y : Nat) (ru : Nat → Nat × Nat) (w0 : SV) (mf : Mem) : Prop := (¬ Rch ru n x y ∧ w0 = .tup [.val (.slice none 0 0), i64 14] ∧ mf = []) ∨
  ∃ L p ch, CH ru n T x y L ch ∧ w0 = .tup [.sl i p L L, i64 0] ∧ mf = [(i, .gr p L 50 2 (fun z => cl (ch z)))]
theorem c28 (F d i : Nat) (T : Nat) (hF : 2 * T + 400 < F) (hT : 1 ≤ T ∧ T ≤ 24) (a : Option Addr) (n e c : Nat) (hn : n ≤ 80) (ru : Nat → Nat × Nat) (hr : ∀ j, j < n → (ru j).1 < 2 * T ∧ (ru j).2 < 2 * T) (x y : Nat) (hx : x < 2 * T) (hy : y < 2 * T) (B C : Nat) (hB : 200 * n + 400 ≤ B) (hC : C = B * (2 * T + 1) + 3000) (R : Nat) :
    callS (CL F (d + 8)) (.fn 28 [] []) [bk T a n c, cv x, cv y] [(1000, roR a n e ru)] (addL R (C + 3000 + 100)) 0 fun w m' R' _ => (∃ w0 mf, QH i T n x y ru w0 mf ∧ den w = den w0 ∧ WkM m' mf) ∧ R ≤ R' := by
  have k26 := c26 F (d + 5) T a n e c ru (by omega) hT hn hr
  have k65 := fun a2 => c65 F (d + 6) T (.sl 1000 a n c) rfl a2 2 0 2 (pc (x, y)) (by omega) (by omega) (fun j hj => by unfold pc; split <;> omega)
  rw [show C + 3000 + 100 = (C + 3000) + 100 from rfl, addL_eq, ← Nat.add_assoc, ← addL_eq _ 100, Nat.add_comm R (C + 3000)]
  refine call_in (n := 30) Try.func28 rfl rfl rfl rfl rfl rfl rfl ?_
  repeat' ((conv => whnf); first | refine eqS_rfl ?_ | refine eqA_rfl ?_ | refine eqA_of (by assumption) ?_ | refine eqS_of (by rfl) ?_ | refine eqL_rfl ?_ | refine eqJ_rfl ?_ | refine flE_intro (fun _ _ => rfl) ?_ | refine seS_rfl ?_ | refine lsS_of hup ?_ | refine lsS_rfl ?_ | refine brS_tt ?_ | refine brS_ff ?_ | refine brS_not ?_ | refine brS_t (iEq_self _) ?_ | refine brS_t (by assumption) ?_ | refine brS_f (by assumption) ?_ | refine brS_intro (fun _ => ?_) (fun _ => ?_) | refine ltS_intro (by first | assumption | decide | exact Nat.le_of_ble_eq_true rfl | omega) ?_ | refine ixS_of rfl (by first | assumption | decide | omega) ?_ | refine okS_intro (by first | assumption | kernel_rfl) ?_ | refine nzS_intro (by first | decide | assumption) ?_ | refine call_readL k26 (addL (C + 800 + R) 95) (by rfl) (by exact SeesM.cons 1000 (sees_ro (i := 1000) (by rfl)) (SeesM.nil _) (fun _ _ _ _ _ _ x hx => by cases hx)) (by (first | (simp only [addL_eq, addL_rec]; omega) | omega | exact Nat.le_refl _)) ?_ | refine call_readL (k65 _) (addL (C + 700 + R) 50) (by rfl) (by exact SeesM.cons 1001 (SeesE.ro_congr (g := fun j => cl (pc (x, y) j)) (sees_own (i := 3) (n := 2) (o := 0) (sz := 2) (c := 0) (by rfl) (by exact Nat.le_refl 4)) (fun j hj => by match j, hj with | 0, _ => rfl | 1, _ => rfl | j + 2, hj => exact absurd hj (by omega))) (SeesM.nil _) (fun _ _ _ _ _ _ x hx => by cases hx)) (by (first | (simp only [addL_eq, addL_rec]; omega) | omega | exact Nat.le_refl _)) ?_ | refine call_in (n := 11) Try.func67 rfl rfl rfl rfl rfl rfl rfl ?_ | refine call_in (n := 8) Try.func89 rfl rfl rfl rfl rfl rfl rfl ?_ | intro _)
  rename_i b0 b1 b2 b3 b4 bm bs
  refine call68 910 (x := x) (y := y) (G := .val (.slice none 0 0)) (f := fun _ => none) (rest := []) (c68 F (d + 1) T hF hT.2 a n e c hn ru hr x y hx bs bm (.val (.slice none 0 0)) (fun _ => none) B hB _) (addL (100 + R) 50) (by rfl) WV (by (first | (simp only [addL_eq, addL_rec]; omega) | omega | exact Nat.le_refl _)) ?_ ?_
  · intro g D hS hg
    repeat' ((conv => whnf); first | refine eqS_rfl ?_ | refine eqA_rfl ?_ | refine eqA_of (by assumption) ?_ | refine eqS_of (by rfl) ?_ | refine eqL_rfl ?_ | refine eqJ_rfl ?_ | refine flE_intro (fun _ _ => rfl) ?_ | refine seS_rfl ?_ | refine lsS_of hup ?_ | refine lsS_rfl ?_ | refine brS_tt ?_ | refine brS_ff ?_ | refine brS_not ?_ | refine brS_t (iEq_self _) ?_ | refine brS_t (by assumption) ?_ | refine brS_f (by assumption) ?_ | refine brS_intro (fun _ => ?_) (fun _ => ?_) | refine ltS_intro (by first | assumption | decide | exact Nat.le_of_ble_eq_true rfl | omega) ?_ | refine ixS_of rfl (by first | assumption | decide | omega) ?_ | refine okS_intro (by first | assumption | kernel_rfl) ?_ | refine nzS_intro (by first | decide | assumption) ?_ | intro _)
    conv => whnf
    exact ⟨⟨_, _, .inl ⟨fun h => (hS.one _).2 h hg, rfl, rfl⟩, rfl, WV⟩, by (first | (simp only [addL_eq, addL_rec]; omega) | omega | exact Nat.le_refl _)⟩
  · intro g L p ch hc
    have hz : iEq (Int.ofNat L) 0 = false := (iEq_n (a := L) (b := 0)).trans (decide_eq_false (by have := hc.pos; omega))
    repeat' ((conv => whnf); first | refine eqS_rfl ?_ | refine eqA_rfl ?_ | refine eqA_of (by assumption) ?_ | refine eqS_of (by rfl) ?_ | refine eqL_rfl ?_ | refine eqJ_rfl ?_ | refine flE_intro (fun _ _ => rfl) ?_ | refine seS_rfl ?_ | refine lsS_of hup ?_ | refine lsS_rfl ?_ | refine brS_tt ?_ | refine brS_ff ?_ | refine brS_not ?_ | refine brS_t (iEq_self _) ?_ | refine brS_t (by assumption) ?_ | refine brS_f (by assumption) ?_ | refine brS_intro (fun _ => ?_) (fun _ => ?_) | refine ltS_intro (by first | assumption | decide | exact Nat.le_of_ble_eq_true rfl | omega) ?_ | refine ixS_of rfl (by first | assumption | decide | omega) ?_ | refine okS_intro (by first | assumption | kernel_rfl) ?_ | refine nzS_intro (by first | decide | assumption) ?_ | intro _)
    conv => whnf
    exact ⟨⟨_, _, .inr ⟨L, p, ch, hc, rfl, rfl⟩, rfl, WV⟩, by (first | (simp only [addL_eq, addL_rec]; omega) | omega | exact Nat.le_refl _)⟩
end Go.Proofs.Ytoocmgefoagfnaa
namespace Go.Proofs.Ytoocmgefoagfnaa
open Go.Ab
attribute [local irreducible] aggOk drwOK
set_option maxRecDepth 100000
set_option maxHeartbeats 4000000
set_option linter.unusedVariables false
set_option linter.unusedSimpArgs false
theorem callS.gr_ne1 {call : CallT} {fv : SV} {args : List SV} {m : Mem} {R ni : Nat} {K : SV → Mem → Nat → Nat → Prop} {i : Nat} {a : Option Addr} {n : Nat} {e : TypeId} {sz : Nat} {f : Nat → List SV} (hm : (i, Ent.gr a n e sz f) ∈ m) (h : (0 < n → a ≠ none) → callS call fv args m R ni K) : callS call fv args m R ni K := by
  rcases Nat.eq_zero_or_pos n with e0 | hp
  · exact h fun h => absurd h (by omega)
  · exact callS.gr_ne hm hp fun ha => h fun _ => ha
theorem call28 {call : CallT} {g : FuncId} {args args0 : List SV} {m0 : Mem} {N i T n x y : Nat} {ru : Nat → Nat × Nat} (h : ∀ R, callS call (.fn g [] []) args0 m0 (addL R N) 0 fun w m' R' _ => (∃ w0 mf, QH i T n x y ru w0 mf ∧ den w = den w0 ∧ WkM m' mf) ∧ R ≤ R') (R2 : Nat) {m : Mem} {R ni : Nat} {K : SV → Mem → Nat → Nat → Prop} (ha : dens args = dens args0) (hs : SeesM m m0) (hN : R2 + N ≤ R)
    (hK0 : ¬ Rch ru n x y → K (.tup [.val (.slice none 0 0), i64 14]) m R2 ni)
    (hK1 : ∀ L p ch, CH ru n T x y L ch → K (.tup [.sl i p L L, i64 0]) ((i, .gr p L 50 2 (fun z => cl (ch z))) :: m) R2 ni) : callS call (.fn g [] []) args m R ni K := by
  refine call_freshL (QH i T n x y ru) h ?_ R2 ha hs hN ?_
  · rintro _ _ (⟨_, rfl, rfl⟩ | ⟨L, p, ch, _, rfl, rfl⟩) x hx
    · cases hx
    · rw [List.mem_singleton.1 hx]; exact ⟨_, _, _, _, _, rfl⟩
  · rintro _ _ (⟨h1, rfl, rfl⟩ | ⟨L, p, ch, h1, rfl, rfl⟩)
    · exact hK0 h1
    · exact hK1 L p ch h1
theorem l11 (F d : Nat) (hF : 500 < F) (x0 : Nat) (hx : x0 < 256) (a : Option Addr) (n c : Nat) (o0 o1 : Nat → Nat) (h0 : ∀ j, o0 j < 256) (h1 : ∀ j, o1 j < 256) (a2 : Option Addr) (n2 c2 : Nat) (t0 : Nat → Nat) (ht0 : ∀ j, t0 j < 256) : ReadC (CL F (d + 11)) 11 [.agg [.int .u8 (Int.ofNat x0), .sl 1000 a n c], .sl 1001 a2 n2 c2] [(1000, .ro a n 0 2 fun j => [.int .u8 (Int.ofNat (o0 j)), .int .u8 (Int.ofNat (o1 j))]), (1001, .ro a2 n2 0 1 fun j => [.int .u8 (Int.ofNat (t0 j))])] (1400000 + 100) (.bool true) := by
  obtain ⟨T, hT⟩ : ∃ T, T = 1 + x0 % 5 := ⟨_, rfl⟩
  obtain ⟨k, hk⟩ : ∃ k, k = min n 9 := ⟨_, rfl⟩
  obtain ⟨kk, hkk⟩ : ∃ k, k = min n2 4 := ⟨_, rfl⟩
  have hT0 : T ≠ 0 := by omega
  have hT5 : T ≤ 5 := by omega
  have hk9 : k ≤ 9 := by omega
  have hk4 : kk ≤ 4 := by omega
  have hr := fun j (_ : j < k) => ofr_lt hT0 o0 o1 j
  have hg0 : ∀ j, j < kk → (fun z => sm2 T (t0 z)) j < 2 * T := fun j _ => sm2_lt hT0
  have hK : 2 ^ T ≤ 2 ^ 5 := Nat.pow_le_pow_right (by decide) hT5
  have hB : 700 * 2 ^ T ≤ 700 * 2 ^ 5 := Nat.mul_le_mul_left _ hK
  obtain ⟨C, hC⟩ : ∃ C, C = 2200 * (2 * T + 1) + 3000 := ⟨_, rfl⟩
  have e1 : (2 * C + 100) * T ≤ 54500 * 5 := Nat.mul_le_mul (by omega) hT5
  have e2 : C * T ≤ 27200 * 5 := Nat.mul_le_mul (by omega) hT5
  obtain ⟨Z18, hZ18⟩ : ∃ Z, Z = C * T + (2 * C + 100) * T + 2 * C + 200000 := ⟨_, rfl⟩
  have hZa : Z18 ≤ 670000 := by omega
  obtain ⟨W, hW⟩ : ∃ W, W = C + 3500 := ⟨_, rfl⟩
  have hWk : 5 * W * kk ≤ 5 * W * 4 := Nat.mul_le_mul_left _ hk4
  have hWk1 : W * kk ≤ W * 4 := Nat.mul_le_mul_left _ hk4
  obtain ⟨tv, htv⟩ := tv_ex (ofr T o0 o1) k kk (fun z => sm2 T (t0 z)) T
  have k18 : ∀ (p1 : Option Addr) (hp0 : kk = 0 → p1 = none) (hq : 0 < kk → p1 ≠ none) (a : Option Addr) R, callS (CL F (d + 10)) (.fn 18 [] []) [bk T a k k, .sl 1001 p1 kk kk] [(1000, roR a k 87 (ofr T o0 o1)), (1001, roC p1 kk 51 (fun z => sm2 T (t0 z)))] (addL R (Z18 + 100)) 0 fun w m' R' _ => (∃ w0 mf, QF 860 T (∃ bits, bits < 2 ^ T ∧ okR (ofr T o0 o1) k bits = true ∧ okG (fun z => sm2 T (t0 z)) kk bits = true) tv w0 mf ∧ den w = den w0 ∧ WkM m' mf) ∧ R ≤ R' := fun p1 hp0 hq a R => by
    rw [hZ18]
    rcases Nat.eq_zero_or_pos kk with e0 | hp
    · rw [hp0 e0]
      clear hWk hWk1 hkk hq hp0
      subst e0
      exact c18z F d 860 T (by omega) ⟨by omega, by omega⟩ a k 87 k (by omega) (ofr T o0 o1) hr (fun z => sm2 T (t0 z)) tv htv 2200 C (by omega) hC R
    · exact c18 F d 860 T (by omega) ⟨by omega, by omega⟩ a k 87 k (by omega) (ofr T o0 o1) hr p1 kk kk (fun z => sm2 T (t0 z)) (by omega) hp (hq hp) hg0 tv htv 2200 C (by omega) hC R
  have k28 : ∀ (p q : Nat), p < kk → q < kk → ∀ (a : Option Addr) R, callS (CL F (d + 10)) (.fn 28 [] []) [bk T a k k, cv (sm2 T (t0 p)), cv (ng (sm2 T (t0 q)))] [(1000, roR a k 87 (ofr T o0 o1))] (addL R (C + 3000 + 100)) 0 fun w m' R' _ => (∃ w0 mf, QH 910 T k (sm2 T (t0 p)) (ng (sm2 T (t0 q))) (ofr T o0 o1) w0 mf ∧ den w = den w0 ∧ WkM m' mf) ∧ R ≤ R' := fun p q hp hq a R =>
    c28 F (d + 2) 910 T (by omega) ⟨by omega, by omega⟩ a k 87 k (by omega) (ofr T o0 o1) hr _ _ (sm2_lt hT0) (ng_lt (sm2_lt hT0)) 2200 C (by omega) hC R
  have hsat0 := fun (_ : Unit) => sat_iff (T := T) hr (gv := gz) (n3 := 0) (fun j hj => absurd hj (Nat.not_lt_zero _))
  have hsat := fun (_ : Unit) => sat_iff (T := T) hr (gv := (fun z => sm2 T (t0 z))) (n3 := kk) hg0
  have tr := fun a => c41 F (d + 8) 840 T (2 ^ T) a k 87 k (by omega) rfl (by omega) (by omega) (ofr T o0 o1) hr none 0 0 0 gz (by omega) (fun j hj => absurd hj (Nat.not_lt_zero _)) 700 (by omega)
  have tr2 := fun a b => c41 F (d + 8) 850 T (2 ^ T) a k 87 k (by omega) rfl (by omega) (by omega) (ofr T o0 o1) hr b kk 51 kk (fun z => sm2 T (t0 z)) (by omega) hg0 700 (by omega)
  have hLl := trL_len (ofr T o0 o1) k gz 0 (2 ^ T)
  intro R
  rw [show 1400000 + 100 = (1400000) + 100 from rfl, addL_eq, ← Nat.add_assoc, ← addL_eq _ 100, Nat.add_comm R (1400000)]
  refine call_in (n := 132) Try.func11 rfl rfl rfl rfl rfl rfl rfl ?_
  repeat' ((conv => whnf); first | refine eqS_rfl ?_ | refine eqA_rfl ?_ | refine eqA_of (by assumption) ?_ | refine eqS_of (by rfl) ?_ | refine eqL_rfl ?_ | refine eqJ_rfl ?_ | refine flE_intro (fun _ _ => rfl) ?_ | refine seS_rfl ?_ | refine lsS_of hup ?_ | refine lsS_rfl ?_ | refine brS_tt ?_ | refine brS_ff ?_ | refine brS_not ?_ | refine brS_t (iEq_self _) ?_ | refine brS_t (by assumption) ?_ | refine brS_f (by assumption) ?_ | refine brS_intro (fun _ => ?_) (fun _ => ?_) | refine ltS_intro (by first | assumption | decide | exact Nat.le_of_ble_eq_true rfl | omega) ?_ | refine ixS_of rfl (by first | assumption | decide | omega) ?_ | refine okS_intro (by first | assumption | kernel_rfl) ?_ | refine nzS_intro (by first | decide | assumption) ?_ | refine call40 (c40 F _ 800 (by omega) x0 hx T hT a n c o0 o1 h0 h1 k hk) (addL (1390000 + R) 70) (by rfl) (by exact SeesM.cons 1000 (sees_ro (i := 1000) (by rfl)) (SeesM.nil _) (fun _ _ _ _ _ _ x hx => by cases hx)) (by (first | (simp only [addL_eq, addL_rec]; omega) | omega | exact Nat.le_refl _)) ?_ | intro _)
  rename_i bo a8 b5
  conv => whnf
  refine loS_i (fun jj f mm R' ni => ∃ (j : Nat) (p1 : Option Addr), j ≤ kk ∧ jj = kk - j + 1 ∧ (j = 0 → p1 = none) ∧ f = [(1, .sl 1001 a2 n2 c2), (5, .ptr 1 b5 0), (6, .sl 820 p1 j j), (7, .int .i64 (Int.ofNat j))] ∧ mm = [(820, .gr p1 j 50 2 (fun z => cl (sm2 T (t0 z)))), (800, .gr a8 k 86 4 (fun z => rl ((ofr T o0 o1) z))), (1, .own b5 24 [.int .i64 (Int.ofNat T), .sl 800 a8 k k]), (1000, .ro a n 0 2 fun j => [.int .u8 (Int.ofNat (o0 j)), .int .u8 (Int.ofNat (o1 j))]), (1001, .ro a2 n2 0 1 fun j => [.int .u8 (Int.ofNat (t0 j))])] ∧ R' = addL (20 * (kk - j) + (1380000 + R)) 20 ∧ ni = 100) (kk + 1) (by omega)
    ⟨[(1, .sl 1001 a2 n2 c2), (5, .ptr 1 b5 0), (6, .sl 820 none 0 0), (7, .int .i64 (Int.ofNat 0))], [(820, .gr none 0 50 2 (fun z => cl (sm2 T (t0 z)))), (800, .gr a8 k 86 4 (fun z => rl ((ofr T o0 o1) z))), (1, .own b5 24 [.int .i64 (Int.ofNat T), .sl 800 a8 k k]), (1000, .ro a n 0 2 fun j => [.int .u8 (Int.ofNat (o0 j)), .int .u8 (Int.ofNat (o1 j))]), (1001, .ro a2 n2 0 1 fun j => [.int .u8 (Int.ofNat (t0 j))])], addL (20 * (kk - 0) + (1380000 + R)) 20, 100, ⟨eqF_rfl _, eqF_rfl _, ⟨rfl, rfl⟩, eqF_rfl _, trivial⟩, by exact (WkM.gr0 (i := 820) (e := 50) (sz := 2) (f := fun z => cl (sm2 T (t0 z))) (WkM.refl _)).trans WS, by (first | (simp only [addL_eq, addL_rec]; omega) | omega | exact Nat.le_refl _), 0, none, by omega, by omega, fun _ => rfl, rfl, rfl, rfl, rfl⟩ ?_
  rintro _ _ _ _ _ ⟨j, p1, hj, rfl, hp0, rfl, rfl, rfl, rfl⟩
  by_cases hj2 : j < kk
  · have d1 : iLt (Int.ofNat j) (Int.ofNat n2) = true := iLt_t (by omega)
    have d2 : iLt (Int.ofNat j) 4 = true := iLt_t (a := j) (b := 4) (by omega)
    have hg := growE (n := j) (sz := 2) (f := fun z => cl (sm2 T (t0 z))) (l := cl (sm2 T (t0 j))) rfl rfl
    repeat' ((conv => whnf); first | refine eqS_rfl ?_ | refine eqA_rfl ?_ | refine eqA_of (by assumption) ?_ | refine eqS_of (by rfl) ?_ | refine eqL_rfl ?_ | refine eqJ_rfl ?_ | refine flE_intro (fun _ _ => rfl) ?_ | refine seS_rfl ?_ | refine lsS_of hup ?_ | refine lsS_rfl ?_ | refine brS_tt ?_ | refine brS_ff ?_ | refine brS_not ?_ | refine brS_t (iEq_self _) ?_ | refine brS_t (by assumption) ?_ | refine brS_f (by assumption) ?_ | refine brS_intro (fun _ => ?_) (fun _ => ?_) | refine ltS_intro (by first | assumption | decide | exact Nat.le_of_ble_eq_true rfl | omega) ?_ | refine ixS_of rfl (by first | assumption | decide | omega) ?_ | refine okS_intro (by first | assumption | kernel_rfl) ?_ | refine nzS_intro (by first | decide | assumption) ?_ | refine ltS_intro (by have := lt_of_iLt ‹iLt (Int.ofNat _) (Int.ofNat _) = true›; omega) ?_ | refine ixS_of rfl (by have := lt_of_iLt ‹iLt (Int.ofNat _) (Int.ofNat _) = true›; omega) ?_ | refine ltS_intro (show j * 2 + 2 < 32769 by omega) ?_ | refine call_pure (c45 F _ _ T hT0 (ht0 _) _) ?_ | intro _)
    rename_i a9
    conv => whnf
    exact ⟨kk - (j + 1) + 1, [(1, .sl 1001 a2 n2 c2), (5, .ptr 1 b5 0), (6, .sl 820 a9 (j + 1) (j + 1)), (7, .int .i64 (Int.ofNat (j + 1)))], [(820, .gr a9 (j + 1) 50 2 (fun z => cl (sm2 T (t0 z)))), (800, .gr a8 k 86 4 (fun z => rl ((ofr T o0 o1) z))), (1, .own b5 24 [.int .i64 (Int.ofNat T), .sl 800 a8 k k]), (1000, .ro a n 0 2 fun j => [.int .u8 (Int.ofNat (o0 j)), .int .u8 (Int.ofNat (o1 j))]), (1001, .ro a2 n2 0 1 fun j => [.int .u8 (Int.ofNat (t0 j))])], addL (20 * (kk - (j + 1)) + (1380000 + R)) 20, 100, by omega, ⟨eqF_rfl _, eqF_rfl _, ⟨rfl, rfl⟩, ⟨congrArg (Value.int .i64) (smn (i := j + 1) (by omega)), rfl⟩, trivial⟩, WG, by (first | (simp only [addL_eq, addL_rec]; omega) | omega | exact Nat.le_refl _), j + 1, _, by omega, rfl, fun h => absurd h (by omega), rfl, rfl, rfl, rfl⟩
  · have e3 : kk = j := by omega
    subst e3
    have dd : (iLt (Int.ofNat kk) (Int.ofNat n2) = false) ∨ (iLt (Int.ofNat kk) (Int.ofNat n2) = true ∧ iLt (Int.ofNat kk) 4 = false) := by
      by_cases hn9 : n2 ≤ 4
      · exact .inl (iLt_f (by omega))
      · exact .inr ⟨iLt_t (by omega), iLt_f (a := kk) (b := 4) (by omega)⟩
    by_cases hE : trL (ofr T o0 o1) k gz 0 (2 ^ T) = []
    · rw [hE] at tr
      rcases dd with d1 | ⟨d1, d2⟩
      all_goals
        repeat' ((conv => whnf); first | refine eqS_rfl ?_ | refine eqA_rfl ?_ | refine eqA_of (by assumption) ?_ | refine eqS_of (by rfl) ?_ | refine eqL_rfl ?_ | refine eqJ_rfl ?_ | refine flE_intro (fun _ _ => rfl) ?_ | refine seS_rfl ?_ | refine lsS_of hup ?_ | refine lsS_rfl ?_ | refine brS_tt ?_ | refine brS_ff ?_ | refine brS_not ?_ | refine brS_t (iEq_self _) ?_ | refine brS_t (by assumption) ?_ | refine brS_f (by assumption) ?_ | refine brS_intro (fun _ => ?_) (fun _ => ?_) | refine ltS_intro (by first | assumption | decide | exact Nat.le_of_ble_eq_true rfl | omega) ?_ | refine ixS_of rfl (by first | assumption | decide | omega) ?_ | refine okS_intro (by first | assumption | kernel_rfl) ?_ | refine nzS_intro (by first | decide | assumption) ?_ | refine ltS_intro (by have := lt_of_iLt ‹iLt (Int.ofNat _) (Int.ofNat _) = true›; omega) ?_ | refine ixS_of rfl (by have := lt_of_iLt ‹iLt (Int.ofNat _) (Int.ofNat _) = true›; omega) ?_ | refine agS.mk (by kernel_rfl) ?_ | refine eqvS_of (eqC_t (by assumption)) ?_ | refine eqvS_of (eqC_f (by assumption)) ?_ | refine ltS_intro (by first | omega | (simp only [Nat.add_eq, Nat.sub_eq, Nat.mul_eq, Nat.succ_eq_add_one]; omega)) ?_ | refine call_pure (c43 F _ _) ?_ | refine call_w rfl ?_ | refine brS_t hq2 ?_ | refine ixS_of rfl hxt ?_ | refine call41 (tr _) (addL (1356000 + R) 60) (by rfl) (by exact SeesM.cons 1000 (sees_gr (i := 800) (by rfl)) (SeesM.cons 1001 (sees_nil _ _ _ _) (SeesM.nil _) (fun _ _ _ _ _ _ x hx => by cases hx)) (fun _ _ _ _ _ _ x hx => by rcases List.mem_singleton.1 hx with rfl; exact fun _ h => h)) (by (first | (simp only [addL_eq, addL_rec]; omega) | omega | exact Nat.le_refl _)) ?_ | intro _)
        conv => whnf
        exact ⟨rfl, by (first | (simp only [addL_eq, addL_rec]; omega) | omega | exact Nat.le_refl _)⟩
    · have hne : 0 < (trL (ofr T o0 o1) k gz 0 (2 ^ T)).length := Nat.pos_of_ne_zero fun h => hE (List.length_eq_zero_iff.1 h)
      have hz : iEq (Int.ofNat (trL (ofr T o0 o1) k gz 0 (2 ^ T)).length) 0 = false := (iEq_n (a := (trL (ofr T o0 o1) k gz 0 (2 ^ T)).length) (b := 0)).trans (decide_eq_false (by omega))
      have hPo : Poss (ofr T o0 o1) k T := by
        obtain ⟨bits, hb⟩ := List.exists_mem_of_ne_nil _ hE
        have := mem_trL.1 hb
        exact ((hsat0 ()).1 ⟨bits, this⟩).1
      rcases dd with d1 | ⟨d1, d2⟩
      all_goals
        repeat' ((conv => whnf); first | refine eqS_rfl ?_ | refine eqA_rfl ?_ | refine eqA_of (by assumption) ?_ | refine eqS_of (by rfl) ?_ | refine eqL_rfl ?_ | refine eqJ_rfl ?_ | refine flE_intro (fun _ _ => rfl) ?_ | refine seS_rfl ?_ | refine lsS_of hup ?_ | refine lsS_rfl ?_ | refine brS_tt ?_ | refine brS_ff ?_ | refine brS_not ?_ | refine brS_t (iEq_self _) ?_ | refine brS_t (by assumption) ?_ | refine brS_f (by assumption) ?_ | refine brS_intro (fun _ => ?_) (fun _ => ?_) | refine ltS_intro (by first | assumption | decide | exact Nat.le_of_ble_eq_true rfl | omega) ?_ | refine ixS_of rfl (by first | assumption | decide | omega) ?_ | refine okS_intro (by first | assumption | kernel_rfl) ?_ | refine nzS_intro (by first | decide | assumption) ?_ | refine ltS_intro (by have := lt_of_iLt ‹iLt (Int.ofNat _) (Int.ofNat _) = true›; omega) ?_ | refine ixS_of rfl (by have := lt_of_iLt ‹iLt (Int.ofNat _) (Int.ofNat _) = true›; omega) ?_ | refine agS.mk (by kernel_rfl) ?_ | refine eqvS_of (eqC_t (by assumption)) ?_ | refine eqvS_of (eqC_f (by assumption)) ?_ | refine ltS_intro (by first | omega | (simp only [Nat.add_eq, Nat.sub_eq, Nat.mul_eq, Nat.succ_eq_add_one]; omega)) ?_ | refine call_pure (c43 F _ _) ?_ | refine call_w rfl ?_ | refine brS_t hq2 ?_ | refine ixS_of rfl hxt ?_ | refine call41 (tr _) (addL (1356000 + R) 60) (by rfl) (by exact SeesM.cons 1000 (sees_gr (i := 800) (by rfl)) (SeesM.cons 1001 (sees_nil _ _ _ _) (SeesM.nil _) (fun _ _ _ _ _ _ x hx => by cases hx)) (fun _ _ _ _ _ _ x hx => by rcases List.mem_singleton.1 hx with rfl; exact fun _ h => h)) (by (first | (simp only [addL_eq, addL_rec]; omega) | omega | exact Nat.le_refl _)) ?_ | intro _)
        rename_i a7
        conv => whnf
        refine loS_i (fun jj f mm R' ni => ∃ (p : Nat) (cb : Bool), p ≤ kk ∧ jj = kk - p + 1 ∧ (cb = true ↔ ∃ i q, i < p ∧ q < kk ∧ Rch (ofr T o0 o1) k (sm2 T (t0 i)) (ng (sm2 T (t0 q)))) ∧ f = [(5, .ptr 1 b5 0), (6, .sl 820 p1 kk kk), (8, .bool cb), (46, .sl 820 p1 kk kk), (47, .int .i64 (Int.ofNat kk)), (48, .int .i64 (Int.ofNat p))] ∧ mm = [(820, .gr p1 kk 50 2 (fun z => cl (sm2 T (t0 z)))), (800, .gr a8 k 86 4 (fun z => rl ((ofr T o0 o1) z))), (1, .own b5 24 [.int .i64 (Int.ofNat T), .sl 800 a8 k k]), (1000, .ro a n 0 2 fun j => [.int .u8 (Int.ofNat (o0 j)), .int .u8 (Int.ofNat (o1 j))]), (1001, .ro a2 n2 0 1 fun j => [.int .u8 (Int.ofNat (t0 j))])] ∧ R' = addL (5 * W * (kk - p) + (740000 + R)) 60 ∧ ni = 100) (kk + 1) (by omega)
          ⟨[(5, .ptr 1 b5 0), (6, .sl 820 p1 kk kk), (8, .bool false), (46, .sl 820 p1 kk kk), (47, .int .i64 (Int.ofNat kk)), (48, .int .i64 (Int.ofNat 0))], [(820, .gr p1 kk 50 2 (fun z => cl (sm2 T (t0 z)))), (800, .gr a8 k 86 4 (fun z => rl ((ofr T o0 o1) z))), (1, .own b5 24 [.int .i64 (Int.ofNat T), .sl 800 a8 k k]), (1000, .ro a n 0 2 fun j => [.int .u8 (Int.ofNat (o0 j)), .int .u8 (Int.ofNat (o1 j))]), (1001, .ro a2 n2 0 1 fun j => [.int .u8 (Int.ofNat (t0 j))])], addL (5 * W * (kk - 0) + (740000 + R)) 60, 100, ⟨eqF_rfl _, eqF_rfl _, eqF_rfl _, eqF_rfl _, eqF_rfl _, eqF_rfl _, trivial⟩, WS, by rw [Nat.sub_zero]; (first | (simp only [addL_eq, addL_rec]; omega) | omega | exact Nat.le_refl _), 0, false, by omega, by omega, ⟨fun h => (by cases h), fun ⟨i, q, h, _⟩ => absurd h (Nat.not_lt_zero _)⟩, rfl, rfl, rfl, rfl⟩ ?_
        rintro _ _ _ _ _ ⟨p, cb, hp, rfl, hcb, rfl, rfl, rfl, rfl⟩
        by_cases hlt : p < kk
        · have d3 := iLt_t hlt
          have hb : 5 * W * (kk - p) = 5 * W * (kk - (p + 1)) + 5 * W := by rw [← Nat.mul_succ]; congr 1; omega
          repeat' ((conv => whnf); first | refine eqS_rfl ?_ | refine eqA_rfl ?_ | refine eqA_of (by assumption) ?_ | refine eqS_of (by rfl) ?_ | refine eqL_rfl ?_ | refine eqJ_rfl ?_ | refine flE_intro (fun _ _ => rfl) ?_ | refine seS_rfl ?_ | refine lsS_of hup ?_ | refine lsS_rfl ?_ | refine brS_tt ?_ | refine brS_ff ?_ | refine brS_not ?_ | refine brS_t (iEq_self _) ?_ | refine brS_t (by assumption) ?_ | refine brS_f (by assumption) ?_ | refine brS_intro (fun _ => ?_) (fun _ => ?_) | refine ltS_intro (by first | assumption | decide | exact Nat.le_of_ble_eq_true rfl | omega) ?_ | refine ixS_of rfl (by first | assumption | decide | omega) ?_ | refine okS_intro (by first | assumption | kernel_rfl) ?_ | refine nzS_intro (by first | decide | assumption) ?_ | refine ltS_intro (by have := lt_of_iLt ‹iLt (Int.ofNat _) (Int.ofNat _) = true›; omega) ?_ | refine ixS_of rfl (by have := lt_of_iLt ‹iLt (Int.ofNat _) (Int.ofNat _) = true›; omega) ?_ | refine agS.mk (by kernel_rfl) ?_ | refine eqvS_of (eqC_t (by assumption)) ?_ | refine eqvS_of (eqC_f (by assumption)) ?_ | refine ltS_intro (by first | omega | (simp only [Nat.add_eq, Nat.sub_eq, Nat.mul_eq, Nat.succ_eq_add_one]; omega)) ?_ | refine call_pure (c43 F _ _) ?_ | refine call_w rfl ?_ | refine brS_t hq2 ?_ | refine ixS_of rfl hxt ?_ | intro _)
          rename_i b10
          conv => whnf
          refine loS_i (fun jj f mm R' ni => ∃ (q : Nat) (cb : Bool), q ≤ kk ∧ jj = kk - q + 1 ∧ (cb = true ↔ (∃ i r, i < p ∧ r < kk ∧ Rch (ofr T o0 o1) k (sm2 T (t0 i)) (ng (sm2 T (t0 r)))) ∨ ∃ r, r < q ∧ Rch (ofr T o0 o1) k (sm2 T (t0 p)) (ng (sm2 T (t0 r)))) ∧ f = [(5, .ptr 1 b5 0), (6, .sl 820 p1 kk kk), (8, .bool cb), (46, .sl 820 p1 kk kk), (47, .int .i64 (Int.ofNat kk)), (48, .int .i64 (Int.ofNat p)), (10, .ptr 100 b10 0), (52, .sl 820 p1 kk kk), (53, .int .i64 (Int.ofNat kk)), (54, .int .i64 (Int.ofNat q))] ∧ mm = [(100, .own b10 50 (cl (sm2 T (t0 p)))), (820, .gr p1 kk 50 2 (fun z => cl (sm2 T (t0 z)))), (800, .gr a8 k 86 4 (fun z => rl ((ofr T o0 o1) z))), (1, .own b5 24 [.int .i64 (Int.ofNat T), .sl 800 a8 k k]), (1000, .ro a n 0 2 fun j => [.int .u8 (Int.ofNat (o0 j)), .int .u8 (Int.ofNat (o1 j))]), (1001, .ro a2 n2 0 1 fun j => [.int .u8 (Int.ofNat (t0 j))])] ∧ R' = addL (W * (kk - q) + (5 * W * (kk - (p + 1)) + (740000 + R))) 100 ∧ ni = 110) (kk + 1) (by omega)
            ⟨[(5, .ptr 1 b5 0), (6, .sl 820 p1 kk kk), (8, .bool cb), (46, .sl 820 p1 kk kk), (47, .int .i64 (Int.ofNat kk)), (48, .int .i64 (Int.ofNat p)), (10, .ptr 100 b10 0), (52, .sl 820 p1 kk kk), (53, .int .i64 (Int.ofNat kk)), (54, .int .i64 (Int.ofNat 0))], [(100, .own b10 50 (cl (sm2 T (t0 p)))), (820, .gr p1 kk 50 2 (fun z => cl (sm2 T (t0 z)))), (800, .gr a8 k 86 4 (fun z => rl ((ofr T o0 o1) z))), (1, .own b5 24 [.int .i64 (Int.ofNat T), .sl 800 a8 k k]), (1000, .ro a n 0 2 fun j => [.int .u8 (Int.ofNat (o0 j)), .int .u8 (Int.ofNat (o1 j))]), (1001, .ro a2 n2 0 1 fun j => [.int .u8 (Int.ofNat (t0 j))])], addL (W * (kk - 0) + (5 * W * (kk - (p + 1)) + (740000 + R))) 100, 110, ⟨eqF_rfl _, eqF_rfl _, eqF_rfl _, eqF_rfl _, eqF_rfl _, eqF_rfl _, eqF_rfl _, eqF_rfl _, eqF_rfl _, eqF_rfl _, trivial⟩, WS, by rw [Nat.sub_zero]; (first | (simp only [addL_eq, addL_rec]; omega) | omega | exact Nat.le_refl _), 0, cb, by omega, by omega, hcb.trans ⟨.inl, fun h => h.resolve_right fun ⟨r, h, _⟩ => absurd h (Nat.not_lt_zero _)⟩, rfl, rfl, rfl, rfl⟩ ?_
          clear hcb
          rintro _ _ _ _ _ ⟨q, cb, hq0, rfl, hcb, rfl, rfl, rfl, rfl⟩
          by_cases hq : q < kk
          · have d4 := iLt_t hq
            have hb3 : W * (kk - q) = W * (kk - (q + 1)) + W := by rw [← Nat.mul_succ]; congr 1; omega
            by_cases hR : Rch (ofr T o0 o1) k (sm2 T (t0 p)) (ng (sm2 T (t0 q)))
            · cases cb
              · skip
                repeat' ((conv => whnf); first | refine eqS_rfl ?_ | refine eqA_rfl ?_ | refine eqA_of (by assumption) ?_ | refine eqS_of (by rfl) ?_ | refine eqL_rfl ?_ | refine eqJ_rfl ?_ | refine flE_intro (fun _ _ => rfl) ?_ | refine seS_rfl ?_ | refine lsS_of hup ?_ | refine lsS_rfl ?_ | refine brS_tt ?_ | refine brS_ff ?_ | refine brS_not ?_ | refine brS_t (iEq_self _) ?_ | refine brS_t (by assumption) ?_ | refine brS_f (by assumption) ?_ | refine brS_intro (fun _ => ?_) (fun _ => ?_) | refine ltS_intro (by first | assumption | decide | exact Nat.le_of_ble_eq_true rfl | omega) ?_ | refine ixS_of rfl (by first | assumption | decide | omega) ?_ | refine okS_intro (by first | assumption | kernel_rfl) ?_ | refine nzS_intro (by first | decide | assumption) ?_ | refine ltS_intro (by have := lt_of_iLt ‹iLt (Int.ofNat _) (Int.ofNat _) = true›; omega) ?_ | refine ixS_of rfl (by have := lt_of_iLt ‹iLt (Int.ofNat _) (Int.ofNat _) = true›; omega) ?_ | refine agS.mk (by kernel_rfl) ?_ | refine eqvS_of (eqC_t (by assumption)) ?_ | refine eqvS_of (eqC_f (by assumption)) ?_ | refine ltS_intro (by first | omega | (simp only [Nat.add_eq, Nat.sub_eq, Nat.mul_eq, Nat.succ_eq_add_one]; omega)) ?_ | refine call_pure (c43 F _ _) ?_ | refine call_w rfl ?_ | refine brS_t hq2 ?_ | refine ixS_of rfl hxt ?_ | refine call28 (k28 p q hlt hq _) (addL (W * (kk - (q + 1)) + (5 * W * (kk - (p + 1)) + (740000 + R)) + 300) 90) (by rfl) (by exact SeesM.cons 1000 (sees_gr (i := 800) (by rfl)) (SeesM.nil _) (fun _ _ _ _ _ _ x hx => by cases hx)) (by (first | (simp only [addL_eq, addL_rec]; omega) | omega | exact Nat.le_refl _)) (fun h => absurd hR h) (fun L p9 ch hc => ?_) | intro _)
                conv => whnf
                exact ⟨kk - (q + 1) + 1, [(5, .ptr 1 b5 0), (6, .sl 820 p1 kk kk), (8, .bool true), (46, .sl 820 p1 kk kk), (47, .int .i64 (Int.ofNat kk)), (48, .int .i64 (Int.ofNat p)), (10, .ptr 100 b10 0), (52, .sl 820 p1 kk kk), (53, .int .i64 (Int.ofNat kk)), (54, .int .i64 (Int.ofNat (q + 1)))], [(100, .own b10 50 (cl (sm2 T (t0 p)))), (820, .gr p1 kk 50 2 (fun z => cl (sm2 T (t0 z)))), (800, .gr a8 k 86 4 (fun z => rl ((ofr T o0 o1) z))), (1, .own b5 24 [.int .i64 (Int.ofNat T), .sl 800 a8 k k]), (1000, .ro a n 0 2 fun j => [.int .u8 (Int.ofNat (o0 j)), .int .u8 (Int.ofNat (o1 j))]), (1001, .ro a2 n2 0 1 fun j => [.int .u8 (Int.ofNat (t0 j))])], addL (W * (kk - (q + 1)) + (5 * W * (kk - (p + 1)) + (740000 + R))) 100, 110, by omega, ⟨eqF_rfl _, eqF_rfl _, eqF_rfl _, eqF_rfl _, eqF_rfl _, eqF_rfl _, eqF_rfl _, eqF_rfl _, eqF_rfl _, ⟨congrArg (Value.int .i64) (smn (i := q + 1) (by omega)), rfl⟩, trivial⟩, WS, by (first | (simp only [addL_eq, addL_rec]; omega) | omega | exact Nat.le_refl _), q + 1, true, by omega, rfl, ⟨fun _ => .inr ⟨q, by omega, hR⟩, fun _ => rfl⟩, rfl, rfl, rfl, rfl⟩
              · skip
                repeat' ((conv => whnf); first | refine eqS_rfl ?_ | refine eqA_rfl ?_ | refine eqA_of (by assumption) ?_ | refine eqS_of (by rfl) ?_ | refine eqL_rfl ?_ | refine eqJ_rfl ?_ | refine flE_intro (fun _ _ => rfl) ?_ | refine seS_rfl ?_ | refine lsS_of hup ?_ | refine lsS_rfl ?_ | refine brS_tt ?_ | refine brS_ff ?_ | refine brS_not ?_ | refine brS_t (iEq_self _) ?_ | refine brS_t (by assumption) ?_ | refine brS_f (by assumption) ?_ | refine brS_intro (fun _ => ?_) (fun _ => ?_) | refine ltS_intro (by first | assumption | decide | exact Nat.le_of_ble_eq_true rfl | omega) ?_ | refine ixS_of rfl (by first | assumption | decide | omega) ?_ | refine okS_intro (by first | assumption | kernel_rfl) ?_ | refine nzS_intro (by first | decide | assumption) ?_ | refine ltS_intro (by have := lt_of_iLt ‹iLt (Int.ofNat _) (Int.ofNat _) = true›; omega) ?_ | refine ixS_of rfl (by have := lt_of_iLt ‹iLt (Int.ofNat _) (Int.ofNat _) = true›; omega) ?_ | refine agS.mk (by kernel_rfl) ?_ | refine eqvS_of (eqC_t (by assumption)) ?_ | refine eqvS_of (eqC_f (by assumption)) ?_ | refine ltS_intro (by first | omega | (simp only [Nat.add_eq, Nat.sub_eq, Nat.mul_eq, Nat.succ_eq_add_one]; omega)) ?_ | refine call_pure (c43 F _ _) ?_ | refine call_w rfl ?_ | refine brS_t hq2 ?_ | refine ixS_of rfl hxt ?_ | refine call28 (k28 p q hlt hq _) (addL (W * (kk - (q + 1)) + (5 * W * (kk - (p + 1)) + (740000 + R)) + 300) 90) (by rfl) (by exact SeesM.cons 1000 (sees_gr (i := 800) (by rfl)) (SeesM.nil _) (fun _ _ _ _ _ _ x hx => by cases hx)) (by (first | (simp only [addL_eq, addL_rec]; omega) | omega | exact Nat.le_refl _)) (fun h => absurd hR h) (fun L p9 ch hc => ?_) | intro _)
                conv => whnf
                exact ⟨kk - (q + 1) + 1, [(5, .ptr 1 b5 0), (6, .sl 820 p1 kk kk), (8, .bool true), (46, .sl 820 p1 kk kk), (47, .int .i64 (Int.ofNat kk)), (48, .int .i64 (Int.ofNat p)), (10, .ptr 100 b10 0), (52, .sl 820 p1 kk kk), (53, .int .i64 (Int.ofNat kk)), (54, .int .i64 (Int.ofNat (q + 1)))], [(100, .own b10 50 (cl (sm2 T (t0 p)))), (820, .gr p1 kk 50 2 (fun z => cl (sm2 T (t0 z)))), (800, .gr a8 k 86 4 (fun z => rl ((ofr T o0 o1) z))), (1, .own b5 24 [.int .i64 (Int.ofNat T), .sl 800 a8 k k]), (1000, .ro a n 0 2 fun j => [.int .u8 (Int.ofNat (o0 j)), .int .u8 (Int.ofNat (o1 j))]), (1001, .ro a2 n2 0 1 fun j => [.int .u8 (Int.ofNat (t0 j))])], addL (W * (kk - (q + 1)) + (5 * W * (kk - (p + 1)) + (740000 + R))) 100, 110, by omega, ⟨eqF_rfl _, eqF_rfl _, eqF_rfl _, eqF_rfl _, eqF_rfl _, eqF_rfl _, eqF_rfl _, eqF_rfl _, eqF_rfl _, ⟨congrArg (Value.int .i64) (smn (i := q + 1) (by omega)), rfl⟩, trivial⟩, WS, by (first | (simp only [addL_eq, addL_rec]; omega) | omega | exact Nat.le_refl _), q + 1, true, by omega, rfl, ⟨fun _ => .inr ⟨q, by omega, hR⟩, fun _ => rfl⟩, rfl, rfl, rfl, rfl⟩
            · cases cb
              · skip
                repeat' ((conv => whnf); first | refine eqS_rfl ?_ | refine eqA_rfl ?_ | refine eqA_of (by assumption) ?_ | refine eqS_of (by rfl) ?_ | refine eqL_rfl ?_ | refine eqJ_rfl ?_ | refine flE_intro (fun _ _ => rfl) ?_ | refine seS_rfl ?_ | refine lsS_of hup ?_ | refine lsS_rfl ?_ | refine brS_tt ?_ | refine brS_ff ?_ | refine brS_not ?_ | refine brS_t (iEq_self _) ?_ | refine brS_t (by assumption) ?_ | refine brS_f (by assumption) ?_ | refine brS_intro (fun _ => ?_) (fun _ => ?_) | refine ltS_intro (by first | assumption | decide | exact Nat.le_of_ble_eq_true rfl | omega) ?_ | refine ixS_of rfl (by first | assumption | decide | omega) ?_ | refine okS_intro (by first | assumption | kernel_rfl) ?_ | refine nzS_intro (by first | decide | assumption) ?_ | refine ltS_intro (by have := lt_of_iLt ‹iLt (Int.ofNat _) (Int.ofNat _) = true›; omega) ?_ | refine ixS_of rfl (by have := lt_of_iLt ‹iLt (Int.ofNat _) (Int.ofNat _) = true›; omega) ?_ | refine agS.mk (by kernel_rfl) ?_ | refine eqvS_of (eqC_t (by assumption)) ?_ | refine eqvS_of (eqC_f (by assumption)) ?_ | refine ltS_intro (by first | omega | (simp only [Nat.add_eq, Nat.sub_eq, Nat.mul_eq, Nat.succ_eq_add_one]; omega)) ?_ | refine call_pure (c43 F _ _) ?_ | refine call_w rfl ?_ | refine brS_t hq2 ?_ | refine ixS_of rfl hxt ?_ | refine call28 (k28 p q hlt hq _) (addL (W * (kk - (q + 1)) + (5 * W * (kk - (p + 1)) + (740000 + R)) + 300) 90) (by rfl) (by exact SeesM.cons 1000 (sees_gr (i := 800) (by rfl)) (SeesM.nil _) (fun _ _ _ _ _ _ x hx => by cases hx)) (by (first | (simp only [addL_eq, addL_rec]; omega) | omega | exact Nat.le_refl _)) (fun _ => ?_) (fun L p9 ch hc => absurd hc.rch hR) | intro _)
                conv => whnf
                exact ⟨kk - (q + 1) + 1, [(5, .ptr 1 b5 0), (6, .sl 820 p1 kk kk), (8, .bool false), (46, .sl 820 p1 kk kk), (47, .int .i64 (Int.ofNat kk)), (48, .int .i64 (Int.ofNat p)), (10, .ptr 100 b10 0), (52, .sl 820 p1 kk kk), (53, .int .i64 (Int.ofNat kk)), (54, .int .i64 (Int.ofNat (q + 1)))], [(100, .own b10 50 (cl (sm2 T (t0 p)))), (820, .gr p1 kk 50 2 (fun z => cl (sm2 T (t0 z)))), (800, .gr a8 k 86 4 (fun z => rl ((ofr T o0 o1) z))), (1, .own b5 24 [.int .i64 (Int.ofNat T), .sl 800 a8 k k]), (1000, .ro a n 0 2 fun j => [.int .u8 (Int.ofNat (o0 j)), .int .u8 (Int.ofNat (o1 j))]), (1001, .ro a2 n2 0 1 fun j => [.int .u8 (Int.ofNat (t0 j))])], addL (W * (kk - (q + 1)) + (5 * W * (kk - (p + 1)) + (740000 + R))) 100, 110, by omega, ⟨eqF_rfl _, eqF_rfl _, eqF_rfl _, eqF_rfl _, eqF_rfl _, eqF_rfl _, eqF_rfl _, eqF_rfl _, eqF_rfl _, ⟨congrArg (Value.int .i64) (smn (i := q + 1) (by omega)), rfl⟩, trivial⟩, WS, by (first | (simp only [addL_eq, addL_rec]; omega) | omega | exact Nat.le_refl _), q + 1, false, by omega, rfl, ⟨fun h => (by cases h), fun h => hcb.2 (h.imp id fun ⟨r, h1, h2⟩ => ⟨r, (by have : r ≠ q := (fun e => hR (e ▸ h2)); omega), h2⟩)⟩, rfl, rfl, rfl, rfl⟩
              · skip
                repeat' ((conv => whnf); first | refine eqS_rfl ?_ | refine eqA_rfl ?_ | refine eqA_of (by assumption) ?_ | refine eqS_of (by rfl) ?_ | refine eqL_rfl ?_ | refine eqJ_rfl ?_ | refine flE_intro (fun _ _ => rfl) ?_ | refine seS_rfl ?_ | refine lsS_of hup ?_ | refine lsS_rfl ?_ | refine brS_tt ?_ | refine brS_ff ?_ | refine brS_not ?_ | refine brS_t (iEq_self _) ?_ | refine brS_t (by assumption) ?_ | refine brS_f (by assumption) ?_ | refine brS_intro (fun _ => ?_) (fun _ => ?_) | refine ltS_intro (by first | assumption | decide | exact Nat.le_of_ble_eq_true rfl | omega) ?_ | refine ixS_of rfl (by first | assumption | decide | omega) ?_ | refine okS_intro (by first | assumption | kernel_rfl) ?_ | refine nzS_intro (by first | decide | assumption) ?_ | refine ltS_intro (by have := lt_of_iLt ‹iLt (Int.ofNat _) (Int.ofNat _) = true›; omega) ?_ | refine ixS_of rfl (by have := lt_of_iLt ‹iLt (Int.ofNat _) (Int.ofNat _) = true›; omega) ?_ | refine agS.mk (by kernel_rfl) ?_ | refine eqvS_of (eqC_t (by assumption)) ?_ | refine eqvS_of (eqC_f (by assumption)) ?_ | refine ltS_intro (by first | omega | (simp only [Nat.add_eq, Nat.sub_eq, Nat.mul_eq, Nat.succ_eq_add_one]; omega)) ?_ | refine call_pure (c43 F _ _) ?_ | refine call_w rfl ?_ | refine brS_t hq2 ?_ | refine ixS_of rfl hxt ?_ | refine call28 (k28 p q hlt hq _) (addL (W * (kk - (q + 1)) + (5 * W * (kk - (p + 1)) + (740000 + R)) + 300) 90) (by rfl) (by exact SeesM.cons 1000 (sees_gr (i := 800) (by rfl)) (SeesM.nil _) (fun _ _ _ _ _ _ x hx => by cases hx)) (by (first | (simp only [addL_eq, addL_rec]; omega) | omega | exact Nat.le_refl _)) (fun _ => ?_) (fun L p9 ch hc => absurd hc.rch hR) | intro _)
                conv => whnf
                exact ⟨kk - (q + 1) + 1, [(5, .ptr 1 b5 0), (6, .sl 820 p1 kk kk), (8, .bool true), (46, .sl 820 p1 kk kk), (47, .int .i64 (Int.ofNat kk)), (48, .int .i64 (Int.ofNat p)), (10, .ptr 100 b10 0), (52, .sl 820 p1 kk kk), (53, .int .i64 (Int.ofNat kk)), (54, .int .i64 (Int.ofNat (q + 1)))], [(100, .own b10 50 (cl (sm2 T (t0 p)))), (820, .gr p1 kk 50 2 (fun z => cl (sm2 T (t0 z)))), (800, .gr a8 k 86 4 (fun z => rl ((ofr T o0 o1) z))), (1, .own b5 24 [.int .i64 (Int.ofNat T), .sl 800 a8 k k]), (1000, .ro a n 0 2 fun j => [.int .u8 (Int.ofNat (o0 j)), .int .u8 (Int.ofNat (o1 j))]), (1001, .ro a2 n2 0 1 fun j => [.int .u8 (Int.ofNat (t0 j))])], addL (W * (kk - (q + 1)) + (5 * W * (kk - (p + 1)) + (740000 + R))) 100, 110, by omega, ⟨eqF_rfl _, eqF_rfl _, eqF_rfl _, eqF_rfl _, eqF_rfl _, eqF_rfl _, eqF_rfl _, eqF_rfl _, eqF_rfl _, ⟨congrArg (Value.int .i64) (smn (i := q + 1) (by omega)), rfl⟩, trivial⟩, WS, by (first | (simp only [addL_eq, addL_rec]; omega) | omega | exact Nat.le_refl _), q + 1, true, by omega, rfl, ⟨fun _ => (hcb.1 rfl).imp id fun ⟨r, h1, h2⟩ => ⟨r, by omega, h2⟩, fun _ => rfl⟩, rfl, rfl, rfl, rfl⟩
          · have e5 : kk = q := by omega
            subst e5
            have d4 := iLt_f (Nat.le_refl kk)
            repeat' ((conv => whnf); first | refine eqS_rfl ?_ | refine eqA_rfl ?_ | refine eqA_of (by assumption) ?_ | refine eqS_of (by rfl) ?_ | refine eqL_rfl ?_ | refine eqJ_rfl ?_ | refine flE_intro (fun _ _ => rfl) ?_ | refine seS_rfl ?_ | refine lsS_of hup ?_ | refine lsS_rfl ?_ | refine brS_tt ?_ | refine brS_ff ?_ | refine brS_not ?_ | refine brS_t (iEq_self _) ?_ | refine brS_t (by assumption) ?_ | refine brS_f (by assumption) ?_ | refine brS_intro (fun _ => ?_) (fun _ => ?_) | refine ltS_intro (by first | assumption | decide | exact Nat.le_of_ble_eq_true rfl | omega) ?_ | refine ixS_of rfl (by first | assumption | decide | omega) ?_ | refine okS_intro (by first | assumption | kernel_rfl) ?_ | refine nzS_intro (by first | decide | assumption) ?_ | refine ltS_intro (by have := lt_of_iLt ‹iLt (Int.ofNat _) (Int.ofNat _) = true›; omega) ?_ | refine ixS_of rfl (by have := lt_of_iLt ‹iLt (Int.ofNat _) (Int.ofNat _) = true›; omega) ?_ | refine agS.mk (by kernel_rfl) ?_ | refine eqvS_of (eqC_t (by assumption)) ?_ | refine eqvS_of (eqC_f (by assumption)) ?_ | refine ltS_intro (by first | omega | (simp only [Nat.add_eq, Nat.sub_eq, Nat.mul_eq, Nat.succ_eq_add_one]; omega)) ?_ | refine call_pure (c43 F _ _) ?_ | refine call_w rfl ?_ | refine brS_t hq2 ?_ | refine ixS_of rfl hxt ?_ | intro _)
            conv => whnf
            exact ⟨kk - (p + 1) + 1, [(5, .ptr 1 b5 0), (6, .sl 820 p1 kk kk), (8, .bool cb), (46, .sl 820 p1 kk kk), (47, .int .i64 (Int.ofNat kk)), (48, .int .i64 (Int.ofNat (p + 1)))], [(820, .gr p1 kk 50 2 (fun z => cl (sm2 T (t0 z)))), (800, .gr a8 k 86 4 (fun z => rl ((ofr T o0 o1) z))), (1, .own b5 24 [.int .i64 (Int.ofNat T), .sl 800 a8 k k]), (1000, .ro a n 0 2 fun j => [.int .u8 (Int.ofNat (o0 j)), .int .u8 (Int.ofNat (o1 j))]), (1001, .ro a2 n2 0 1 fun j => [.int .u8 (Int.ofNat (t0 j))])], addL (5 * W * (kk - (p + 1)) + (740000 + R)) 60, 100, by omega, ⟨eqF_rfl _, eqF_rfl _, eqF_rfl _, eqF_rfl _, eqF_rfl _, ⟨congrArg (Value.int .i64) (smn (i := p + 1) (by omega)), rfl⟩, trivial⟩, WS, by (first | (simp only [addL_eq, addL_rec]; omega) | omega | exact Nat.le_refl _), p + 1, cb, by omega, rfl, hcb.trans ⟨fun h => h.elim (fun ⟨i, q, h1, h2, h3⟩ => ⟨i, q, by omega, h2, h3⟩) (fun ⟨r, h1, h2⟩ => ⟨p, r, by omega, h1, h2⟩), fun ⟨i, q, h1, h2, h3⟩ => if e : i = p then .inr ⟨q, h2, e ▸ h3⟩ else .inl ⟨i, q, by omega, h2, h3⟩⟩, rfl, rfl, rfl, rfl⟩
        · have e5 : kk = p := by omega
          subst e5
          have d3 := iLt_f (Nat.le_refl kk)
          cases cb with
          | true =>
            have hPn : ¬ (∃ bits, bits < 2 ^ T ∧ okR (ofr T o0 o1) k bits = true ∧ okG (fun z => sm2 T (t0 z)) kk bits = true) := fun h => by
              obtain ⟨i, q, h1, h2, h3⟩ := hcb.1 rfl
              exact ((hsat ()).1 h).2 i q h1 h2 h3
            have hnil2 : trL (ofr T o0 o1) k (fun z => sm2 T (t0 z)) kk (2 ^ T) = [] := by
              refine List.eq_nil_iff_forall_not_mem.2 fun bits hb => hPn ?_
              have := mem_trL.1 hb
              exact ⟨bits, this.1, this.2⟩
            rw [hnil2] at tr2
            repeat' ((conv => whnf); first | refine eqS_rfl ?_ | refine eqA_rfl ?_ | refine eqA_of (by assumption) ?_ | refine eqS_of (by rfl) ?_ | refine eqL_rfl ?_ | refine eqJ_rfl ?_ | refine flE_intro (fun _ _ => rfl) ?_ | refine seS_rfl ?_ | refine lsS_of hup ?_ | refine lsS_rfl ?_ | refine brS_tt ?_ | refine brS_ff ?_ | refine brS_not ?_ | refine brS_t (iEq_self _) ?_ | refine brS_t (by assumption) ?_ | refine brS_f (by assumption) ?_ | refine brS_intro (fun _ => ?_) (fun _ => ?_) | refine ltS_intro (by first | assumption | decide | exact Nat.le_of_ble_eq_true rfl | omega) ?_ | refine ixS_of rfl (by first | assumption | decide | omega) ?_ | refine okS_intro (by first | assumption | kernel_rfl) ?_ | refine nzS_intro (by first | decide | assumption) ?_ | refine ltS_intro (by have := lt_of_iLt ‹iLt (Int.ofNat _) (Int.ofNat _) = true›; omega) ?_ | refine ixS_of rfl (by have := lt_of_iLt ‹iLt (Int.ofNat _) (Int.ofNat _) = true›; omega) ?_ | refine agS.mk (by kernel_rfl) ?_ | refine eqvS_of (eqC_t (by assumption)) ?_ | refine eqvS_of (eqC_f (by assumption)) ?_ | refine ltS_intro (by first | omega | (simp only [Nat.add_eq, Nat.sub_eq, Nat.mul_eq, Nat.succ_eq_add_one]; omega)) ?_ | refine call_pure (c43 F _ _) ?_ | refine call_w rfl ?_ | refine brS_t hq2 ?_ | refine ixS_of rfl hxt ?_ | refine callS.gr_ne1 (i := 820) (a := p1) (n := kk) (e := 50) (sz := 2) (f := fun z => cl (sm2 T (t0 z))) (by repeat' (first | exact List.Mem.head _ | refine List.Mem.tail _ ?_)) (fun hq1 => call18 (k18 p1 hp0 hq1 _) (addL (60000 + R) 50) (by rfl) (by exact SeesM.cons 1000 (sees_gr (i := 800) (by rfl)) (SeesM.cons 1001 (sees_gr (i := 820) (by rfl)) (SeesM.nil _) (fun _ _ _ _ _ _ x hx => by cases hx)) (fun _ _ _ _ _ _ x hx => by rcases List.mem_singleton.1 hx with rfl; exact fun _ h => h)) (by (first | (simp only [addL_eq, addL_rec]; omega) | omega | exact Nat.le_refl _)) (fun _ => ?_) (fun h => absurd h hPn)) | refine call41 (tr2 _ _) (addL (30000 + R) 40) (by rfl) (by exact SeesM.cons 1000 (sees_gr (i := 800) (by rfl)) (SeesM.cons 1001 (sees_gr (i := 820) (by rfl)) (SeesM.nil _) (fun _ _ _ _ _ _ x hx => by cases hx)) (fun _ _ _ _ _ _ x hx => by rcases List.mem_singleton.1 hx with rfl; exact fun _ h => h)) (by (first | (simp only [addL_eq, addL_rec]; omega) | omega | exact Nat.le_refl _)) ?_ | intro _)
            conv => whnf
            exact ⟨rfl, by (first | (simp only [addL_eq, addL_rec]; omega) | omega | exact Nat.le_refl _)⟩
          | false =>
            have hP : (∃ bits, bits < 2 ^ T ∧ okR (ofr T o0 o1) k bits = true ∧ okG (fun z => sm2 T (t0 z)) kk bits = true) := (hsat ()).2 ⟨hPo, fun i q h1 h2 h3 => by have := hcb.2 ⟨i, q, h1, h2, h3⟩; cases this⟩
            obtain ⟨bits, b1, b2, b3', b4, _⟩ := first_tv (T := T) (n0 := kk) (gv := (fun z => sm2 T (t0 z))) (tv := tv) hr hg0 htv hP
            have e4 : ∀ x, x < 2 * T → trV tv x = trB bits x := fun x hx => by unfold trV trB; rw [b4 _ (by omega)]
            have hv : ∀ j, j < k → trV tv ((ofr T o0 o1) j).1 = true ∨ trV tv ((ofr T o0 o1) j).2 = true := fun j hj => by
              have := mem_okR.1 b2 j hj
              rw [e4 _ (hr j hj).1, e4 _ (hr j hj).2]; exact this
            repeat' ((conv => whnf); first | refine eqS_rfl ?_ | refine eqA_rfl ?_ | refine eqA_of (by assumption) ?_ | refine eqS_of (by rfl) ?_ | refine eqL_rfl ?_ | refine eqJ_rfl ?_ | refine flE_intro (fun _ _ => rfl) ?_ | refine seS_rfl ?_ | refine lsS_of hup ?_ | refine lsS_rfl ?_ | refine brS_tt ?_ | refine brS_ff ?_ | refine brS_not ?_ | refine brS_t (iEq_self _) ?_ | refine brS_t (by assumption) ?_ | refine brS_f (by assumption) ?_ | refine brS_intro (fun _ => ?_) (fun _ => ?_) | refine ltS_intro (by first | assumption | decide | exact Nat.le_of_ble_eq_true rfl | omega) ?_ | refine ixS_of rfl (by first | assumption | decide | omega) ?_ | refine okS_intro (by first | assumption | kernel_rfl) ?_ | refine nzS_intro (by first | decide | assumption) ?_ | refine ltS_intro (by have := lt_of_iLt ‹iLt (Int.ofNat _) (Int.ofNat _) = true›; omega) ?_ | refine ixS_of rfl (by have := lt_of_iLt ‹iLt (Int.ofNat _) (Int.ofNat _) = true›; omega) ?_ | refine agS.mk (by kernel_rfl) ?_ | refine eqvS_of (eqC_t (by assumption)) ?_ | refine eqvS_of (eqC_f (by assumption)) ?_ | refine ltS_intro (by first | omega | (simp only [Nat.add_eq, Nat.sub_eq, Nat.mul_eq, Nat.succ_eq_add_one]; omega)) ?_ | refine call_pure (c43 F _ _) ?_ | refine call_w rfl ?_ | refine brS_t hq2 ?_ | refine ixS_of rfl hxt ?_ | refine callS.gr_ne1 (i := 820) (a := p1) (n := kk) (e := 50) (sz := 2) (f := fun z => cl (sm2 T (t0 z))) (by repeat' (first | exact List.Mem.head _ | refine List.Mem.tail _ ?_)) (fun hq1 => call18 (k18 p1 hp0 hq1 _) (addL (60000 + R) 50) (by rfl) (by exact SeesM.cons 1000 (sees_gr (i := 800) (by rfl)) (SeesM.cons 1001 (sees_gr (i := 820) (by rfl)) (SeesM.nil _) (fun _ _ _ _ _ _ x hx => by cases hx)) (fun _ _ _ _ _ _ x hx => by rcases List.mem_singleton.1 hx with rfl; exact fun _ h => h)) (by (first | (simp only [addL_eq, addL_rec]; omega) | omega | exact Nat.le_refl _)) (fun h => absurd hP h) (fun _ pv => ?_)) | intro _)
            conv => whnf
            refine loS_i (fun jj f mm R' ni => ∃ z : Nat, z ≤ kk ∧ jj = kk - z + 1 ∧ f = [(5, .ptr 1 b5 0), (15, .sl 860 pv T T), (101, .sl 820 p1 kk kk), (102, .int .i64 (Int.ofNat kk)), (103, .int .i64 (Int.ofNat z))] ∧ mm = [(860, .gr pv T 4 1 (fun z => [.bool (tv z)])), (820, .gr p1 kk 50 2 (fun z => cl (sm2 T (t0 z)))), (800, .gr a8 k 86 4 (fun z => rl ((ofr T o0 o1) z))), (1, .own b5 24 [.int .i64 (Int.ofNat T), .sl 800 a8 k k]), (1000, .ro a n 0 2 fun j => [.int .u8 (Int.ofNat (o0 j)), .int .u8 (Int.ofNat (o1 j))]), (1001, .ro a2 n2 0 1 fun j => [.int .u8 (Int.ofNat (t0 j))])] ∧ R' = addL (60 * (kk - z) + (50000 + R)) 60 ∧ ni = 200) (kk + 1) (by omega)
              ⟨[(5, .ptr 1 b5 0), (15, .sl 860 pv T T), (101, .sl 820 p1 kk kk), (102, .int .i64 (Int.ofNat kk)), (103, .int .i64 (Int.ofNat 0))], [(860, .gr pv T 4 1 (fun z => [.bool (tv z)])), (820, .gr p1 kk 50 2 (fun z => cl (sm2 T (t0 z)))), (800, .gr a8 k 86 4 (fun z => rl ((ofr T o0 o1) z))), (1, .own b5 24 [.int .i64 (Int.ofNat T), .sl 800 a8 k k]), (1000, .ro a n 0 2 fun j => [.int .u8 (Int.ofNat (o0 j)), .int .u8 (Int.ofNat (o1 j))]), (1001, .ro a2 n2 0 1 fun j => [.int .u8 (Int.ofNat (t0 j))])], addL (60 * (kk - 0) + (50000 + R)) 60, 200, ⟨eqF_rfl _, eqF_rfl _, eqF_rfl _, eqF_rfl _, eqF_rfl _, trivial⟩, WS, by (first | (simp only [addL_eq, addL_rec]; omega) | omega | exact Nat.le_refl _), 0, by omega, by omega, rfl, rfl, rfl, rfl⟩ ?_
            rintro _ _ _ _ _ ⟨z, hz0, rfl, rfl, rfl, rfl, rfl⟩
            by_cases hz1 : z < kk
            · have d5 := iLt_t hz1
              have hxl : sm2 T (t0 z) < 2 * T := sm2_lt hT0
              have hxt : sm2 T (t0 z) / 2 < T := by omega
              have hq2 : (tv (sm2 T (t0 z) / 2) == (sm2 T (t0 z) % 2 == 1)) = true := (e4 _ hxl).trans (mem_okG.1 b3' z hz1)
              repeat' ((conv => whnf); first | refine eqS_rfl ?_ | refine eqA_rfl ?_ | refine eqA_of (by assumption) ?_ | refine eqS_of (by rfl) ?_ | refine eqL_rfl ?_ | refine eqJ_rfl ?_ | refine flE_intro (fun _ _ => rfl) ?_ | refine seS_rfl ?_ | refine lsS_of hup ?_ | refine lsS_rfl ?_ | refine brS_tt ?_ | refine brS_ff ?_ | refine brS_not ?_ | refine brS_t (iEq_self _) ?_ | refine brS_t (by assumption) ?_ | refine brS_f (by assumption) ?_ | refine brS_intro (fun _ => ?_) (fun _ => ?_) | refine ltS_intro (by first | assumption | decide | exact Nat.le_of_ble_eq_true rfl | omega) ?_ | refine ixS_of rfl (by first | assumption | decide | omega) ?_ | refine okS_intro (by first | assumption | kernel_rfl) ?_ | refine nzS_intro (by first | decide | assumption) ?_ | refine ltS_intro (by have := lt_of_iLt ‹iLt (Int.ofNat _) (Int.ofNat _) = true›; omega) ?_ | refine ixS_of rfl (by have := lt_of_iLt ‹iLt (Int.ofNat _) (Int.ofNat _) = true›; omega) ?_ | refine agS.mk (by kernel_rfl) ?_ | refine eqvS_of (eqC_t (by assumption)) ?_ | refine eqvS_of (eqC_f (by assumption)) ?_ | refine ltS_intro (by first | omega | (simp only [Nat.add_eq, Nat.sub_eq, Nat.mul_eq, Nat.succ_eq_add_one]; omega)) ?_ | refine call_pure (c43 F _ _) ?_ | refine call_w rfl ?_ | refine brS_t hq2 ?_ | refine ixS_of rfl hxt ?_ | intro _)
              conv => whnf
              exact ⟨kk - (z + 1) + 1, [(5, .ptr 1 b5 0), (15, .sl 860 pv T T), (101, .sl 820 p1 kk kk), (102, .int .i64 (Int.ofNat kk)), (103, .int .i64 (Int.ofNat (z + 1)))], [(860, .gr pv T 4 1 (fun z => [.bool (tv z)])), (820, .gr p1 kk 50 2 (fun z => cl (sm2 T (t0 z)))), (800, .gr a8 k 86 4 (fun z => rl ((ofr T o0 o1) z))), (1, .own b5 24 [.int .i64 (Int.ofNat T), .sl 800 a8 k k]), (1000, .ro a n 0 2 fun j => [.int .u8 (Int.ofNat (o0 j)), .int .u8 (Int.ofNat (o1 j))]), (1001, .ro a2 n2 0 1 fun j => [.int .u8 (Int.ofNat (t0 j))])], addL (60 * (kk - (z + 1)) + (50000 + R)) 60, 200, by omega, ⟨eqF_rfl _, eqF_rfl _, eqF_rfl _, eqF_rfl _, ⟨congrArg (Value.int .i64) (smn (i := z + 1) (by omega)), rfl⟩, trivial⟩, WS, by (first | (simp only [addL_eq, addL_rec]; omega) | omega | exact Nat.le_refl _), z + 1, by omega, rfl, rfl, rfl, rfl, rfl⟩
            · have e5 : kk = z := by omega
              subst e5
              have d5 := iLt_f (Nat.le_refl kk)
              have k22 := fun a => c22 F (d + 5) (by omega) T ⟨by omega, by omega⟩ a k 87 k (by omega) (ofr T o0 o1) hr pv T tv hv
              repeat' ((conv => whnf); first | refine eqS_rfl ?_ | refine eqA_rfl ?_ | refine eqA_of (by assumption) ?_ | refine eqS_of (by rfl) ?_ | refine eqL_rfl ?_ | refine eqJ_rfl ?_ | refine flE_intro (fun _ _ => rfl) ?_ | refine seS_rfl ?_ | refine lsS_of hup ?_ | refine lsS_rfl ?_ | refine brS_tt ?_ | refine brS_ff ?_ | refine brS_not ?_ | refine brS_t (iEq_self _) ?_ | refine brS_t (by assumption) ?_ | refine brS_f (by assumption) ?_ | refine brS_intro (fun _ => ?_) (fun _ => ?_) | refine ltS_intro (by first | assumption | decide | exact Nat.le_of_ble_eq_true rfl | omega) ?_ | refine ixS_of rfl (by first | assumption | decide | omega) ?_ | refine okS_intro (by first | assumption | kernel_rfl) ?_ | refine nzS_intro (by first | decide | assumption) ?_ | refine ltS_intro (by have := lt_of_iLt ‹iLt (Int.ofNat _) (Int.ofNat _) = true›; omega) ?_ | refine ixS_of rfl (by have := lt_of_iLt ‹iLt (Int.ofNat _) (Int.ofNat _) = true›; omega) ?_ | refine agS.mk (by kernel_rfl) ?_ | refine eqvS_of (eqC_t (by assumption)) ?_ | refine eqvS_of (eqC_f (by assumption)) ?_ | refine ltS_intro (by first | omega | (simp only [Nat.add_eq, Nat.sub_eq, Nat.mul_eq, Nat.succ_eq_add_one]; omega)) ?_ | refine call_pure (c43 F _ _) ?_ | refine call_w rfl ?_ | refine brS_t hq2 ?_ | refine ixS_of rfl hxt ?_ | refine call_readL (k22 _) (addL (1000 + R) 60) (by rfl) (by exact SeesM.cons 1000 (sees_gr (i := 800) (by rfl)) (SeesM.cons 1001 (sees_gr (i := 860) (by rfl)) (SeesM.nil _) (fun _ _ _ _ _ _ x hx => by cases hx)) (fun _ _ _ _ _ _ x hx => by rcases List.mem_singleton.1 hx with rfl; exact fun _ h => h)) (by (first | (simp only [addL_eq, addL_rec]; omega) | omega | exact Nat.le_refl _)) ?_ | intro _)
              conv => whnf
              exact ⟨rfl, by (first | (simp only [addL_eq, addL_rec]; omega) | omega | exact Nat.le_refl _)⟩
end Go.Proofs.Ytoocmgefoagfnaa
