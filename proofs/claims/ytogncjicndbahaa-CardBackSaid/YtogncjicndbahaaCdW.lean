/- Card: Allowance, Deviation. -/
import Derived.Test.YtogncjicndbahaaCdV
import Derived.KernelRfl
namespace Go.Proofs.Ytogncjicndbahaa
open Go.Ab
attribute [local irreducible] aggOk drwOK
set_option maxRecDepth 100000
set_option maxHeartbeats 4000000
set_option linter.unusedVariables false
set_option linter.unusedSimpArgs false
/-- the allowance of a sound card -/
structure Alw (n : Nat) (h dv : Nat → Int) (m : Int) (x q : Rat) (k : Nat) : Prop where
  sg : Seg n h x k
  hq : q = dvU n h dv x k
  vq : Vb q 900 6000
  e : ∃ z : Int, x + q = ((m + 3600 * z : Int) : Rat)
theorem alw_of {n : Nat} {h dv : Nat → Int} (hv : VC n h dv) {m : Int} (hm : 0 ≤ m ∧ m < 3600) {k : Nat} (hk : k < n) (hr : 0 < rs n h dv k) {x : Rat} {w : Int} (cI : CsI n h dv m k x w) : Alw n h dv m x (dvU n h dv x k) k := by
  have cU := csU_of hv hm hk cI
  have hB := hv.sg hk
  obtain ⟨_, _, _, _, _, w6⟩ := csW_bd hB hm
  have hW := csW_mod hB hm
  have b1 := hB.h
  have b2 := hB.l
  have b3 := hB.d
  have b4 := hB.e
  have hR : csR (h k) (dv k) (nh n h k) (nd n dv k) = rs n h dv k := by unfold csR; unfold rs at hr ⊢; rw [if_neg (by omega)]
  have hw := cI.w0
  have hwm := cI.wm
  have he := cU.eq
  rw [hR] at hw w6 he
  obtain ⟨u1, u2⟩ := uR_num h x
  have hD : (x.den : Rat) ≠ 0 := by intro hh; rw [Rat.natCast_eq_zero_iff] at hh; exact x.den_nz hh
  have hRr : ((rs n h dv k : Int) : Rat) ≠ 0 := by intro hh; rw [Rat.intCast_eq_zero_iff] at hh; omega
  have hLr : ((nh n h k - h k : Int) : Rat) ≠ 0 := by intro hh; rw [Rat.intCast_eq_zero_iff] at hh; omega
  -- (U - h) R = l w
  have hU : (uR h x - ((h k : Int) : Rat)) * ((rs n h dv k : Int) : Rat) = ((nh n h k - h k : Int) : Rat) * (w : Rat) := by
    have e1 : ((cuU h x.num x.den : Int) : Rat) = uR h x * (x.den : Rat) := by rw [← u1, rat_num (uR h x), u2]
    have e2 : (((cuU h x.num x.den : Int) : Rat) - ((h k : Int) : Rat) * (x.den : Rat)) * ((rs n h dv k : Int) : Rat) = ((nh n h k - h k : Int) : Rat) * (w : Rat) * (x.den : Rat) := by exact_mod_cast congrArg (fun z : Int => (z : Rat)) he
    rw [e1] at e2
    generalize ((rs n h dv k : Int) : Rat) = R at *
    generalize ((nh n h k - h k : Int) : Rat) = L at *
    generalize ((h k : Int) : Rat) = b at *
    generalize uR h x = U at *
    generalize (x.den : Rat) = D at *
    generalize (w : Rat) = W at *
    grind
  have hq : dvU n h dv x k = ((dv k * rs n h dv k + w * (nd n dv k - dv k) : Int) : Rat) / ((rs n h dv k : Int) : Rat) := by
    unfold dvU
    push_cast
    push_cast at hU hLr
    generalize ((rs n h dv k : Int) : Rat) = R at *
    generalize ((nh n h k : Int) : Rat) = H at *
    generalize ((h k : Int) : Rat) = b at *
    generalize uR h x = U at *
    generalize (w : Rat) = W at *
    generalize ((dv k : Int) : Rat) = dd at *
    generalize ((nd n dv k : Int) : Rat) = ee at *
    grind
  have hz : ∃ z0 : Int, h k + dv k + w = m + 3600 * z0 := by
    unfold csW0 at hW
    unfold rs at hr
    rw [if_neg (by omega)] at hW
    rcases hwm with e | e
    · exact ⟨(h k + dv k + w - m) / 3600, by omega⟩
    · exact ⟨(h k + dv k + w - m) / 3600, by omega⟩
  refine ⟨seg_U hk cU, rfl, ?_, ?_⟩
  · rw [hq]
    have p1 : dv k * (rs n h dv k - w) ≤ 900 * (rs n h dv k - w) := Int.mul_le_mul_of_nonneg_right (by omega) (by omega)
    have p2 : -900 * (rs n h dv k - w) ≤ dv k * (rs n h dv k - w) := Int.mul_le_mul_of_nonneg_right (by omega) (by omega)
    have p3 : nd n dv k * w ≤ 900 * w := Int.mul_le_mul_of_nonneg_right (by omega) (by omega)
    have p4 : -900 * w ≤ nd n dv k * w := Int.mul_le_mul_of_nonneg_right (by omega) (by omega)
    have p5 : dv k * rs n h dv k + w * (nd n dv k - dv k) = dv k * (rs n h dv k - w) + nd n dv k * w := by grind
    refine Vb.div (by omega) ?_ ?_ (by omega)
    · show -((900 : Int) * _) ≤ _; omega
    · show _ ≤ (900 : Int) * _; omega
  · obtain ⟨z0, hz⟩ := hz
    have e3 : uR h x + dvU n h dv x k = ((m + 3600 * z0 : Int) : Rat) := by
      rw [← hz, hq]
      have hrs : ((rs n h dv k : Int) : Rat) = ((nh n h k : Int) : Rat) + ((nd n dv k : Int) : Rat) - (((h k : Int) : Rat) + ((dv k : Int) : Rat)) := by unfold rs; push_cast; rfl
      push_cast
      push_cast at hU
      generalize ((rs n h dv k : Int) : Rat) = R at *
      generalize ((nh n h k : Int) : Rat) = H at *
      generalize ((h k : Int) : Rat) = b at *
      generalize uR h x = U at *
      generalize (w : Rat) = W at *
      generalize ((dv k : Int) : Rat) = dd at *
      generalize ((nd n dv k : Int) : Rat) = ee at *
      grind
    by_cases hc : x < ((h 0 : Int) : Rat)
    · refine ⟨z0 - 1, ?_⟩
      have : uR h x = x + ((3600 : Int) : Rat) := by unfold uR; rw [if_pos hc]
      rw [this] at e3
      push_cast at e3 ⊢
      grind
    · refine ⟨z0, ?_⟩
      have : uR h x = x := by unfold uR; rw [if_neg hc]
      rw [this] at e3
      exact e3
/-- of a sound card: its course, its allowance -/
theorem alw_ex {n : Nat} {h dv : Nat → Int} (hv : VC n h dv) {m : Int} (hm : 0 ≤ m ∧ m < 3600) (hs : ∀ k, k < n → 0 < rs n h dv k) : ∃ x k, csA n h dv m n = [x] ∧ Alw n h dv m x (dvU n h dv x k) k ∧ Vb x 3600 6000 ∧ 0 ≤ x ∧ x < 3600 := by
  have h1 := csA_one hv hm hs
  match hl : csA n h dv m n, h1 with
  | [x], _ =>
    have hx : x ∈ csA n h dv m n := by rw [hl]; simp
    obtain ⟨k, hk, h2⟩ := csA_mem.1 hx
    obtain ⟨w, c1⟩ := csI_of hv hm hk h2
    obtain ⟨v1, v2, v3⟩ := csL_vb (hv.sg hk) hm h2
    exact ⟨x, k, rfl, alw_of hv hm hk (hs k hk) c1, v1, v2, v3⟩
theorem perm_one {L : List Rat} {x : Rat} (h : L.Perm [x]) : L = [x] := List.perm_singleton.1 h
theorem snd_st {n : Nat} {h dv : Nat → Int} {m : Int} (hs : ∀ k, k < n → 0 < rs n h dv k) : ¬ ∃ k, k < n ∧ stK n h dv m k := fun ⟨k, hk, h0, _⟩ => by have := hs k hk; omega
theorem snd_fo {n : Nat} {h dv : Nat → Int} (hs : ∀ k, k < n → 0 < rs n h dv k) : (foL n h dv n).length = 0 := by
  have : foL n h dv n = [] := by
    unfold foL
    rw [List.filter_eq_nil_iff]
    intro k hk
    have := hs k (List.mem_range.1 hk)
    simpa using this
  rw [this]; rfl
theorem c48 (F d : Nat) (hF : 300 < F) (a : Option Addr) (n e c : Nat) (h dv : Nat → Int) (hv : VC n h dv) (m : Int) (hm : 0 ≤ m ∧ m < 3600) (x q : Rat) (k : Nat) (hx : csA n h dv m n = [x]) (hA : Alw n h dv m x q k) (v1 : Vb x 3600 6000) (v2 : 0 ≤ x) (v3 : x < 3600) : ReadC (CL F (d + 9)) 48 [.sl 1000 a n c, .int .i64 m] [(1000, .ro a n e 2 fun j => [.int .i64 (h j), .int .i64 (dv j)])] (35000000 + 900) (fr q) := by
  have h12 : (csA n h dv m n).length ≤ 12 := by rw [hx]; exact Nat.le_of_ble_eq_true rfl
  intro R
  rw [show 35000000 + 900 = (35000000) + 900 from rfl, addL_eq, ← Nat.add_assoc, ← addL_eq _ 900, Nat.add_comm R (35000000)]
  refine call_in (n := 12) Try.func48 rfl rfl rfl rfl rfl rfl rfl ?_
  repeat' ((conv => whnf); first | refine eqS_rfl ?_ | refine eqA_rfl ?_ | refine eqA_of (by assumption) ?_ | refine eqS_of (by rfl) ?_ | refine eqL_rfl ?_ | refine eqJ_rfl ?_ | refine gE ?_ | refine seS_rfl ?_ | refine lsS_of hup ?_ | refine lsS_rfl ?_ | refine brS_tt ?_ | refine brS_ff ?_ | refine brS_not ?_ | refine gI ?_ | refine gT ?_ | refine gF ?_ | refine brS_intro (fun _ => ?_) (fun _ => ?_) | refine gL ?_ | refine gX ?_ | refine gO ?_ | refine gN ?_ | intro _)
  conv => whnf
  refine call38 F d hF 601 a n e c h dv hv m hm h12 (addL (4100000 + R) 900) (by rfl) (by exact SeesM.cons 1000 (sees_ro (i := 1000) (by rfl)) (SeesM.nil _) (fun _ _ _ _ _ _ x hx => by cases hx)) (nM1) ?_
  intro a1 L2 hp hS
  rw [hx] at hp
  obtain rfl := perm_one hp
  repeat' ((conv => whnf); first | refine eqS_rfl ?_ | refine eqA_rfl ?_ | refine eqA_of (by assumption) ?_ | refine eqS_of (by rfl) ?_ | refine eqL_rfl ?_ | refine eqJ_rfl ?_ | refine gE ?_ | refine seS_rfl ?_ | refine lsS_of hup ?_ | refine lsS_rfl ?_ | refine brS_tt ?_ | refine brS_ff ?_ | refine brS_not ?_ | refine gI ?_ | refine gT ?_ | refine gF ?_ | refine brS_intro (fun _ => ?_) (fun _ => ?_) | refine gL ?_ | refine gX ?_ | refine gO ?_ | refine gN ?_ | refine ixS_of (q := 0) rfl (by exact Nat.succ_pos _) ?_ | refine call_readL (c54u F (d + 1) hF a n e c h dv hv x v1 v2 v3 k hA.sg q hA.hq) (addL R 900) (by rfl) (by exact SeesM.cons 1000 (sees_ro (i := 1000) (by rfl)) (SeesM.nil _) (fun _ _ _ _ _ _ x hx => by cases hx)) (nM1) ?_ | intro _)
  conv => whnf
  exact ⟨rfl, nM1⟩
theorem c21 (F d : Nat) (hF : 300 < F) (a : Option Addr) (n e c : Nat) (h dv : Nat → Int) (hv : VC n h dv) (m : Int) (hm : 0 ≤ m ∧ m < 3600) (x q : Rat) (k : Nat) (hs : ∀ k, k < n → 0 < rs n h dv k) (hx : csA n h dv m n = [x]) (hA : Alw n h dv m x q k) (v1 : Vb x 3600 6000) (v2 : 0 ≤ x) (v3 : x < 3600) : ReadC (CL F (d + 10)) 21 [.sl 1000 a n c, .int .i64 m] [(1000, .ro a n e 2 fun j => [.int .i64 (h j), .int .i64 (dv j)])] (36000000 + 900) (.tup [fr q, .int .i64 0]) := by
  have hf := snd_fo hs
  have t1 : iLt 0 (Int.ofNat (foL n h dv n).length) = false := by rw [hf]; rfl
  intro R
  rw [show 36000000 + 900 = (36000000) + 900 from rfl, addL_eq, ← Nat.add_assoc, ← addL_eq _ 900, Nat.add_comm R (36000000)]
  refine call_in (n := 23) Try.func21 rfl rfl rfl rfl rfl rfl rfl ?_
  repeat' ((conv => whnf); first | refine eqS_rfl ?_ | refine eqA_rfl ?_ | refine eqA_of (by assumption) ?_ | refine eqS_of (by rfl) ?_ | refine eqL_rfl ?_ | refine eqJ_rfl ?_ | refine gE ?_ | refine seS_rfl ?_ | refine lsS_of hup ?_ | refine lsS_rfl ?_ | refine brS_tt ?_ | refine brS_ff ?_ | refine brS_not ?_ | refine gI ?_ | refine gT ?_ | refine gF ?_ | refine brS_intro (fun _ => ?_) (fun _ => ?_) | refine gL ?_ | refine gX ?_ | refine gO ?_ | refine gN ?_ | refine call_readL (c36 F _ (by omega) a n e c h dv hv m hm) (addL (35900000 + R) 900) (by rfl) (by exact SeesM.cons 1000 (sees_ro (i := 1000) (by rfl)) (SeesM.nil _) (fun _ _ _ _ _ _ x hx => by cases hx)) (nM1) ?_ | refine call39 F (d + 4) hF 601 a n e c h dv hv (addL (35500000 + R) 900) (by rfl) (by exact SeesM.cons 1000 (sees_ro (i := 1000) (by rfl)) (SeesM.nil _) (fun _ _ _ _ _ _ x hx => by cases hx)) (nM1) ?_ | refine call_readL (c48 F d hF a n e c h dv hv m hm x q k hx hA v1 v2 v3) (addL R 900) (by rfl) (by exact SeesM.cons 1000 (sees_ro (i := 1000) (by rfl)) (SeesM.nil _) (fun _ _ _ _ _ _ x hx => by cases hx)) (nM1) ?_ | intro _)
  conv => whnf
  exact ⟨rfl, nM1⟩
theorem c21f (F d : Nat) (hF : 300 < F) (a : Option Addr) (n e c : Nat) (h dv : Nat → Int) (hv : VC n h dv) (m : Int) (hm : 0 ≤ m ∧ m < 3600) (hs : ¬ ∀ k, k < n → 0 < rs n h dv k) : ReadC (CL F (d + 10)) 21 [.sl 1000 a n c, .int .i64 m] [(1000, .ro a n e 2 fun j => [.int .i64 (h j), .int .i64 (dv j)])] (36000000 + 900) (.tup [.agg [.int .i64 0, .int .i64 0], .int .i64 21]) := by
  have hf : 0 < (foL n h dv n).length := Nat.pos_of_ne_zero fun h0 => hs (foL_nil h0)
  have t1 : iLt 0 (Int.ofNat (foL n h dv n).length) = true := iLt_t (a := 0) hf
  intro R
  rw [show 36000000 + 900 = (36000000) + 900 from rfl, addL_eq, ← Nat.add_assoc, ← addL_eq _ 900, Nat.add_comm R (36000000)]
  refine call_in (n := 23) Try.func21 rfl rfl rfl rfl rfl rfl rfl ?_
  repeat' ((conv => whnf); first | refine eqS_rfl ?_ | refine eqA_rfl ?_ | refine eqA_of (by assumption) ?_ | refine eqS_of (by rfl) ?_ | refine eqL_rfl ?_ | refine eqJ_rfl ?_ | refine gE ?_ | refine seS_rfl ?_ | refine lsS_of hup ?_ | refine lsS_rfl ?_ | refine brS_tt ?_ | refine brS_ff ?_ | refine brS_not ?_ | refine gI ?_ | refine gT ?_ | refine gF ?_ | refine brS_intro (fun _ => ?_) (fun _ => ?_) | refine gL ?_ | refine gX ?_ | refine gO ?_ | refine gN ?_ | refine call_readL (c36 F _ (by omega) a n e c h dv hv m hm) (addL (35900000 + R) 900) (by rfl) (by exact SeesM.cons 1000 (sees_ro (i := 1000) (by rfl)) (SeesM.nil _) (fun _ _ _ _ _ _ x hx => by cases hx)) (nM1) ?_ | refine call39 F (d + 4) hF 601 a n e c h dv hv (addL (35500000 + R) 900) (by rfl) (by exact SeesM.cons 1000 (sees_ro (i := 1000) (by rfl)) (SeesM.nil _) (fun _ _ _ _ _ _ x hx => by cases hx)) (nM1) ?_ | intro _)
  conv => whnf
  exact ⟨rfl, nM1⟩
theorem c24 (F d : Nat) (hF : 300 < F) (a : Option Addr) (n e c : Nat) (h dv : Nat → Int) (hv : VC n h dv) (m : Int) (hm : 0 ≤ m ∧ m < 3600) (q : Rat) (k : Nat) (hs : Seg n h (m : Rat) k) (hq : q = dvU n h dv (m : Rat) k) : ReadC (CL F (d + 8)) 24 [.sl 1000 a n c, .int .i64 m] [(1000, .ro a n e 2 fun j => [.int .i64 (h j), .int .i64 (dv j)])] (5000000 + 900) (.tup [fr q, .int .i64 0]) := by
  have v1 : Vb (m : Rat) 3600 6000 := (Vb.int (V := 3600) (by omega)).mono (by decide) (by decide)
  have v2 : (0 : Rat) ≤ (m : Rat) := Rat.intCast_le_intCast.2 hm.1
  have v3 : (m : Rat) < (3600 : Rat) := Rat.intCast_lt_intCast.2 hm.2
  intro R
  rw [show 5000000 + 900 = (5000000) + 900 from rfl, addL_eq, ← Nat.add_assoc, ← addL_eq _ 900, Nat.add_comm R (5000000)]
  refine call_in (n := 18) Try.func24 rfl rfl rfl rfl rfl rfl rfl ?_
  repeat' ((conv => whnf); first | refine eqS_rfl ?_ | refine eqA_rfl ?_ | refine eqA_of (by assumption) ?_ | refine eqS_of (by rfl) ?_ | refine eqL_rfl ?_ | refine eqJ_rfl ?_ | refine gE ?_ | refine seS_rfl ?_ | refine lsS_of hup ?_ | refine lsS_rfl ?_ | refine brS_tt ?_ | refine brS_ff ?_ | refine brS_not ?_ | refine gI ?_ | refine gT ?_ | refine gF ?_ | refine brS_intro (fun _ => ?_) (fun _ => ?_) | refine gL ?_ | refine gX ?_ | refine gO ?_ | refine gN ?_ | refine call_readL (c36 F _ (by omega) a n e c h dv hv m hm) (addL (4500000 + R) 900) (by rfl) (by exact SeesM.cons 1000 (sees_ro (i := 1000) (by rfl)) (SeesM.nil _) (fun _ _ _ _ _ _ x hx => by cases hx)) (nM1) ?_ | refine call_pure (c53 F _ _ _ rfl) ?_ | refine call_readL (c54u F d hF a n e c h dv hv (m : Rat) v1 v2 v3 k hs q hq) (addL R 900) (by rfl) (by exact SeesM.cons 1000 (sees_ro (i := 1000) (by rfl)) (SeesM.nil _) (fun _ _ _ _ _ _ x hx => by cases hx)) (nM1) ?_ | intro _)
  conv => whnf
  exact ⟨rfl, nM1⟩
theorem c27 (F d : Nat) (q : Rat) (hq : Vb q 900 6000) : PureC (CL F (d + 1)) 27 [fr q] 60 (.bool true) := by
  have hd := q.den_pos
  have hd2 := hq.d
  have n0 := hq.lo
  have n1 := hq.hi
  have e1 : wr .i64 (Int.mul 10000 (Int.ofNat q.den)) = 10000 * (q.den : Int) := smW (n := 10000 * (q.den : Int)) (by omega)
  have e2 : wr .i64 (Int.mul (-10000) (Int.ofNat q.den)) = -10000 * (q.den : Int) := smW (n := -10000 * (q.den : Int)) (by omega)
  have t1 : iLt (Int.ofNat q.den) 1 = false := ltF (by show (1 : Int) ≤ (q.den : Int); omega)
  have t2 : iLt 6000 (Int.ofNat q.den) = false := ltF (by show (q.den : Int) ≤ 6000; omega)
  have t3 : iLt q.num (wr .i64 (Int.mul 10000 (Int.ofNat q.den))) = true := by rw [e1]; exact ltT (by omega)
  have t4 : iLt (wr .i64 (Int.mul (-10000) (Int.ofNat q.den))) q.num = true := by rw [e2]; exact ltT (by omega)
  intro m R
  refine call_in (n := 27) Try.func27 rfl rfl rfl rfl rfl rfl rfl ?_
  repeat' ((conv => whnf); first | refine eqS_rfl ?_ | refine eqA_rfl ?_ | refine eqA_of (by assumption) ?_ | refine eqS_of (by rfl) ?_ | refine eqL_rfl ?_ | refine eqJ_rfl ?_ | refine gE ?_ | refine seS_rfl ?_ | refine lsS_of hup ?_ | refine lsS_rfl ?_ | refine brS_tt ?_ | refine brS_ff ?_ | refine brS_not ?_ | refine gI ?_ | refine gT ?_ | refine gF ?_ | refine brS_intro (fun _ => ?_) (fun _ => ?_) | refine gL ?_ | refine gX ?_ | refine gO ?_ | refine gN ?_ | intro _)
  all_goals (conv => whnf)
  all_goals refine ⟨?_, by repeat' (first | exact WkM.refl _ | refine WkM.drop ?_), by repeat' (first | exact Nat.le_refl _ | refine Nat.le_succ_of_le ?_)⟩
  all_goals (first | rfl | exact congrArg Value.bool t4)

end Go.Proofs.Ytogncjicndbahaa
