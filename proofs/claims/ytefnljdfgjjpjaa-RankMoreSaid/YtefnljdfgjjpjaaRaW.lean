/- RankMore: the law. -/
import Derived.Test.YtefnljdfgjjpjaaRaV
import Derived.KernelRfl
namespace Go.Proofs.Ytefnljdfgjjpjaa
open Go.Ab
attribute [local irreducible] aggOk drwOK
set_option maxRecDepth 100000
set_option maxHeartbeats 4000000
set_option linter.unusedVariables false
set_option linter.unusedSimpArgs false
theorem mx_eq {a b w : Nat} (ha : a ≤ b) (hb : b ≤ 18) (hw : w < 256) : (bif iLt 0 (wr .i64 (Int.sub (Int.ofNat a) (Int.tmod (wr .i64 (Int.ofNat w)) 3))) then (wr .i64 (Int.sub (Int.ofNat a) (Int.tmod (wr .i64 (Int.ofNat w)) 3))) else 0) = Int.ofNat (a - w % 3) := by
  rw [smn (i := w) (by omega), show Int.tmod (Int.ofNat w) 3 = Int.ofNat (w % 3) from rfl]
  have e : wr .i64 (Int.sub (Int.ofNat a) (Int.ofNat (w % 3))) = (a : Int) - ((w % 3 : Nat) : Int) := sm (n := (a : Int) - ((w % 3 : Nat) : Int)) (by omega)
  rw [e, iLt_eq]
  by_cases h : w % 3 < a
  · rw [decide_eq_true (by omega), cond_true]
    show (a : Int) - ((w % 3 : Nat) : Int) = ((a - w % 3 : Nat) : Int)
    omega
  · rw [decide_eq_false (by omega), cond_false]
    show (0 : Int) = ((a - w % 3 : Nat) : Int)
    omega
theorem hi_eq {b w : Nat} (hb : b ≤ 18) (hw : w < 256) : wr .i64 (Int.add (Int.ofNat b) (wr .i64 (Int.tdiv (wr .i64 (Int.ofNat w)) 64))) = Int.ofNat (b + w / 64) := by
  rw [smn (i := w) (by omega), show Int.tdiv (Int.ofNat w) 64 = Int.ofNat (w / 64) from rfl, smn (i := w / 64) (by omega)]
  exact smn (i := b + w / 64) (by omega)
theorem tn_eq {b : Nat} (hb : b ≤ 18) : wr .i64 (Int.sub 100000 (Int.ofNat b)) = Int.ofNat (100000 - b) :=
  (sm (n := (100000 : Int) - (b : Int)) (by omega)).trans (by show (100000 : Int) - (b : Int) = ((100000 - b : Nat) : Int); omega)
theorem mv_eq {b y : Nat} (hb : b ≤ 18) (hy : y < 256) : wr .i64 (Int.add (Int.ofNat b) (wr .i64 (Int.ofNat y))) = Int.ofNat (b + y) := by
  rw [smn (i := y) (by omega)]
  exact smn (i := b + y) (by omega)
theorem l12 (F d : Nat) (hF : 300 < F) (aw : Option Addr) (nw ew cw : Nat) (w0 w1 : Nat → Nat) (hw0 : ∀ j, w0 j < 256) (hw1 : ∀ j, w1 j < 256) (ab : Option Addr) (nb eb cb : Nat) (t : Nat → Nat) (ht : ∀ j, t j < 256) (y0 y1 y2 y3 y4 y : Nat) (hy0 : y0 < 256) (hy1 : y1 < 256) (hy2 : y2 < 256) (hy3 : y3 < 256) (hy4 : y4 < 256) (hy : y < 256) :
    ReadC (CL F (d + 60)) 12 [.sl 1000 aw nw cw, .sl 1001 ab nb cb, .agg [.int .u8 (Int.ofNat y0), .int .u8 (Int.ofNat y1), .int .u8 (Int.ofNat y2), .int .u8 (Int.ofNat y3), .int .u8 (Int.ofNat y4)], .int .u8 (Int.ofNat y)] [(1000, .ro aw nw ew 2 fun j => [.int .u8 (Int.ofNat (w0 j)), .int .u8 (Int.ofNat (w1 j))]), (1001, .ro ab nb eb 1 fun j => [.int .u8 (Int.ofNat (t j))])] (30000000 + 200) (.bool true) := by
  have hF2 : 200 < F := by omega
  have hT0 : 0 < mT nw := by unfold mT; split <;> omega
  have hT5 : mT nw ≤ 5 := by unfold mT; split <;> omega
  have k43 := fun a e c => c43 F (d + 57) 800 hF2 a nw e c w0 w1 hw0 hw1
  have hlh0 := mlh nw w0 w1
  generalize mT nw = T at k43 hT0 hT5
  generalize ml nw w0 = lo at k43 hlh0
  generalize mh nw w0 w1 = hi at k43 hlh0
  have k45 := fun a e c => c45 F (d + 58) 801 hF2 T (by omega) a nb e c t ht
  obtain ⟨wd, hwd⟩ : ∃ wd : Nat → Nat, wd = fun z => [y0, y1, y2, y3, y4].getD z 0 := ⟨_, rfl⟩
  have hwd0 : wd 0 = y0 := by rw [hwd]; rfl
  have hwd1 : wd 1 = y1 := by rw [hwd]; rfl
  have hwd2 : wd 2 = y2 := by rw [hwd]; rfl
  have hwd3 : wd 3 = y3 := by rw [hwd]; rfl
  have hwd4 : wd 4 = y4 := by rw [hwd]; rfl
  have hwb : ∀ j, j < 5 → wd j < 256 := fun j hj => by
    match j, hj with
    | 0, _ => rw [hwd0]; exact hy0
    | 1, _ => rw [hwd1]; exact hy1
    | 2, _ => rw [hwd2]; exact hy2
    | 3, _ => rw [hwd3]; exact hy3
    | 4, _ => rw [hwd4]; exact hy4
    | j + 5, hj => omega
  obtain ⟨lo1, hlo1⟩ : ∃ lo1 : Nat → Nat, ∀ z, lo1 z = lo z - wd z % 3 := ⟨fun z => lo z - wd z % 3, fun _ => rfl⟩
  obtain ⟨hi1, hhi1⟩ : ∃ hi1 : Nat → Nat, ∀ z, hi1 z = hi z + wd z / 64 := ⟨fun z => hi z + wd z / 64, fun _ => rfl⟩
  obtain ⟨lo3, hlo3⟩ : ∃ lo3 : Nat → Nat, ∀ z, lo3 z = lo z + y := ⟨fun z => lo z + y, fun _ => rfl⟩
  obtain ⟨hi3, hhi3⟩ : ∃ hi3 : Nat → Nat, ∀ z, hi3 z = hi z + y := ⟨fun z => hi z + y, fun _ => rfl⟩
  obtain ⟨ob_, hob⟩ : ∃ ob_ : (Nat → Nat) → Nat → Nat, ∀ o z, ob_ o z = o (T - 1 - z) := ⟨fun o z => o (T - 1 - z), fun _ _ => rfl⟩
  have hb0 : ∀ j, lo j ≤ 100000 ∧ hi j ≤ 100000 := fun j => by have := hlh0 j; omega
  have v0 : ∀ j, j < T → lo j ≤ hi j ∧ hi j ≤ 100000 := fun j _ => ⟨(hlh0 j).1, (hb0 j).2⟩
  have v1 : ∀ j, j < T → lo1 j ≤ hi1 j ∧ hi1 j ≤ 100000 := fun j hj => by
    have h1 := hlh0 j
    have h2 := hwb j (by omega)
    rw [hlo1, hhi1]; omega
  have v2 : ∀ j, j < T → tl hi j ≤ tl lo j ∧ tl lo j ≤ 100000 := fun j _ => by
    have h1 := hlh0 j
    unfold tl; omega
  have v3 : ∀ j, j < T → lo3 j ≤ hi3 j ∧ hi3 j ≤ 100000 := fun j _ => by
    have h1 := hlh0 j
    rw [hlo3, hhi3]; omega
  have W0 : Wg T (fo fun z => bsF lo hi z T) 0 = (oL T lo hi T []).length := by rw [oL_all hT5 fun j hj => (v0 j hj).1]; rfl
  have W1 : Wg T (fo fun z => bsF lo1 hi1 z T) 0 = (oL T lo1 hi1 T []).length := by rw [oL_all hT5 fun j hj => (v1 j hj).1]; rfl
  have W2 : Wg T (fo fun z => bsF (tl hi) (tl lo) z T) 0 = (oL T (tl hi) (tl lo) T []).length := by rw [oL_all hT5 fun j hj => (v2 j hj).1]; rfl
  have hq3 : ∀ i k, qt lo3 hi3 i k = qt lo hi i k := fun i k => by
    unfold qt
    rw [hlo3, hhi3]
    exact decide_eq_decide.2 ⟨fun h => by omega, fun h => by omega⟩
  have W3 : Wg T (fo fun z => bsF lo3 hi3 z T) 0 = Wg T (fo fun z => bsF lo hi z T) 0 := by
    rw [show (fun z => bsF lo3 hi3 z T) = (fun z => bsF lo hi z T) from funext fun z => bsF_cg fun i _ => hq3 i z]
  have c2a := oL_turn (n := T) (lo := lo) (hi := hi) (fun j hj => (v0 j hj).1) (fun j _ => hb0 j)
  have c2b := oL_turn (n := T) (lo := tl hi) (hi := tl lo) (fun j hj => (v2 j hj).1) (fun j _ => by unfold tl; omega)
  rw [show tl (tl lo) = lo from funext fun z => by have := hb0 z; unfold tl; omega, show tl (tl hi) = hi from funext fun z => by have := hb0 z; unfold tl; omega] at c2b
  have c1 := oL_mono (n := T) (lo := lo) (hi := hi) (lo1 := lo1) (hi1 := hi1) (fun z => by rw [hlo1]; omega) (fun z => by rw [hhi1]; omega) T []
  have k31 := fun am => c31 F (d + 52 - 3 * T) hF2 am T 0 T lo hi hT0 hT5 v0 (stepF hT5 fun j hj => (v0 j hj).1)
  have k31w := fun am => c31 F (d + 52 - 3 * T) hF2 am T 0 T lo1 hi1 hT0 hT5 v1 (stepF hT5 fun j hj => (v1 j hj).1)
  have k31t := fun am => c31 F (d + 52 - 3 * T) hF2 am T 0 T (tl hi) (tl lo) hT0 hT5 v2 (stepF hT5 fun j hj => (v2 j hj).1)
  have k31m := fun am => c31 F (d + 52 - 3 * T) hF2 am T 0 T lo3 hi3 hT0 hT5 v3 (stepF hT5 fun j hj => (v3 j hj).1)
  rw [show d + 52 - 3 * T + 3 * T + 7 = d + 59 by omega] at k31 k31w k31t k31m
  rw [W1] at k31w
  rw [W2, show (oL T (tl hi) (tl lo) T []).length = (oL T lo hi T []).length by omega] at k31t
  rw [W3, W0] at k31m
  rw [W0] at k31
  have hc6 := cst6 hT5
  obtain ⟨Q, hQ⟩ : ∃ Q, Q = cst T T := ⟨_, rfl⟩
  rw [← hQ] at hc6 k31 k31w k31t k31m
  generalize (oL T lo hi T []).length = A0 at k31 k31t k31m c1
  generalize (oL T lo1 hi1 T []).length = A1 at k31w c1
  have hA : iLt (Int.ofNat A1) (Int.ofNat A0) = false := iLt_f c1
  intro R
  rw [show 30000000 + 200 = (30000000) + 200 from rfl, addL_eq, ← Nat.add_assoc, ← addL_eq _ 200, Nat.add_comm R (30000000)]
  refine call_in (n := 180) Try.func12 rfl rfl rfl rfl rfl rfl rfl ?_
  repeat' ((conv => whnf); first | refine eqS_rfl ?_ | refine eqA_rfl ?_ | refine eqA_of (by assumption) ?_ | refine eqS_of (by rfl) ?_ | refine eqL_rfl ?_ | refine eqJ_rfl ?_ | refine gE ?_ | refine seS_rfl ?_ | refine lsS_of hup ?_ | refine lsS_rfl ?_ | refine brS_tt ?_ | refine brS_ff ?_ | refine brS_not ?_ | refine gI ?_ | refine gT ?_ | refine gF ?_ | refine brS_intro (fun _ => ?_) (fun _ => ?_) | refine gL ?_ | refine gX ?_ | refine gO ?_ | refine gN ?_ | refine callQM (k43 _ _ _) (addL (29990000 + R) 150) (by rfl) (by exact SeesM.cons 1000 (sees_ro (i := 1000) (by rfl)) (SeesM.nil _) (fun _ _ _ _ _ _ x hx => by cases hx)) (nM1) ?_ | refine callQO (k45 _ _ _) (addL (29970000 + R) 150) (by rfl) (by exact SeesM.cons 1001 (sees_ro (i := 1001) (by rfl)) (SeesM.nil _) (fun _ _ _ _ _ _ x hx => by cases hx)) (nM1) ?_ | intro _)
  rename_i b6 am ao o ho hin
  obtain ⟨ob, hobo⟩ : ∃ ob, ob = ob_ o := ⟨_, rfl⟩
  have hobz : ∀ z, ob z = o (T - 1 - z) := fun z => by rw [hobo, hob]
  have hbo : ∀ j, j < T → ob j < T := fun j hj => by rw [hobz]; exact ho _ (by omega)
  have hbin : ∀ i j, i < T → j < T → ob i = ob j → i = j := fun i j hi' hj e => by
    rw [hobz, hobz] at e
    have := hin _ _ (by omega) (by omega) e
    omega
  have hTz : wr .i64 (Int.sub (Int.ofNat T) 1) = Int.ofNat (T - 1) := len1 hT0 (by omega)
  conv => whnf
  refine loS_i (fun jj f mm R' ni => ∃ (i : Nat) (a1 a2 a3 : Option Addr), i ≤ T ∧ jj = T - i + 1 ∧ f = [(3, .int .u8 (Int.ofNat y)), (6, .ptr 830 b6 0), (9, .sl 800 am T T), (10, .sl 801 ao T T), (11, .sl 820 a1 i i), (12, .sl 821 a2 i i), (13, .sl 822 a3 i i), (33, .sl 800 am T T), (34, .int .i64 (Int.ofNat T)), (35, .int .i64 (Int.ofNat i))] ∧ mm = [(820, .gr a1 i 63 2 (mf lo1 hi1)), (821, .gr a2 i 63 2 (mf (tl hi) (tl lo))), (822, .gr a3 i 63 2 (mf lo3 hi3)), (830, .own b6 71 [.int .u8 (Int.ofNat y0), .int .u8 (Int.ofNat y1), .int .u8 (Int.ofNat y2), .int .u8 (Int.ofNat y3), .int .u8 (Int.ofNat y4)]), (800, .gr am T 63 2 (mf lo hi)), (801, .gr ao T 3 1 (nf o))] ∧ R' = (addL (300 * (5 - i) + (29000000 + R)) 200) ∧ ni = 700) (T + 1) (by omega)
    ⟨[(3, .int .u8 (Int.ofNat y)), (6, .ptr 830 b6 0), (9, .sl 800 am T T), (10, .sl 801 ao T T), (11, .sl 820 none 0 0), (12, .sl 821 none 0 0), (13, .sl 822 none 0 0), (33, .sl 800 am T T), (34, .int .i64 (Int.ofNat T)), (35, .int .i64 (Int.ofNat 0))], [(820, .gr none 0 63 2 (mf lo1 hi1)), (821, .gr none 0 63 2 (mf (tl hi) (tl lo))), (822, .gr none 0 63 2 (mf lo3 hi3)), (830, .own b6 71 [.int .u8 (Int.ofNat y0), .int .u8 (Int.ofNat y1), .int .u8 (Int.ofNat y2), .int .u8 (Int.ofNat y3), .int .u8 (Int.ofNat y4)]), (800, .gr am T 63 2 (mf lo hi)), (801, .gr ao T 3 1 (nf o))], (addL (300 * (5 - 0) + (29000000 + R)) 200), 700, ⟨eqF_rfl _, ⟨rfl, rfl⟩, eqF_rfl _, eqF_rfl _, ⟨rfl, rfl⟩, ⟨rfl, rfl⟩, ⟨rfl, rfl⟩, eqF_rfl _, eqF_rfl _, eqF_rfl _, trivial⟩, by exact WkM.gr0 (WkM.gr0 (WkM.gr0 WG)), nM1, 0, none, none, none, by omega, by omega, rfl, rfl, rfl, rfl⟩ ?_
  rintro _ _ _ _ _ ⟨i, a1, a2, a3, hi', rfl, rfl, rfl, rfl, rfl⟩
  by_cases hlt : i < T
  · have h1 := iLt_t hlt
    have five : i = 0 ∨ i = 1 ∨ i = 2 ∨ i = 3 ∨ i = 4 := by omega
    rcases five with rfl | rfl | rfl | rfl | rfl
    · have hg1 := growE (n := 0) (sz := 2) (f := mf lo1 hi1) (l := [.int .i64 (bif iLt 0 (wr .i64 (Int.sub (Int.ofNat (lo 0)) (Int.tmod (wr .i64 (Int.ofNat y0)) 3))) then (wr .i64 (Int.sub (Int.ofNat (lo 0)) (Int.tmod (wr .i64 (Int.ofNat y0)) 3))) else 0), .int .i64 (wr .i64 (Int.add (Int.ofNat (hi 0)) (wr .i64 (Int.tdiv (wr .i64 (Int.ofNat y0)) 64))))]) rfl (by
        show [SV.int .i64 (Int.ofNat (lo1 0)), SV.int .i64 (Int.ofNat (hi1 0))] = _
        rw [mx_eq (hlh0 0).1 (hlh0 0).2 hy0, hi_eq (hlh0 0).2 hy0, hlo1, hhi1, hwd0])
      have hg2 := growE (n := 0) (sz := 2) (f := mf (tl hi) (tl lo)) (l := [.int .i64 (wr .i64 (Int.sub 100000 (Int.ofNat (hi 0)))), .int .i64 (wr .i64 (Int.sub 100000 (Int.ofNat (lo 0))))]) rfl (by
        show [SV.int .i64 (Int.ofNat (100000 - hi 0)), SV.int .i64 (Int.ofNat (100000 - lo 0))] = _
        rw [tn_eq (hlh0 0).2, tn_eq (Nat.le_trans (hlh0 0).1 (hlh0 0).2)])
      have hg3 := growE (n := 0) (sz := 2) (f := mf lo3 hi3) (l := [.int .i64 (wr .i64 (Int.add (Int.ofNat (lo 0)) (wr .i64 (Int.ofNat y)))), .int .i64 (wr .i64 (Int.add (Int.ofNat (hi 0)) (wr .i64 (Int.ofNat y))))]) rfl (by
        show [SV.int .i64 (Int.ofNat (lo3 0)), SV.int .i64 (Int.ofNat (hi3 0))] = _
        rw [mv_eq (Nat.le_trans (hlh0 0).1 (hlh0 0).2) hy, mv_eq (hlh0 0).2 hy, hlo3, hhi3])
      repeat' ((conv => whnf); first | refine eqS_rfl ?_ | refine eqA_rfl ?_ | refine eqA_of (by assumption) ?_ | refine eqS_of (by rfl) ?_ | refine eqL_rfl ?_ | refine eqJ_rfl ?_ | refine gE ?_ | refine seS_rfl ?_ | refine lsS_of hup ?_ | refine lsS_rfl ?_ | refine brS_tt ?_ | refine brS_ff ?_ | refine brS_not ?_ | refine gI ?_ | refine gT ?_ | refine gF ?_ | refine brS_intro (fun _ => ?_) (fun _ => ?_) | refine gL ?_ | refine gX ?_ | refine gO ?_ | refine gN ?_ | refine ltS_intro (show 0 * 2 + 2 < 32769 by omega) ?_ | intro _)
      conv => whnf
      exact ⟨T - 1 + 1, [(3, .int .u8 (Int.ofNat y)), (6, .ptr 830 b6 0), (9, .sl 800 am T T), (10, .sl 801 ao T T), (11, .sl 820 _ 1 1), (12, .sl 821 _ 1 1), (13, .sl 822 _ 1 1), (33, .sl 800 am T T), (34, .int .i64 (Int.ofNat T)), (35, .int .i64 (Int.ofNat 1))], [(820, .gr _ 1 63 2 (mf lo1 hi1)), (821, .gr _ 1 63 2 (mf (tl hi) (tl lo))), (822, .gr _ 1 63 2 (mf lo3 hi3)), (830, .own b6 71 [.int .u8 (Int.ofNat y0), .int .u8 (Int.ofNat y1), .int .u8 (Int.ofNat y2), .int .u8 (Int.ofNat y3), .int .u8 (Int.ofNat y4)]), (800, .gr am T 63 2 (mf lo hi)), (801, .gr ao T 3 1 (nf o))], (addL (300 * (5 - 1) + (29000000 + R)) 200), 700, by omega, ⟨eqF_rfl _, eqF_rfl _, eqF_rfl _, eqF_rfl _, ⟨rfl, rfl⟩, ⟨rfl, rfl⟩, ⟨rfl, rfl⟩, eqF_rfl _, eqF_rfl _, ⟨rfl, rfl⟩, trivial⟩, by exact WG, nM1, 1, _, _, _, by omega, rfl, rfl, rfl, rfl, rfl⟩
    · have hg1 := growE (n := 1) (sz := 2) (f := mf lo1 hi1) (l := [.int .i64 (bif iLt 0 (wr .i64 (Int.sub (Int.ofNat (lo 1)) (Int.tmod (wr .i64 (Int.ofNat y1)) 3))) then (wr .i64 (Int.sub (Int.ofNat (lo 1)) (Int.tmod (wr .i64 (Int.ofNat y1)) 3))) else 0), .int .i64 (wr .i64 (Int.add (Int.ofNat (hi 1)) (wr .i64 (Int.tdiv (wr .i64 (Int.ofNat y1)) 64))))]) rfl (by
        show [SV.int .i64 (Int.ofNat (lo1 1)), SV.int .i64 (Int.ofNat (hi1 1))] = _
        rw [mx_eq (hlh0 1).1 (hlh0 1).2 hy1, hi_eq (hlh0 1).2 hy1, hlo1, hhi1, hwd1])
      have hg2 := growE (n := 1) (sz := 2) (f := mf (tl hi) (tl lo)) (l := [.int .i64 (wr .i64 (Int.sub 100000 (Int.ofNat (hi 1)))), .int .i64 (wr .i64 (Int.sub 100000 (Int.ofNat (lo 1))))]) rfl (by
        show [SV.int .i64 (Int.ofNat (100000 - hi 1)), SV.int .i64 (Int.ofNat (100000 - lo 1))] = _
        rw [tn_eq (hlh0 1).2, tn_eq (Nat.le_trans (hlh0 1).1 (hlh0 1).2)])
      have hg3 := growE (n := 1) (sz := 2) (f := mf lo3 hi3) (l := [.int .i64 (wr .i64 (Int.add (Int.ofNat (lo 1)) (wr .i64 (Int.ofNat y)))), .int .i64 (wr .i64 (Int.add (Int.ofNat (hi 1)) (wr .i64 (Int.ofNat y))))]) rfl (by
        show [SV.int .i64 (Int.ofNat (lo3 1)), SV.int .i64 (Int.ofNat (hi3 1))] = _
        rw [mv_eq (Nat.le_trans (hlh0 1).1 (hlh0 1).2) hy, mv_eq (hlh0 1).2 hy, hlo3, hhi3])
      repeat' ((conv => whnf); first | refine eqS_rfl ?_ | refine eqA_rfl ?_ | refine eqA_of (by assumption) ?_ | refine eqS_of (by rfl) ?_ | refine eqL_rfl ?_ | refine eqJ_rfl ?_ | refine gE ?_ | refine seS_rfl ?_ | refine lsS_of hup ?_ | refine lsS_rfl ?_ | refine brS_tt ?_ | refine brS_ff ?_ | refine brS_not ?_ | refine gI ?_ | refine gT ?_ | refine gF ?_ | refine brS_intro (fun _ => ?_) (fun _ => ?_) | refine gL ?_ | refine gX ?_ | refine gO ?_ | refine gN ?_ | refine ltS_intro (show 1 * 2 + 2 < 32769 by omega) ?_ | intro _)
      conv => whnf
      exact ⟨T - 2 + 1, [(3, .int .u8 (Int.ofNat y)), (6, .ptr 830 b6 0), (9, .sl 800 am T T), (10, .sl 801 ao T T), (11, .sl 820 _ 2 2), (12, .sl 821 _ 2 2), (13, .sl 822 _ 2 2), (33, .sl 800 am T T), (34, .int .i64 (Int.ofNat T)), (35, .int .i64 (Int.ofNat 2))], [(820, .gr _ 2 63 2 (mf lo1 hi1)), (821, .gr _ 2 63 2 (mf (tl hi) (tl lo))), (822, .gr _ 2 63 2 (mf lo3 hi3)), (830, .own b6 71 [.int .u8 (Int.ofNat y0), .int .u8 (Int.ofNat y1), .int .u8 (Int.ofNat y2), .int .u8 (Int.ofNat y3), .int .u8 (Int.ofNat y4)]), (800, .gr am T 63 2 (mf lo hi)), (801, .gr ao T 3 1 (nf o))], (addL (300 * (5 - 2) + (29000000 + R)) 200), 700, by omega, ⟨eqF_rfl _, eqF_rfl _, eqF_rfl _, eqF_rfl _, ⟨rfl, rfl⟩, ⟨rfl, rfl⟩, ⟨rfl, rfl⟩, eqF_rfl _, eqF_rfl _, ⟨rfl, rfl⟩, trivial⟩, by exact WG, nM1, 2, _, _, _, by omega, rfl, rfl, rfl, rfl, rfl⟩
    · have hg1 := growE (n := 2) (sz := 2) (f := mf lo1 hi1) (l := [.int .i64 (bif iLt 0 (wr .i64 (Int.sub (Int.ofNat (lo 2)) (Int.tmod (wr .i64 (Int.ofNat y2)) 3))) then (wr .i64 (Int.sub (Int.ofNat (lo 2)) (Int.tmod (wr .i64 (Int.ofNat y2)) 3))) else 0), .int .i64 (wr .i64 (Int.add (Int.ofNat (hi 2)) (wr .i64 (Int.tdiv (wr .i64 (Int.ofNat y2)) 64))))]) rfl (by
        show [SV.int .i64 (Int.ofNat (lo1 2)), SV.int .i64 (Int.ofNat (hi1 2))] = _
        rw [mx_eq (hlh0 2).1 (hlh0 2).2 hy2, hi_eq (hlh0 2).2 hy2, hlo1, hhi1, hwd2])
      have hg2 := growE (n := 2) (sz := 2) (f := mf (tl hi) (tl lo)) (l := [.int .i64 (wr .i64 (Int.sub 100000 (Int.ofNat (hi 2)))), .int .i64 (wr .i64 (Int.sub 100000 (Int.ofNat (lo 2))))]) rfl (by
        show [SV.int .i64 (Int.ofNat (100000 - hi 2)), SV.int .i64 (Int.ofNat (100000 - lo 2))] = _
        rw [tn_eq (hlh0 2).2, tn_eq (Nat.le_trans (hlh0 2).1 (hlh0 2).2)])
      have hg3 := growE (n := 2) (sz := 2) (f := mf lo3 hi3) (l := [.int .i64 (wr .i64 (Int.add (Int.ofNat (lo 2)) (wr .i64 (Int.ofNat y)))), .int .i64 (wr .i64 (Int.add (Int.ofNat (hi 2)) (wr .i64 (Int.ofNat y))))]) rfl (by
        show [SV.int .i64 (Int.ofNat (lo3 2)), SV.int .i64 (Int.ofNat (hi3 2))] = _
        rw [mv_eq (Nat.le_trans (hlh0 2).1 (hlh0 2).2) hy, mv_eq (hlh0 2).2 hy, hlo3, hhi3])
      repeat' ((conv => whnf); first | refine eqS_rfl ?_ | refine eqA_rfl ?_ | refine eqA_of (by assumption) ?_ | refine eqS_of (by rfl) ?_ | refine eqL_rfl ?_ | refine eqJ_rfl ?_ | refine gE ?_ | refine seS_rfl ?_ | refine lsS_of hup ?_ | refine lsS_rfl ?_ | refine brS_tt ?_ | refine brS_ff ?_ | refine brS_not ?_ | refine gI ?_ | refine gT ?_ | refine gF ?_ | refine brS_intro (fun _ => ?_) (fun _ => ?_) | refine gL ?_ | refine gX ?_ | refine gO ?_ | refine gN ?_ | refine ltS_intro (show 2 * 2 + 2 < 32769 by omega) ?_ | intro _)
      conv => whnf
      exact ⟨T - 3 + 1, [(3, .int .u8 (Int.ofNat y)), (6, .ptr 830 b6 0), (9, .sl 800 am T T), (10, .sl 801 ao T T), (11, .sl 820 _ 3 3), (12, .sl 821 _ 3 3), (13, .sl 822 _ 3 3), (33, .sl 800 am T T), (34, .int .i64 (Int.ofNat T)), (35, .int .i64 (Int.ofNat 3))], [(820, .gr _ 3 63 2 (mf lo1 hi1)), (821, .gr _ 3 63 2 (mf (tl hi) (tl lo))), (822, .gr _ 3 63 2 (mf lo3 hi3)), (830, .own b6 71 [.int .u8 (Int.ofNat y0), .int .u8 (Int.ofNat y1), .int .u8 (Int.ofNat y2), .int .u8 (Int.ofNat y3), .int .u8 (Int.ofNat y4)]), (800, .gr am T 63 2 (mf lo hi)), (801, .gr ao T 3 1 (nf o))], (addL (300 * (5 - 3) + (29000000 + R)) 200), 700, by omega, ⟨eqF_rfl _, eqF_rfl _, eqF_rfl _, eqF_rfl _, ⟨rfl, rfl⟩, ⟨rfl, rfl⟩, ⟨rfl, rfl⟩, eqF_rfl _, eqF_rfl _, ⟨rfl, rfl⟩, trivial⟩, by exact WG, nM1, 3, _, _, _, by omega, rfl, rfl, rfl, rfl, rfl⟩
    · have hg1 := growE (n := 3) (sz := 2) (f := mf lo1 hi1) (l := [.int .i64 (bif iLt 0 (wr .i64 (Int.sub (Int.ofNat (lo 3)) (Int.tmod (wr .i64 (Int.ofNat y3)) 3))) then (wr .i64 (Int.sub (Int.ofNat (lo 3)) (Int.tmod (wr .i64 (Int.ofNat y3)) 3))) else 0), .int .i64 (wr .i64 (Int.add (Int.ofNat (hi 3)) (wr .i64 (Int.tdiv (wr .i64 (Int.ofNat y3)) 64))))]) rfl (by
        show [SV.int .i64 (Int.ofNat (lo1 3)), SV.int .i64 (Int.ofNat (hi1 3))] = _
        rw [mx_eq (hlh0 3).1 (hlh0 3).2 hy3, hi_eq (hlh0 3).2 hy3, hlo1, hhi1, hwd3])
      have hg2 := growE (n := 3) (sz := 2) (f := mf (tl hi) (tl lo)) (l := [.int .i64 (wr .i64 (Int.sub 100000 (Int.ofNat (hi 3)))), .int .i64 (wr .i64 (Int.sub 100000 (Int.ofNat (lo 3))))]) rfl (by
        show [SV.int .i64 (Int.ofNat (100000 - hi 3)), SV.int .i64 (Int.ofNat (100000 - lo 3))] = _
        rw [tn_eq (hlh0 3).2, tn_eq (Nat.le_trans (hlh0 3).1 (hlh0 3).2)])
      have hg3 := growE (n := 3) (sz := 2) (f := mf lo3 hi3) (l := [.int .i64 (wr .i64 (Int.add (Int.ofNat (lo 3)) (wr .i64 (Int.ofNat y)))), .int .i64 (wr .i64 (Int.add (Int.ofNat (hi 3)) (wr .i64 (Int.ofNat y))))]) rfl (by
        show [SV.int .i64 (Int.ofNat (lo3 3)), SV.int .i64 (Int.ofNat (hi3 3))] = _
        rw [mv_eq (Nat.le_trans (hlh0 3).1 (hlh0 3).2) hy, mv_eq (hlh0 3).2 hy, hlo3, hhi3])
      repeat' ((conv => whnf); first | refine eqS_rfl ?_ | refine eqA_rfl ?_ | refine eqA_of (by assumption) ?_ | refine eqS_of (by rfl) ?_ | refine eqL_rfl ?_ | refine eqJ_rfl ?_ | refine gE ?_ | refine seS_rfl ?_ | refine lsS_of hup ?_ | refine lsS_rfl ?_ | refine brS_tt ?_ | refine brS_ff ?_ | refine brS_not ?_ | refine gI ?_ | refine gT ?_ | refine gF ?_ | refine brS_intro (fun _ => ?_) (fun _ => ?_) | refine gL ?_ | refine gX ?_ | refine gO ?_ | refine gN ?_ | refine ltS_intro (show 3 * 2 + 2 < 32769 by omega) ?_ | intro _)
      conv => whnf
      exact ⟨T - 4 + 1, [(3, .int .u8 (Int.ofNat y)), (6, .ptr 830 b6 0), (9, .sl 800 am T T), (10, .sl 801 ao T T), (11, .sl 820 _ 4 4), (12, .sl 821 _ 4 4), (13, .sl 822 _ 4 4), (33, .sl 800 am T T), (34, .int .i64 (Int.ofNat T)), (35, .int .i64 (Int.ofNat 4))], [(820, .gr _ 4 63 2 (mf lo1 hi1)), (821, .gr _ 4 63 2 (mf (tl hi) (tl lo))), (822, .gr _ 4 63 2 (mf lo3 hi3)), (830, .own b6 71 [.int .u8 (Int.ofNat y0), .int .u8 (Int.ofNat y1), .int .u8 (Int.ofNat y2), .int .u8 (Int.ofNat y3), .int .u8 (Int.ofNat y4)]), (800, .gr am T 63 2 (mf lo hi)), (801, .gr ao T 3 1 (nf o))], (addL (300 * (5 - 4) + (29000000 + R)) 200), 700, by omega, ⟨eqF_rfl _, eqF_rfl _, eqF_rfl _, eqF_rfl _, ⟨rfl, rfl⟩, ⟨rfl, rfl⟩, ⟨rfl, rfl⟩, eqF_rfl _, eqF_rfl _, ⟨rfl, rfl⟩, trivial⟩, by exact WG, nM1, 4, _, _, _, by omega, rfl, rfl, rfl, rfl, rfl⟩
    · have hg1 := growE (n := 4) (sz := 2) (f := mf lo1 hi1) (l := [.int .i64 (bif iLt 0 (wr .i64 (Int.sub (Int.ofNat (lo 4)) (Int.tmod (wr .i64 (Int.ofNat y4)) 3))) then (wr .i64 (Int.sub (Int.ofNat (lo 4)) (Int.tmod (wr .i64 (Int.ofNat y4)) 3))) else 0), .int .i64 (wr .i64 (Int.add (Int.ofNat (hi 4)) (wr .i64 (Int.tdiv (wr .i64 (Int.ofNat y4)) 64))))]) rfl (by
        show [SV.int .i64 (Int.ofNat (lo1 4)), SV.int .i64 (Int.ofNat (hi1 4))] = _
        rw [mx_eq (hlh0 4).1 (hlh0 4).2 hy4, hi_eq (hlh0 4).2 hy4, hlo1, hhi1, hwd4])
      have hg2 := growE (n := 4) (sz := 2) (f := mf (tl hi) (tl lo)) (l := [.int .i64 (wr .i64 (Int.sub 100000 (Int.ofNat (hi 4)))), .int .i64 (wr .i64 (Int.sub 100000 (Int.ofNat (lo 4))))]) rfl (by
        show [SV.int .i64 (Int.ofNat (100000 - hi 4)), SV.int .i64 (Int.ofNat (100000 - lo 4))] = _
        rw [tn_eq (hlh0 4).2, tn_eq (Nat.le_trans (hlh0 4).1 (hlh0 4).2)])
      have hg3 := growE (n := 4) (sz := 2) (f := mf lo3 hi3) (l := [.int .i64 (wr .i64 (Int.add (Int.ofNat (lo 4)) (wr .i64 (Int.ofNat y)))), .int .i64 (wr .i64 (Int.add (Int.ofNat (hi 4)) (wr .i64 (Int.ofNat y))))]) rfl (by
        show [SV.int .i64 (Int.ofNat (lo3 4)), SV.int .i64 (Int.ofNat (hi3 4))] = _
        rw [mv_eq (Nat.le_trans (hlh0 4).1 (hlh0 4).2) hy, mv_eq (hlh0 4).2 hy, hlo3, hhi3])
      repeat' ((conv => whnf); first | refine eqS_rfl ?_ | refine eqA_rfl ?_ | refine eqA_of (by assumption) ?_ | refine eqS_of (by rfl) ?_ | refine eqL_rfl ?_ | refine eqJ_rfl ?_ | refine gE ?_ | refine seS_rfl ?_ | refine lsS_of hup ?_ | refine lsS_rfl ?_ | refine brS_tt ?_ | refine brS_ff ?_ | refine brS_not ?_ | refine gI ?_ | refine gT ?_ | refine gF ?_ | refine brS_intro (fun _ => ?_) (fun _ => ?_) | refine gL ?_ | refine gX ?_ | refine gO ?_ | refine gN ?_ | refine ltS_intro (show 4 * 2 + 2 < 32769 by omega) ?_ | intro _)
      conv => whnf
      exact ⟨T - 5 + 1, [(3, .int .u8 (Int.ofNat y)), (6, .ptr 830 b6 0), (9, .sl 800 am T T), (10, .sl 801 ao T T), (11, .sl 820 _ 5 5), (12, .sl 821 _ 5 5), (13, .sl 822 _ 5 5), (33, .sl 800 am T T), (34, .int .i64 (Int.ofNat T)), (35, .int .i64 (Int.ofNat 5))], [(820, .gr _ 5 63 2 (mf lo1 hi1)), (821, .gr _ 5 63 2 (mf (tl hi) (tl lo))), (822, .gr _ 5 63 2 (mf lo3 hi3)), (830, .own b6 71 [.int .u8 (Int.ofNat y0), .int .u8 (Int.ofNat y1), .int .u8 (Int.ofNat y2), .int .u8 (Int.ofNat y3), .int .u8 (Int.ofNat y4)]), (800, .gr am T 63 2 (mf lo hi)), (801, .gr ao T 3 1 (nf o))], (addL (300 * (5 - 5) + (29000000 + R)) 200), 700, by omega, ⟨eqF_rfl _, eqF_rfl _, eqF_rfl _, eqF_rfl _, ⟨rfl, rfl⟩, ⟨rfl, rfl⟩, ⟨rfl, rfl⟩, eqF_rfl _, eqF_rfl _, ⟨rfl, rfl⟩, trivial⟩, by exact WG, nM1, 5, _, _, _, by omega, rfl, rfl, rfl, rfl, rfl⟩
  · have e2 : T = i := by omega
    subst e2
    have h1 := iLt_f (Nat.le_refl T)
    repeat' ((conv => whnf); first | refine eqS_rfl ?_ | refine eqA_rfl ?_ | refine eqA_of (by assumption) ?_ | refine eqS_of (by rfl) ?_ | refine eqL_rfl ?_ | refine eqJ_rfl ?_ | refine gE ?_ | refine seS_rfl ?_ | refine lsS_of hup ?_ | refine lsS_rfl ?_ | refine brS_tt ?_ | refine brS_ff ?_ | refine brS_not ?_ | refine gI ?_ | refine gT ?_ | refine gF ?_ | refine brS_intro (fun _ => ?_) (fun _ => ?_) | refine gL ?_ | refine gX ?_ | refine gO ?_ | refine gN ?_ | intro _)
    conv => whnf
    refine loS_i (fun jj f mm R' ni => ∃ (j : Nat) (a4 : Option Addr), j ≤ T ∧ jj = T - j + 1 ∧ f = [(9, .sl 800 am T T), (10, .sl 801 ao T T), (11, .sl 820 a1 T T), (12, .sl 821 a2 T T), (13, .sl 822 a3 T T), (16, .sl 840 a4 j j), (87, .int .i64 (Int.ofNat T)), (88, .int .i64 (Int.ofNat j))] ∧ mm = [(840, .gr a4 j 3 1 (nf ob)), (820, .gr a1 T 63 2 (mf lo1 hi1)), (821, .gr a2 T 63 2 (mf (tl hi) (tl lo))), (822, .gr a3 T 63 2 (mf lo3 hi3)), (800, .gr am T 63 2 (mf lo hi)), (801, .gr ao T 3 1 (nf o))] ∧ R' = (addL (100 * (5 - j) + (28000000 + R)) 200) ∧ ni = 750) (T + 1) (by omega)
      ⟨[(9, .sl 800 am T T), (10, .sl 801 ao T T), (11, .sl 820 a1 T T), (12, .sl 821 a2 T T), (13, .sl 822 a3 T T), (16, .sl 840 none 0 0), (87, .int .i64 (Int.ofNat T)), (88, .int .i64 (Int.ofNat 0))], [(840, .gr none 0 3 1 (nf ob)), (820, .gr a1 T 63 2 (mf lo1 hi1)), (821, .gr a2 T 63 2 (mf (tl hi) (tl lo))), (822, .gr a3 T 63 2 (mf lo3 hi3)), (800, .gr am T 63 2 (mf lo hi)), (801, .gr ao T 3 1 (nf o))], (addL (100 * (5 - 0) + (28000000 + R)) 200), 750, ⟨eqF_rfl _, eqF_rfl _, eqF_rfl _, eqF_rfl _, eqF_rfl _, ⟨rfl, rfl⟩, eqF_rfl _, eqF_rfl _, trivial⟩, by exact WkM.gr0 WG, nM1, 0, none, by omega, by omega, rfl, rfl, rfl, rfl⟩ ?_
    rintro _ _ _ _ _ ⟨j, a4, hj, rfl, rfl, rfl, rfl, rfl⟩
    by_cases hjT : j < T
    · have h2 := iLt_t hjT
      have eix : wr .i64 (Int.sub (wr .i64 (Int.sub (Int.ofNat T) 1)) (Int.ofNat j)) = Int.ofNat (T - 1 - j) := by
        rw [hTz]
        exact (sm (n := ((T - 1 : Nat) : Int) - (j : Int)) (by omega)).trans (by show ((T - 1 : Nat) : Int) - (j : Int) = ((T - 1 - j : Nat) : Int); omega)
      have hg4 := growE (n := j) (sz := 1) (f := nf ob) (l := [.int .i64 (Int.ofNat (o (T - 1 - j)))]) rfl (by show [SV.int .i64 (Int.ofNat (ob j))] = _; rw [hobz])
      repeat' ((conv => whnf); first | refine eqS_rfl ?_ | refine eqA_rfl ?_ | refine eqA_of (by assumption) ?_ | refine eqS_of (by rfl) ?_ | refine eqL_rfl ?_ | refine eqJ_rfl ?_ | refine gE ?_ | refine seS_rfl ?_ | refine lsS_of hup ?_ | refine lsS_rfl ?_ | refine brS_tt ?_ | refine brS_ff ?_ | refine brS_not ?_ | refine gI ?_ | refine gT ?_ | refine gF ?_ | refine brS_intro (fun _ => ?_) (fun _ => ?_) | refine gL ?_ | refine gX ?_ | refine gO ?_ | refine gN ?_ | refine ixS_of eix (by omega) ?_ | refine ltS_intro (show j * 1 + 1 < 32769 by omega) ?_ | intro _)
      conv => whnf
      exact ⟨T - (j + 1) + 1, [(9, .sl 800 am T T), (10, .sl 801 ao T T), (11, .sl 820 a1 T T), (12, .sl 821 a2 T T), (13, .sl 822 a3 T T), (16, .sl 840 _ (j + 1) (j + 1)), (87, .int .i64 (Int.ofNat T)), (88, .int .i64 (Int.ofNat (j + 1)))], [(840, .gr _ (j + 1) 3 1 (nf ob)), (820, .gr a1 T 63 2 (mf lo1 hi1)), (821, .gr a2 T 63 2 (mf (tl hi) (tl lo))), (822, .gr a3 T 63 2 (mf lo3 hi3)), (800, .gr am T 63 2 (mf lo hi)), (801, .gr ao T 3 1 (nf o))], (addL (100 * (5 - (j + 1)) + (28000000 + R)) 200), 750, by omega, ⟨eqF_rfl _, eqF_rfl _, eqF_rfl _, eqF_rfl _, eqF_rfl _, ⟨rfl, rfl⟩, eqF_rfl _, ⟨congrArg (Value.int .i64) (smn (i := j + 1) (by omega)), rfl⟩, trivial⟩, by exact WG, nM1, j + 1, _, by omega, rfl, rfl, rfl, rfl, rfl⟩
    · have e3 : T = j := by omega
      subst e3
      have h2 := iLt_f (Nat.le_refl T)
      have k31 := k31 am
      have k31w := k31w a1
      have k31t := k31t a2
      have k31m := k31m a3
      have hturn : ∀ p q, p < T → q < T → isF (tl hi) (tl lo) ob p q = isF lo hi o (T - 1 - q) (T - 1 - p) := fun p q hp hq => isF_turn (n := T) (fun z hz => hb0 _) (fun z _ => hobz z) hp hq
      have hmove : ∀ p q, isF lo3 hi3 o p q = isF lo hi o p q := fun p q => by unfold isF; rw [hq3]
      rcases fst_or (isF lo hi o) T with ⟨p, q, hst⟩ | hno
      · have k19 := c19f F (d + 55) hF2 am T 0 T lo hi hT0 (by omega) v0 ao 0 T o ho hin p q hst
        obtain ⟨p2, q2, hst2⟩ : ∃ p q, Fst (isF (tl hi) (tl lo) ob) T p q := by
          rcases fst_or (isF (tl hi) (tl lo) ob) T with h | h
          · exact h
          · have h1 := h (T - 1 - q) (T - 1 - p) (by omega) (by omega)
            rw [hturn _ _ (by omega) (by omega), show T - 1 - (T - 1 - p) = p by have := hst.hp; omega, show T - 1 - (T - 1 - q) = q by have := hst.hq; omega, hst.ht] at h1
            cases h1
        obtain ⟨p3, q3, hst3⟩ : ∃ p q, Fst (isF lo3 hi3 o) T p q := ⟨p, q, hst.hp, hst.hq, by rw [hmove]; exact hst.ht, fun i k hk h => by rw [hmove]; exact hst.hb i k hk h⟩
        have k19t := c19f F (d + 55) hF2 a2 T 0 T (tl hi) (tl lo) hT0 (by omega) v2 a4 0 T ob hbo hbin p2 q2 hst2
        have k19m := c19f F (d + 55) hF2 a3 T 0 T lo3 hi3 hT0 (by omega) v3 ao 0 T o ho hin p3 q3 hst3
        repeat' ((conv => whnf); first | refine eqS_rfl ?_ | refine eqA_rfl ?_ | refine eqA_of (by assumption) ?_ | refine eqS_of (by rfl) ?_ | refine eqL_rfl ?_ | refine eqJ_rfl ?_ | refine gE ?_ | refine seS_rfl ?_ | refine lsS_of hup ?_ | refine lsS_rfl ?_ | refine brS_tt ?_ | refine brS_ff ?_ | refine brS_not ?_ | refine gI ?_ | refine gT ?_ | refine gF ?_ | refine brS_intro (fun _ => ?_) (fun _ => ?_) | refine gL ?_ | refine gX ?_ | refine gO ?_ | refine gN ?_ | refine call_readL (k19) (addL (27000000 + R) 150) (by rfl) (by exact SeesM.cons 1000 (sees_gr (i := 800) (by rfl)) (SeesM.cons 1001 (sees_gr (i := 801) (by rfl)) (SeesM.nil _) (fun _ _ _ _ _ _ x hx => by cases hx)) (fun _ _ _ _ _ _ x hx => by rcases List.mem_singleton.1 hx with rfl; exact fun _ h => h)) (nM1) ?_ | refine call_readL (k31) (addL (22000000 + R) 150) (by rfl) (by exact SeesM.cons 1000 (sees_gr (i := 800) (by rfl)) (SeesM.nil _) (fun _ _ _ _ _ _ x hx => by cases hx)) (nM1) ?_ | refine call_readL (k31w) (addL (17000000 + R) 150) (by rfl) (by exact SeesM.cons 1000 (sees_gr (i := 820) (by rfl)) (SeesM.nil _) (fun _ _ _ _ _ _ x hx => by cases hx)) (nM1) ?_ | refine call_readL (k31t) (addL (12000000 + R) 150) (by rfl) (by exact SeesM.cons 1000 (sees_gr (i := 821) (by rfl)) (SeesM.nil _) (fun _ _ _ _ _ _ x hx => by cases hx)) (nM1) ?_ | refine call_readL (k31m) (addL (7000000 + R) 150) (by rfl) (by exact SeesM.cons 1000 (sees_gr (i := 822) (by rfl)) (SeesM.nil _) (fun _ _ _ _ _ _ x hx => by cases hx)) (nM1) ?_ | refine call_readL (k19t) (addL (5000000 + R) 150) (by rfl) (by exact SeesM.cons 1000 (sees_gr (i := 821) (by rfl)) (SeesM.cons 1001 (sees_gr (i := 840) (by rfl)) (SeesM.nil _) (fun _ _ _ _ _ _ x hx => by cases hx)) (fun _ _ _ _ _ _ x hx => by rcases List.mem_singleton.1 hx with rfl; exact fun _ h => h)) (nM1) ?_ | refine call_readL (k19m) (addL (4000000 + R) 150) (by rfl) (by exact SeesM.cons 1000 (sees_gr (i := 822) (by rfl)) (SeesM.cons 1001 (sees_gr (i := 801) (by rfl)) (SeesM.nil _) (fun _ _ _ _ _ _ x hx => by cases hx)) (fun _ _ _ _ _ _ x hx => by rcases List.mem_singleton.1 hx with rfl; exact fun _ h => h)) (nM1) ?_ | refine call_w rfl ?_ | intro _)
        conv => whnf
        exact ⟨rfl, nM1⟩
      · have k19 := c19 F (d + 55) hF2 am T 0 T lo hi hT0 (by omega) v0 ao 0 T o ho hin hno
        have k19w := c19 F (d + 55) hF2 a1 T 0 T lo1 hi1 hT0 (by omega) v1 ao 0 T o ho hin fun p q hp hq => by
          have h1 := hno p q hp hq
          unfold isF qt at h1 ⊢
          rw [hlo1, hhi1]
          rw [Bool.and_eq_false_iff] at h1 ⊢
          rcases h1 with h1 | h1
          · exact .inl h1
          · right
            rw [decide_eq_false_iff_not] at h1 ⊢
            omega
        have k19t := c19 F (d + 55) hF2 a2 T 0 T (tl hi) (tl lo) hT0 (by omega) v2 a4 0 T ob hbo hbin fun p q hp hq => by rw [hturn p q hp hq]; exact hno _ _ (by omega) (by omega)
        have k19m := c19 F (d + 55) hF2 a3 T 0 T lo3 hi3 hT0 (by omega) v3 ao 0 T o ho hin fun p q hp hq => by rw [hmove]; exact hno p q hp hq
        repeat' ((conv => whnf); first | refine eqS_rfl ?_ | refine eqA_rfl ?_ | refine eqA_of (by assumption) ?_ | refine eqS_of (by rfl) ?_ | refine eqL_rfl ?_ | refine eqJ_rfl ?_ | refine gE ?_ | refine seS_rfl ?_ | refine lsS_of hup ?_ | refine lsS_rfl ?_ | refine brS_tt ?_ | refine brS_ff ?_ | refine brS_not ?_ | refine gI ?_ | refine gT ?_ | refine gF ?_ | refine brS_intro (fun _ => ?_) (fun _ => ?_) | refine gL ?_ | refine gX ?_ | refine gO ?_ | refine gN ?_ | refine call_readL (k19) (addL (27000000 + R) 150) (by rfl) (by exact SeesM.cons 1000 (sees_gr (i := 800) (by rfl)) (SeesM.cons 1001 (sees_gr (i := 801) (by rfl)) (SeesM.nil _) (fun _ _ _ _ _ _ x hx => by cases hx)) (fun _ _ _ _ _ _ x hx => by rcases List.mem_singleton.1 hx with rfl; exact fun _ h => h)) (nM1) ?_ | refine call_readL (k31) (addL (22000000 + R) 150) (by rfl) (by exact SeesM.cons 1000 (sees_gr (i := 800) (by rfl)) (SeesM.nil _) (fun _ _ _ _ _ _ x hx => by cases hx)) (nM1) ?_ | refine call_readL (k31w) (addL (17000000 + R) 150) (by rfl) (by exact SeesM.cons 1000 (sees_gr (i := 820) (by rfl)) (SeesM.nil _) (fun _ _ _ _ _ _ x hx => by cases hx)) (nM1) ?_ | refine call_readL (k31t) (addL (12000000 + R) 150) (by rfl) (by exact SeesM.cons 1000 (sees_gr (i := 821) (by rfl)) (SeesM.nil _) (fun _ _ _ _ _ _ x hx => by cases hx)) (nM1) ?_ | refine call_readL (k31m) (addL (7000000 + R) 150) (by rfl) (by exact SeesM.cons 1000 (sees_gr (i := 822) (by rfl)) (SeesM.nil _) (fun _ _ _ _ _ _ x hx => by cases hx)) (nM1) ?_ | refine call_readL (k19w) (addL (6000000 + R) 150) (by rfl) (by exact SeesM.cons 1000 (sees_gr (i := 820) (by rfl)) (SeesM.cons 1001 (sees_gr (i := 801) (by rfl)) (SeesM.nil _) (fun _ _ _ _ _ _ x hx => by cases hx)) (fun _ _ _ _ _ _ x hx => by rcases List.mem_singleton.1 hx with rfl; exact fun _ h => h)) (nM1) ?_ | refine call_readL (k19t) (addL (5000000 + R) 150) (by rfl) (by exact SeesM.cons 1000 (sees_gr (i := 821) (by rfl)) (SeesM.cons 1001 (sees_gr (i := 840) (by rfl)) (SeesM.nil _) (fun _ _ _ _ _ _ x hx => by cases hx)) (fun _ _ _ _ _ _ x hx => by rcases List.mem_singleton.1 hx with rfl; exact fun _ h => h)) (nM1) ?_ | refine call_readL (k19m) (addL (4000000 + R) 150) (by rfl) (by exact SeesM.cons 1000 (sees_gr (i := 822) (by rfl)) (SeesM.cons 1001 (sees_gr (i := 801) (by rfl)) (SeesM.nil _) (fun _ _ _ _ _ _ x hx => by cases hx)) (fun _ _ _ _ _ _ x hx => by rcases List.mem_singleton.1 hx with rfl; exact fun _ h => h)) (nM1) ?_ | refine call_w rfl ?_ | intro _)
        conv => whnf
        exact ⟨rfl, nM1⟩
end Go.Proofs.Ytefnljdfgjjpjaa
