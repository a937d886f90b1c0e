/- RankOrders: months of any numbers. -/
import Derived.Test.YtefnljdfgjjpjaaRmA
import Derived.KernelRfl
namespace Go.Proofs.Ytefnljdfgjjpjaa
open Go.Ab
attribute [local irreducible] aggOk drwOK
set_option maxRecDepth 100000
set_option maxHeartbeats 4000000
set_option linter.unusedVariables false
set_option linter.unusedSimpArgs false
abbrev mi (x y : Nat → Int) (j : Nat) : List SV := [.int .i64 (x j), .int .i64 (y j)]
abbrev oi (o : Nat → Int) (j : Nat) : List SV := [.int .i64 (o j)]
/-- the first of so many that is not 0 -/
def fb (f : Nat → Nat) : Nat → Nat
  | 0 => 0
  | k + 1 => if fb f k = 0 then f k else fb f k
theorem fb_next {f : Nat → Nat} {k : Nat} (h : fb f k = 0) (h2 : f k = 0) : fb f (k + 1) = 0 := by
  show (if fb f k = 0 then f k else fb f k) = 0
  rw [if_pos h, h2]
theorem fb_stop {f : Nat → Nat} {j : Nat} : ∀ {n : Nat}, j < n → fb f j = 0 → f j ≠ 0 → fb f n = f j
  | 0, h, _, _ => by omega
  | n + 1, h, h1, h2 => by
    show (if fb f n = 0 then f n else fb f n) = f j
    by_cases e : j = n
    · subst e; rw [if_pos h1]
    · have := fb_stop (n := n) (by omega) h1 h2
      rw [if_neg (by rw [this]; exact h2), this]
theorem fb_zero {f : Nat → Nat} : ∀ {n : Nat}, fb f n = 0 → ∀ j, j < n → f j = 0
  | 0, _, j, hj => by omega
  | n + 1, h, j, hj => by
    have h : (if fb f n = 0 then f n else fb f n) = 0 := h
    by_cases e : fb f n = 0
    · rw [if_pos e] at h
      by_cases e2 : j = n
      · subst e2; exact h
      · exact fb_zero e j (by omega)
    · rw [if_neg e] at h; exact absurd h e
/-- whether a day is bad -/
def bd (x y : Nat → Int) (j : Nat) : Nat := bif iLt (x j) 0 || iLt (y j) (x j) || iLt 100000 (y j) then 1 else 0
/-- the error of a month -/
def ckE (x y : Nat → Int) (n : Nat) : Nat := if n = 0 then 2 else if 30 < n then 3 else fb (bd x y) n
theorem c21i (F k : Nat) (hF : 200 < F) (am : Option Addr) (n em cm : Nat) (x y : Nat → Int) : ReadC (CL F (k + 1)) 21 [.sl 1000 am n cm] [(1000, .ro am n em 2 (mi x y))] (1000 + 100) (.int .i64 (Int.ofNat (ckE x y n))) := by
  intro R
  rw [show 1000 + 100 = (1000) + 100 from rfl, addL_eq, ← Nat.add_assoc, ← addL_eq _ 100, Nat.add_comm R (1000)]
  by_cases t0 : n = 0
  · have e0 : ckE x y n = 2 := by unfold ckE; rw [if_pos t0]
    have t1 : iEq (Int.ofNat n) 0 = true := (iEq_n (a := n) (b := 0)).trans (decide_eq_true t0)
    refine call_in (n := 33) Try.func21 rfl rfl rfl rfl rfl rfl rfl ?_
    repeat' ((conv => whnf); first | refine eqS_rfl ?_ | refine eqA_rfl ?_ | refine eqA_of (by assumption) ?_ | refine eqS_of (by rfl) ?_ | refine eqL_rfl ?_ | refine eqJ_rfl ?_ | refine gE ?_ | refine seS_rfl ?_ | refine lsS_of hup ?_ | refine lsS_rfl ?_ | refine brS_tt ?_ | refine brS_ff ?_ | refine brS_not ?_ | refine gI ?_ | refine gT ?_ | refine gF ?_ | refine brS_intro (fun _ => ?_) (fun _ => ?_) | refine gL ?_ | refine gX ?_ | refine gO ?_ | refine gN ?_ | intro _)
    conv => whnf
    exact ⟨congrArg (fun z => Value.int .i64 (Int.ofNat z)) e0.symm, nM1⟩
  have t1 : iEq (Int.ofNat n) 0 = false := (iEq_n (a := n) (b := 0)).trans (decide_eq_false t0)
  by_cases t3 : 30 < n
  · have e0 : ckE x y n = 3 := by unfold ckE; rw [if_neg t0, if_pos t3]
    have t2 : iLt 30 (Int.ofNat n) = true := iLt_t (a := 30) (b := n) t3
    refine call_in (n := 33) Try.func21 rfl rfl rfl rfl rfl rfl rfl ?_
    repeat' ((conv => whnf); first | refine eqS_rfl ?_ | refine eqA_rfl ?_ | refine eqA_of (by assumption) ?_ | refine eqS_of (by rfl) ?_ | refine eqL_rfl ?_ | refine eqJ_rfl ?_ | refine gE ?_ | refine seS_rfl ?_ | refine lsS_of hup ?_ | refine lsS_rfl ?_ | refine brS_tt ?_ | refine brS_ff ?_ | refine brS_not ?_ | refine gI ?_ | refine gT ?_ | refine gF ?_ | refine brS_intro (fun _ => ?_) (fun _ => ?_) | refine gL ?_ | refine gX ?_ | refine gO ?_ | refine gN ?_ | intro _)
    conv => whnf
    exact ⟨congrArg (fun z => Value.int .i64 (Int.ofNat z)) e0.symm, nM1⟩
  have t2 : iLt 30 (Int.ofNat n) = false := iLt_f (a := 30) (b := n) (by omega)
  have e0 : ckE x y n = fb (bd x y) n := by unfold ckE; rw [if_neg t0, if_neg t3]
  refine call_in (n := 33) Try.func21 rfl rfl rfl rfl rfl rfl rfl ?_
  repeat' ((conv => whnf); first | refine eqS_rfl ?_ | refine eqA_rfl ?_ | refine eqA_of (by assumption) ?_ | refine eqS_of (by rfl) ?_ | refine eqL_rfl ?_ | refine eqJ_rfl ?_ | refine gE ?_ | refine seS_rfl ?_ | refine lsS_of hup ?_ | refine lsS_rfl ?_ | refine brS_tt ?_ | refine brS_ff ?_ | refine brS_not ?_ | refine gI ?_ | refine gT ?_ | refine gF ?_ | refine brS_intro (fun _ => ?_) (fun _ => ?_) | refine gL ?_ | refine gX ?_ | refine gO ?_ | refine gN ?_ | intro _)
  conv => whnf
  refine loS_i (fun jj f mm R' ni => ∃ j : Nat, j ≤ n ∧ fb (bd x y) j = 0 ∧ jj = n - j + 1 ∧ f = [(11, .sl 1000 am n cm), (12, .int .i64 (Int.ofNat n)), (13, .int .i64 (Int.ofNat j))] ∧ mm = [(1000, .ro am n em 2 (mi x y))] ∧ R' = (addL (20 * (n - j) + R) 20) ∧ ni = 10) (n + 1) (by omega)
    ⟨[(11, .sl 1000 am n cm), (12, .int .i64 (Int.ofNat n)), (13, .int .i64 (Int.ofNat 0))], [(1000, .ro am n em 2 (mi x y))], (addL (20 * (n - 0) + R) 20), 10, ⟨eqF_rfl _, eqF_rfl _, eqF_rfl _, trivial⟩, WkM.refl _, nM1, 0, by omega, rfl, by omega, rfl, rfl, rfl, rfl⟩ ?_
  rintro _ _ _ _ _ ⟨j, hj, hI, rfl, rfl, rfl, rfl, rfl⟩
  by_cases hlt : j < n
  · have h1 := iLt_t hlt
    cases g0 : iLt (x j) 0 with
    | true =>
      have hbb : (!(iLt (x j) 0) && !(iLt (y j) (x j))) = false := by rw [g0]; rfl
      have hb : bd x y j = 1 := by unfold bd; rw [g0, Bool.true_or, Bool.true_or, cond_true]
      have e := fb_stop (f := bd x y) hlt hI (by rw [hb]; decide)
      repeat' ((conv => whnf); first | refine eqS_rfl ?_ | refine eqA_rfl ?_ | refine eqA_of (by assumption) ?_ | refine eqS_of (by rfl) ?_ | refine eqL_rfl ?_ | refine eqJ_rfl ?_ | refine gE ?_ | refine seS_rfl ?_ | refine lsS_of hup ?_ | refine lsS_rfl ?_ | refine brS_tt ?_ | refine brS_ff ?_ | refine brS_not ?_ | refine gI ?_ | refine gT ?_ | refine gF ?_ | refine brS_intro (fun _ => ?_) (fun _ => ?_) | refine gL ?_ | refine gX ?_ | refine gO ?_ | refine gN ?_ | intro _)
      conv => whnf
      exact ⟨congrArg (fun z => Value.int .i64 (Int.ofNat z)) (e0.trans (e.trans hb)).symm, nM1⟩
    | false =>
      cases g1 : iLt (y j) (x j) with
      | true =>
        have hbb : (!(iLt (x j) 0) && !(iLt (y j) (x j))) = false := by rw [g0, g1]; rfl
        have hb : bd x y j = 1 := by unfold bd; rw [g0, g1, Bool.false_or, Bool.true_or, cond_true]
        have e := fb_stop (f := bd x y) hlt hI (by rw [hb]; decide)
        repeat' ((conv => whnf); first | refine eqS_rfl ?_ | refine eqA_rfl ?_ | refine eqA_of (by assumption) ?_ | refine eqS_of (by rfl) ?_ | refine eqL_rfl ?_ | refine eqJ_rfl ?_ | refine gE ?_ | refine seS_rfl ?_ | refine lsS_of hup ?_ | refine lsS_rfl ?_ | refine brS_tt ?_ | refine brS_ff ?_ | refine brS_not ?_ | refine gI ?_ | refine gT ?_ | refine gF ?_ | refine brS_intro (fun _ => ?_) (fun _ => ?_) | refine gL ?_ | refine gX ?_ | refine gO ?_ | refine gN ?_ | intro _)
        conv => whnf
        exact ⟨congrArg (fun z => Value.int .i64 (Int.ofNat z)) (e0.trans (e.trans hb)).symm, nM1⟩
      | false =>
        cases g2 : iLt 100000 (y j) with
        | true =>
          have hbb : (!(iLt (x j) 0) && !(iLt (y j) (x j))) = true := by rw [g0, g1]; rfl
          have hb : bd x y j = 1 := by unfold bd; rw [g0, g1, g2, Bool.false_or, Bool.false_or, cond_true]
          have e := fb_stop (f := bd x y) hlt hI (by rw [hb]; decide)
          repeat' ((conv => whnf); first | refine eqS_rfl ?_ | refine eqA_rfl ?_ | refine eqA_of (by assumption) ?_ | refine eqS_of (by rfl) ?_ | refine eqL_rfl ?_ | refine eqJ_rfl ?_ | refine gE ?_ | refine seS_rfl ?_ | refine lsS_of hup ?_ | refine lsS_rfl ?_ | refine brS_tt ?_ | refine brS_ff ?_ | refine brS_not ?_ | refine gI ?_ | refine gT ?_ | refine gF ?_ | refine brS_intro (fun _ => ?_) (fun _ => ?_) | refine gL ?_ | refine gX ?_ | refine gO ?_ | refine gN ?_ | intro _)
          conv => whnf
          exact ⟨congrArg (fun z => Value.int .i64 (Int.ofNat z)) (e0.trans (e.trans hb)).symm, nM1⟩
        | false =>
          have hbb : (!(iLt (x j) 0) && !(iLt (y j) (x j))) = true := by rw [g0, g1]; rfl
          have hb : bd x y j = 0 := by unfold bd; rw [g0, g1, g2, Bool.false_or, Bool.false_or, cond_false]
          repeat' ((conv => whnf); first | refine eqS_rfl ?_ | refine eqA_rfl ?_ | refine eqA_of (by assumption) ?_ | refine eqS_of (by rfl) ?_ | refine eqL_rfl ?_ | refine eqJ_rfl ?_ | refine gE ?_ | refine seS_rfl ?_ | refine lsS_of hup ?_ | refine lsS_rfl ?_ | refine brS_tt ?_ | refine brS_ff ?_ | refine brS_not ?_ | refine gI ?_ | refine gT ?_ | refine gF ?_ | refine brS_intro (fun _ => ?_) (fun _ => ?_) | refine gL ?_ | refine gX ?_ | refine gO ?_ | refine gN ?_ | intro _)
          conv => whnf
          exact ⟨n - (j + 1) + 1, [(11, .sl 1000 am n cm), (12, .int .i64 (Int.ofNat n)), (13, .int .i64 (Int.ofNat (j + 1)))], _, (addL (20 * (n - (j + 1)) + R) 20), 10, by omega, ⟨eqF_rfl _, eqF_rfl _, ⟨congrArg (Value.int .i64) (smn (i := j + 1) (by omega)), rfl⟩, trivial⟩, WkM.drop (WkM.refl _), nM1, j + 1, by omega, fb_next hI hb, rfl, rfl, rfl, rfl, rfl⟩
  · have e2 : n = j := by omega
    subst e2
    have h1 := iLt_f (Nat.le_refl n)
    repeat' ((conv => whnf); first | refine eqS_rfl ?_ | refine eqA_rfl ?_ | refine eqA_of (by assumption) ?_ | refine eqS_of (by rfl) ?_ | refine eqL_rfl ?_ | refine eqJ_rfl ?_ | refine gE ?_ | refine seS_rfl ?_ | refine lsS_of hup ?_ | refine lsS_rfl ?_ | refine brS_tt ?_ | refine brS_ff ?_ | refine brS_not ?_ | refine gI ?_ | refine gT ?_ | refine gF ?_ | refine brS_intro (fun _ => ?_) (fun _ => ?_) | refine gL ?_ | refine gX ?_ | refine gO ?_ | refine gN ?_ | intro _)
    conv => whnf
    exact ⟨congrArg (fun z => Value.int .i64 (Int.ofNat z)) (e0.trans hI).symm, nM1⟩

/-- is: between -/
theorem c58 (F k : Nat) (a b c : Int) (r : Bool) (hr : (!(iLt a b) && !(iLt c a)) = r) : PureC (CL F (k + 1)) 58 [.int .i64 a, .int .i64 b, .int .i64 c] 2 (.bool r) := by
  subst hr
  cases h1 : iLt a b with
  | true =>
    intro m R
    refine call_in (n := 15) Try.func58 rfl rfl rfl rfl rfl rfl rfl ?_
    repeat' ((conv => whnf); first | refine eqS_rfl ?_ | refine eqA_rfl ?_ | refine eqA_of (by assumption) ?_ | refine eqS_of (by rfl) ?_ | refine eqL_rfl ?_ | refine eqJ_rfl ?_ | refine gE ?_ | refine seS_rfl ?_ | refine lsS_of hup ?_ | refine lsS_rfl ?_ | refine brS_tt ?_ | refine brS_ff ?_ | refine brS_not ?_ | refine gI ?_ | refine gT ?_ | refine gF ?_ | refine brS_intro (fun _ => ?_) (fun _ => ?_) | refine gL ?_ | refine gX ?_ | refine gO ?_ | refine gN ?_ | intro _)
    all_goals (conv => whnf)
    all_goals refine ⟨?_, by repeat' (first | exact WkM.refl _ | refine WkM.drop ?_), by repeat' (first | exact Nat.le_refl _ | refine Nat.le_succ_of_le ?_)⟩
    all_goals (rfl)

  | false =>
    cases h2 : iLt c a with
    | true =>
      intro m R
      refine call_in (n := 15) Try.func58 rfl rfl rfl rfl rfl rfl rfl ?_
      repeat' ((conv => whnf); first | refine eqS_rfl ?_ | refine eqA_rfl ?_ | refine eqA_of (by assumption) ?_ | refine eqS_of (by rfl) ?_ | refine eqL_rfl ?_ | refine eqJ_rfl ?_ | refine gE ?_ | refine seS_rfl ?_ | refine lsS_of hup ?_ | refine lsS_rfl ?_ | refine brS_tt ?_ | refine brS_ff ?_ | refine brS_not ?_ | refine gI ?_ | refine gT ?_ | refine gF ?_ | refine brS_intro (fun _ => ?_) (fun _ => ?_) | refine gL ?_ | refine gX ?_ | refine gO ?_ | refine gN ?_ | intro _)
      all_goals (conv => whnf)
      all_goals refine ⟨?_, by repeat' (first | exact WkM.refl _ | refine WkM.drop ?_), by repeat' (first | exact Nat.le_refl _ | refine Nat.le_succ_of_le ?_)⟩
      all_goals (exact congrArg (fun z => Value.bool (!z)) h2)

    | false =>
      intro m R
      refine call_in (n := 15) Try.func58 rfl rfl rfl rfl rfl rfl rfl ?_
      repeat' ((conv => whnf); first | refine eqS_rfl ?_ | refine eqA_rfl ?_ | refine eqA_of (by assumption) ?_ | refine eqS_of (by rfl) ?_ | refine eqL_rfl ?_ | refine eqJ_rfl ?_ | refine gE ?_ | refine seS_rfl ?_ | refine lsS_of hup ?_ | refine lsS_rfl ?_ | refine brS_tt ?_ | refine brS_ff ?_ | refine brS_not ?_ | refine gI ?_ | refine gT ?_ | refine gF ?_ | refine brS_intro (fun _ => ?_) (fun _ => ?_) | refine gL ?_ | refine gX ?_ | refine gO ?_ | refine gN ?_ | intro _)
      all_goals (conv => whnf)
      all_goals refine ⟨?_, by repeat' (first | exact WkM.refl _ | refine WkM.drop ?_), by repeat' (first | exact Nat.le_refl _ | refine Nat.le_succ_of_le ?_)⟩
      all_goals (exact congrArg (fun z => Value.bool (!z)) h2)

theorem c22i (F k : Nat) (hF : 200 < F) (am : Option Addr) (n em cm : Nat) (x y : Nat → Int) : ReadC (CL F (k + 2)) 22 [.sl 1000 am n cm] [(1000, .ro am n em 2 (mi x y))] (5000 + 100) (.int .i64 (Int.ofNat (ckE x y n))) := by
  intro R
  rw [show 5000 + 100 = (5000) + 100 from rfl, addL_eq, ← Nat.add_assoc, ← addL_eq _ 100, Nat.add_comm R (5000)]
  by_cases t0 : n = 0
  · have e0 : ckE x y n = 2 := by unfold ckE; rw [if_pos t0]
    have t1 : iEq (Int.ofNat n) 0 = true := (iEq_n (a := n) (b := 0)).trans (decide_eq_true t0)
    refine call_in (n := 36) Try.func22 rfl rfl rfl rfl rfl rfl rfl ?_
    repeat' ((conv => whnf); first | refine eqS_rfl ?_ | refine eqA_rfl ?_ | refine eqA_of (by assumption) ?_ | refine eqS_of (by rfl) ?_ | refine eqL_rfl ?_ | refine eqJ_rfl ?_ | refine gE ?_ | refine seS_rfl ?_ | refine lsS_of hup ?_ | refine lsS_rfl ?_ | refine brS_tt ?_ | refine brS_ff ?_ | refine brS_not ?_ | refine gI ?_ | refine gT ?_ | refine gF ?_ | refine brS_intro (fun _ => ?_) (fun _ => ?_) | refine gL ?_ | refine gX ?_ | refine gO ?_ | refine gN ?_ | intro _)
    conv => whnf
    exact ⟨congrArg (fun z => Value.int .i64 (Int.ofNat z)) e0.symm, nM1⟩
  have t1 : iEq (Int.ofNat n) 0 = false := (iEq_n (a := n) (b := 0)).trans (decide_eq_false t0)
  by_cases t3 : 30 < n
  · have e0 : ckE x y n = 3 := by unfold ckE; rw [if_neg t0, if_pos t3]
    have t2 : iLt 30 (Int.ofNat n) = true := iLt_t (a := 30) (b := n) t3
    refine call_in (n := 36) Try.func22 rfl rfl rfl rfl rfl rfl rfl ?_
    repeat' ((conv => whnf); first | refine eqS_rfl ?_ | refine eqA_rfl ?_ | refine eqA_of (by assumption) ?_ | refine eqS_of (by rfl) ?_ | refine eqL_rfl ?_ | refine eqJ_rfl ?_ | refine gE ?_ | refine seS_rfl ?_ | refine lsS_of hup ?_ | refine lsS_rfl ?_ | refine brS_tt ?_ | refine brS_ff ?_ | refine brS_not ?_ | refine gI ?_ | refine gT ?_ | refine gF ?_ | refine brS_intro (fun _ => ?_) (fun _ => ?_) | refine gL ?_ | refine gX ?_ | refine gO ?_ | refine gN ?_ | intro _)
    conv => whnf
    exact ⟨congrArg (fun z => Value.int .i64 (Int.ofNat z)) e0.symm, nM1⟩
  have t2 : iLt 30 (Int.ofNat n) = false := iLt_f (a := 30) (b := n) (by omega)
  have e0 : ckE x y n = fb (bd x y) n := by unfold ckE; rw [if_neg t0, if_neg t3]
  refine call_in (n := 36) Try.func22 rfl rfl rfl rfl rfl rfl rfl ?_
  repeat' ((conv => whnf); first | refine eqS_rfl ?_ | refine eqA_rfl ?_ | refine eqA_of (by assumption) ?_ | refine eqS_of (by rfl) ?_ | refine eqL_rfl ?_ | refine eqJ_rfl ?_ | refine gE ?_ | refine seS_rfl ?_ | refine lsS_of hup ?_ | refine lsS_rfl ?_ | refine brS_tt ?_ | refine brS_ff ?_ | refine brS_not ?_ | refine gI ?_ | refine gT ?_ | refine gF ?_ | refine brS_intro (fun _ => ?_) (fun _ => ?_) | refine gL ?_ | refine gX ?_ | refine gO ?_ | refine gN ?_ | intro _)
  conv => whnf
  refine loS_i (fun jj f mm R' ni => ∃ j : Nat, j ≤ n ∧ fb (bd x y) j = 0 ∧ jj = n - j + 1 ∧ f = [(0, .sl 1000 am n cm), (3, .int .i64 (Int.ofNat j))] ∧ mm = [(1000, .ro am n em 2 (mi x y))] ∧ R' = (addL (60 * (n - j) + R) 60) ∧ ni = 10) (n + 1) (by omega)
    ⟨[(0, .sl 1000 am n cm), (3, .int .i64 (Int.ofNat 0))], [(1000, .ro am n em 2 (mi x y))], (addL (60 * (n - 0) + R) 60), 10, ⟨eqF_rfl _, eqF_rfl _, trivial⟩, WkM.refl _, nM1, 0, by omega, rfl, by omega, rfl, rfl, rfl, rfl⟩ ?_
  rintro _ _ _ _ _ ⟨j, hj, hI, rfl, rfl, rfl, rfl, rfl⟩
  by_cases hlt : j < n
  · have h1 := iLt_t hlt
    cases g0 : iLt (x j) 0 with
    | true =>
      have hbb : (!(iLt (x j) 0) && !(iLt (y j) (x j))) = false := by rw [g0]; rfl
      have hb : bd x y j = 1 := by unfold bd; rw [g0, Bool.true_or, Bool.true_or, cond_true]
      have e := fb_stop (f := bd x y) hlt hI (by rw [hb]; decide)
      repeat' ((conv => whnf); first | refine eqS_rfl ?_ | refine eqA_rfl ?_ | refine eqA_of (by assumption) ?_ | refine eqS_of (by rfl) ?_ | refine eqL_rfl ?_ | refine eqJ_rfl ?_ | refine gE ?_ | refine seS_rfl ?_ | refine lsS_of hup ?_ | refine lsS_rfl ?_ | refine brS_tt ?_ | refine brS_ff ?_ | refine brS_not ?_ | refine gI ?_ | refine gT ?_ | refine gF ?_ | refine brS_intro (fun _ => ?_) (fun _ => ?_) | refine gL ?_ | refine gX ?_ | refine gO ?_ | refine gN ?_ | refine call_pure (c58 F _ (x j) 0 (y j) _ hbb) ?_ | intro _)
      conv => whnf
      exact ⟨congrArg (fun z => Value.int .i64 (Int.ofNat z)) (e0.trans (e.trans hb)).symm, nM1⟩
    | false =>
      cases g1 : iLt (y j) (x j) with
      | true =>
        have hbb : (!(iLt (x j) 0) && !(iLt (y j) (x j))) = false := by rw [g0, g1]; rfl
        have hb : bd x y j = 1 := by unfold bd; rw [g0, g1, Bool.false_or, Bool.true_or, cond_true]
        have e := fb_stop (f := bd x y) hlt hI (by rw [hb]; decide)
        repeat' ((conv => whnf); first | refine eqS_rfl ?_ | refine eqA_rfl ?_ | refine eqA_of (by assumption) ?_ | refine eqS_of (by rfl) ?_ | refine eqL_rfl ?_ | refine eqJ_rfl ?_ | refine gE ?_ | refine seS_rfl ?_ | refine lsS_of hup ?_ | refine lsS_rfl ?_ | refine brS_tt ?_ | refine brS_ff ?_ | refine brS_not ?_ | refine gI ?_ | refine gT ?_ | refine gF ?_ | refine brS_intro (fun _ => ?_) (fun _ => ?_) | refine gL ?_ | refine gX ?_ | refine gO ?_ | refine gN ?_ | refine call_pure (c58 F _ (x j) 0 (y j) _ hbb) ?_ | intro _)
        conv => whnf
        exact ⟨congrArg (fun z => Value.int .i64 (Int.ofNat z)) (e0.trans (e.trans hb)).symm, nM1⟩
      | false =>
        cases g2 : iLt 100000 (y j) with
        | true =>
          have hbb : (!(iLt (x j) 0) && !(iLt (y j) (x j))) = true := by rw [g0, g1]; rfl
          have hb : bd x y j = 1 := by unfold bd; rw [g0, g1, g2, Bool.false_or, Bool.false_or, cond_true]
          have e := fb_stop (f := bd x y) hlt hI (by rw [hb]; decide)
          repeat' ((conv => whnf); first | refine eqS_rfl ?_ | refine eqA_rfl ?_ | refine eqA_of (by assumption) ?_ | refine eqS_of (by rfl) ?_ | refine eqL_rfl ?_ | refine eqJ_rfl ?_ | refine gE ?_ | refine seS_rfl ?_ | refine lsS_of hup ?_ | refine lsS_rfl ?_ | refine brS_tt ?_ | refine brS_ff ?_ | refine brS_not ?_ | refine gI ?_ | refine gT ?_ | refine gF ?_ | refine brS_intro (fun _ => ?_) (fun _ => ?_) | refine gL ?_ | refine gX ?_ | refine gO ?_ | refine gN ?_ | refine call_pure (c58 F _ (x j) 0 (y j) _ hbb) ?_ | intro _)
          conv => whnf
          exact ⟨congrArg (fun z => Value.int .i64 (Int.ofNat z)) (e0.trans (e.trans hb)).symm, nM1⟩
        | false =>
          have hbb : (!(iLt (x j) 0) && !(iLt (y j) (x j))) = true := by rw [g0, g1]; rfl
          have hb : bd x y j = 0 := by unfold bd; rw [g0, g1, g2, Bool.false_or, Bool.false_or, cond_false]
          repeat' ((conv => whnf); first | refine eqS_rfl ?_ | refine eqA_rfl ?_ | refine eqA_of (by assumption) ?_ | refine eqS_of (by rfl) ?_ | refine eqL_rfl ?_ | refine eqJ_rfl ?_ | refine gE ?_ | refine seS_rfl ?_ | refine lsS_of hup ?_ | refine lsS_rfl ?_ | refine brS_tt ?_ | refine brS_ff ?_ | refine brS_not ?_ | refine gI ?_ | refine gT ?_ | refine gF ?_ | refine brS_intro (fun _ => ?_) (fun _ => ?_) | refine gL ?_ | refine gX ?_ | refine gO ?_ | refine gN ?_ | refine call_pure (c58 F _ (x j) 0 (y j) _ hbb) ?_ | intro _)
          conv => whnf
          exact ⟨n - (j + 1) + 1, [(0, .sl 1000 am n cm), (3, .int .i64 (Int.ofNat (j + 1)))], _, (addL (60 * (n - (j + 1)) + R) 60), 10, by omega, ⟨eqF_rfl _, ⟨congrArg (Value.int .i64) (smn (i := j + 1) (by omega)), rfl⟩, trivial⟩, WkM.refl _, nM1, j + 1, by omega, fb_next hI hb, rfl, rfl, rfl, rfl, rfl⟩
  · have e2 : n = j := by omega
    subst e2
    have h1 := iLt_f (Nat.le_refl n)
    repeat' ((conv => whnf); first | refine eqS_rfl ?_ | refine eqA_rfl ?_ | refine eqA_of (by assumption) ?_ | refine eqS_of (by rfl) ?_ | refine eqL_rfl ?_ | refine eqJ_rfl ?_ | refine gE ?_ | refine seS_rfl ?_ | refine lsS_of hup ?_ | refine lsS_rfl ?_ | refine brS_tt ?_ | refine brS_ff ?_ | refine brS_not ?_ | refine gI ?_ | refine gT ?_ | refine gF ?_ | refine brS_intro (fun _ => ?_) (fun _ => ?_) | refine gL ?_ | refine gX ?_ | refine gO ?_ | refine gN ?_ | refine call_pure (c58 F _ (x j) 0 (y j) _ hbb) ?_ | intro _)
    conv => whnf
    exact ⟨congrArg (fun z => Value.int .i64 (Int.ofNat z)) (e0.trans hI).symm, nM1⟩
end Go.Proofs.Ytefnljdfgjjpjaa
