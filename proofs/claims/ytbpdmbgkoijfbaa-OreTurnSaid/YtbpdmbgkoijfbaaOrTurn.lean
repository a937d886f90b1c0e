/- OreTurn. -/
import Derived.Test.YtbpdmbgkoijfbaaOrA
import Derived.KernelRfl
namespace Go.Proofs.Ytbpdmbgkoijfbaa
open Go.Ab
attribute [local irreducible] aggOk drwOK
set_option maxRecDepth 100000
set_option maxHeartbeats 4000000
set_option linter.unusedVariables false
set_option linter.unusedSimpArgs false
theorem wf_u16 {n : Int} (h : (Lit.int .u16 n).wf = true) : 0 ≤ n ∧ n < 65536 := by
  have h : (decide (IntKind.u16.min ≤ n) && decide (n ≤ IntKind.u16.max)) = true := h
  rw [Bool.and_eq_true, decide_eq_true_eq, decide_eq_true_eq] at h
  have e1 : IntKind.u16.min = 0 := by decide
  have e2 : IntKind.u16.max = 65535 := by decide
  rw [e1, e2] at h
  omega
theorem tp {a b : Int} (h : (0 ≤ a ∧ a ≤ 3599) ∧ (0 ≤ b ∧ b ≤ 3599)) (ht : T a b = -1800) : turnV a b = .tup [i64 0, i64 14] := by unfold turnV; rw [if_pos h, if_pos ht]
theorem tq {a b : Int} (h : (0 ≤ a ∧ a ≤ 3599) ∧ (0 ≤ b ∧ b ≤ 3599)) (ht : T a b ≠ -1800) : turnV a b = .tup [i64 (T a b), i64 0] := by unfold turnV; rw [if_pos h, if_neg ht]
theorem l12 (F d : Nat) (_ : 300 < F) (x0 x1 : Int) (hx0 : 0 ≤ x0 ∧ x0 < 65536) (hx1 : 0 ≤ x1 ∧ x1 < 65536) : PureC (CL F (d + 4)) 12 [.int .u16 x0, .int .u16 x1] 0 (.bool true) := by
  obtain ⟨a, ea⟩ : ∃ a, a = Int.tmod (wr .i64 x0) 3600 := ⟨_, rfl⟩
  obtain ⟨b, eb⟩ : ∃ b, b = Int.tmod (wr .i64 x1) 3600 := ⟨_, rfl⟩
  have ha : 0 ≤ a ∧ a ≤ 3599 := by rw [ea, sm (n := x0) (by omega), Int.tmod_eq_emod_of_nonneg (by omega)]; omega
  have hb : 0 ≤ b ∧ b ≤ 3599 := by rw [eb, sm (n := x1) (by omega), Int.tmod_eq_emod_of_nonneg (by omega)]; omega
  by_cases ht : T a b = -1800
  · have h1 : PureC (CL F (d + 3)) 15 [i64 a, i64 b] 0 (.tup [i64 0, i64 14]) := by rw [← tp ⟨ha, hb⟩ ht]; exact c15 F d a b
    have h2 : PureC (CL F (d + 3)) 15 [i64 b, i64 a] 0 (.tup [i64 0, i64 14]) := by rw [← tp ⟨hb, ha⟩ (T_neg' ht)]; exact c15 F d b a
    have f1 : iEq (Int.tmod (wr .i64 (Int.sub a b)) 1800) 0 = true := by
      rw [show wr .i64 (Int.sub a b) = a - b from sm (n := a - b) (by omega)]
      exact tm_t (by unfold T at ht; omega)
    have f2 : iEq a b = false := by rw [iEq_eq]; unfold T at ht; simp; omega
    rw [ea, eb] at h1 h2 f1 f2
    intro m R
    refine call_in (n := 88) Try.func12 rfl rfl rfl rfl rfl rfl rfl ?_
    repeat' ((conv => whnf); first
             | refine eqS_rfl ?_
             | refine eqA_rfl ?_
             | refine eqA_of (by assumption) ?_
             | refine eqS_of (by rfl) ?_
             | refine eqL_rfl ?_
             | refine eqJ_rfl ?_
             | refine flE_intro (fun _ _ => rfl) ?_
             | refine seS_rfl ?_
             | refine brS_tt ?_
             | refine brS_ff ?_
             | refine brS_not ?_
             | refine brS_t (iEq_self _) ?_
             | refine brS_t (by assumption) ?_
             | refine brS_f (by assumption) ?_
             | refine brS_intro (fun _ => ?_) (fun _ => ?_)
             | refine ltS_intro (by first | assumption | decide | exact Nat.le_of_ble_eq_true rfl | omega) ?_
             | refine ixS_of rfl (by first | assumption | decide | omega) ?_
             | refine okS_intro (by first | assumption | kernel_rfl) ?_
             | refine nzS_intro (by first | decide | assumption) ?_
             | refine call_pure h1 ?_
             | refine call_pure h2 ?_
             | refine call_w rfl ?_
             | intro _)
    all_goals (conv => whnf)
    all_goals exact ⟨rfl, WkM.refl _, Nat.le_refl _⟩
  · have h1 : PureC (CL F (d + 3)) 15 [i64 a, i64 b] 0 (.tup [i64 (T a b), i64 0]) := by rw [← tq ⟨ha, hb⟩ ht]; exact c15 F d a b
    have h2 : PureC (CL F (d + 3)) 15 [i64 b, i64 a] 0 (.tup [i64 (- T a b), i64 0]) := by rw [← T_neg ht, ← tq ⟨hb, ha⟩ (by rw [T_neg ht]; have := T_bd a b; omega)]; exact c15 F d b a
    have hbd := T_bd a b
    obtain ⟨q, hq⟩ := T_mod a b
    have f1 : (iEq (Int.tmod (wr .i64 (Int.sub a b)) 1800) 0 = true ∧ iEq a b = true) ∨ iEq (Int.tmod (wr .i64 (Int.sub a b)) 1800) 0 = false := by
      rw [show wr .i64 (Int.sub a b) = a - b from sm (n := a - b) (by omega)]
      by_cases e : a = b
      · left; subst e; exact ⟨tm_t (by omega), iEq_self _⟩
      · right; exact tm_f (by unfold T at ht; omega)
    have f2 : iLt (-1800) (T a b) = true := by rw [iLt_eq]; simp; omega
    have f3 : iLt (T a b) 1800 = true := by rw [iLt_eq]; simp; omega
    have f4 : iEq (Int.tmod (wr .i64 (Int.sub (wr .i64 (Int.add a (T a b))) b)) 3600) 0 = true := by
      rw [show wr .i64 (Int.add a (T a b)) = a + T a b from sm (n := a + T a b) (by omega), show wr .i64 (Int.sub (a + T a b) b) = a + T a b - b from sm (n := a + T a b - b) (by omega)]
      exact tm_t (by omega)
    have f5 : iEq (- T a b) (wr .i64 (Int.sub 0 (T a b))) = true := by
      rw [show wr .i64 (Int.sub 0 (T a b)) = 0 - T a b from sm (n := 0 - T a b) (by omega), iEq_eq]
      simp
    rw [ea, eb] at h1 h2 f1 f2 f3 f4 f5
    rcases f1 with ⟨f1, f6⟩ | f1
    · skip
      intro m R
      refine call_in (n := 88) Try.func12 rfl rfl rfl rfl rfl rfl rfl ?_
      repeat' ((conv => whnf); first
               | refine eqS_rfl ?_
               | refine eqA_rfl ?_
               | refine eqA_of (by assumption) ?_
               | refine eqS_of (by rfl) ?_
               | refine eqL_rfl ?_
               | refine eqJ_rfl ?_
               | refine flE_intro (fun _ _ => rfl) ?_
               | refine seS_rfl ?_
               | refine brS_tt ?_
               | refine brS_ff ?_
               | refine brS_not ?_
               | refine brS_t (iEq_self _) ?_
               | refine brS_t (by assumption) ?_
               | refine brS_f (by assumption) ?_
               | refine brS_intro (fun _ => ?_) (fun _ => ?_)
               | refine ltS_intro (by first | assumption | decide | exact Nat.le_of_ble_eq_true rfl | omega) ?_
               | refine ixS_of rfl (by first | assumption | decide | omega) ?_
               | refine okS_intro (by first | assumption | kernel_rfl) ?_
               | refine nzS_intro (by first | decide | assumption) ?_
               | refine call_pure h1 ?_
               | refine call_pure h2 ?_
               | refine call_w rfl ?_
               | intro _)
      all_goals (conv => whnf)
      all_goals exact ⟨rfl, WkM.refl _, Nat.le_refl _⟩
    · skip
      intro m R
      refine call_in (n := 88) Try.func12 rfl rfl rfl rfl rfl rfl rfl ?_
      repeat' ((conv => whnf); first
               | refine eqS_rfl ?_
               | refine eqA_rfl ?_
               | refine eqA_of (by assumption) ?_
               | refine eqS_of (by rfl) ?_
               | refine eqL_rfl ?_
               | refine eqJ_rfl ?_
               | refine flE_intro (fun _ _ => rfl) ?_
               | refine seS_rfl ?_
               | refine brS_tt ?_
               | refine brS_ff ?_
               | refine brS_not ?_
               | refine brS_t (iEq_self _) ?_
               | refine brS_t (by assumption) ?_
               | refine brS_f (by assumption) ?_
               | refine brS_intro (fun _ => ?_) (fun _ => ?_)
               | refine ltS_intro (by first | assumption | decide | exact Nat.le_of_ble_eq_true rfl | omega) ?_
               | refine ixS_of rfl (by first | assumption | decide | omega) ?_
               | refine okS_intro (by first | assumption | kernel_rfl) ?_
               | refine nzS_intro (by first | decide | assumption) ?_
               | refine call_pure h1 ?_
               | refine call_pure h2 ?_
               | refine call_w rfl ?_
               | intro _)
      all_goals (conv => whnf)
      all_goals exact ⟨rfl, WkM.refl _, Nat.le_refl _⟩
end Go.Proofs.Ytbpdmbgkoijfbaa
