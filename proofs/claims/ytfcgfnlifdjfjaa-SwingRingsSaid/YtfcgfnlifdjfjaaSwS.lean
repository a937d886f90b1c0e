/- Swing: SwingRings out of range. -/
import Derived.Test.YtfcgfnlifdjfjaaSwX
import Derived.KernelRfl
namespace Go.Proofs.Ytfcgfnlifdjfjaa
open Go.Ab
attribute [local irreducible] aggOk drwOK
set_option maxRecDepth 100000
set_option maxHeartbeats 4000000
set_option linter.unusedVariables false
set_option linter.unusedSimpArgs false
theorem c5_lo (F d : Nat) (hF : 200 < F) (n : Int) (h1 : n < 1) : PureC (CL F (d + 6)) 5 [.int .i64 n] 60 (.bool true) := by
  have d1 : iLt n 1 = true := by rw [iLt_eq]; exact decide_eq_true h1
  have e0 : ((ByteArray.mk #[]).toList == (ByteArray.mk #[]).toList) = true := beq_self_eq_true _
  intro m R
  refine call_in (n := 76) Try.func5 rfl rfl rfl rfl rfl rfl rfl ?_
  repeat' ((conv => whnf); first | refine eqS_rfl ?_ | refine eqA_rfl ?_ | refine eqA_of (by assumption) ?_ | refine eqS_of (by rfl) ?_ | refine eqL_rfl ?_ | refine eqJ_rfl ?_ | refine gE ?_ | refine seS_rfl ?_ | refine lsS_of hup ?_ | refine lsS_rfl ?_ | refine brS_tt ?_ | refine brS_ff ?_ | refine brS_not ?_ | refine gI ?_ | refine gT ?_ | refine gF ?_ | refine brS_intro (fun _ => ?_) (fun _ => ?_) | refine gL ?_ | refine gX ?_ | refine gO ?_ | refine gN ?_ | refine loS_u 1 (by omega) ?_ | refine call_w rfl ?_ | refine call_in (n := 12) Try.func27 rfl rfl rfl rfl rfl rfl rfl ?_ | refine call_in (n := 9) Try.func28 rfl rfl rfl rfl rfl rfl rfl ?_ | refine call_in (n := 29) Try.func29 rfl rfl rfl rfl rfl rfl rfl ?_ | refine call_in (n := 78) Try.func30 rfl rfl rfl rfl rfl rfl rfl ?_ | refine call_in (n := 26) Try.func31 rfl rfl rfl rfl rfl rfl rfl ?_ | refine call_in (n := 23) Try.func32 rfl rfl rfl rfl rfl rfl rfl ?_ | refine call_in (n := 11) Try.func51 rfl rfl rfl rfl rfl rfl rfl ?_ | refine call_in (n := 15) Try.func60 rfl rfl rfl rfl rfl rfl rfl ?_ | refine call_in (n := 26) Try.func21 rfl rfl rfl rfl rfl rfl rfl ?_ | intro _)
  all_goals (conv => whnf)
  all_goals refine ⟨?_, by repeat' (first | exact WkM.refl _ | refine WkM.drop ?_), by repeat' (first | exact Nat.le_refl _ | refine Nat.le_succ_of_le ?_)⟩
  all_goals (first | rfl | (simp only [iEq_self]; rfl))

theorem c5_hi (F d : Nat) (hF : 200 < F) (n : Int) (h1 : 40 < n) : PureC (CL F (d + 6)) 5 [.int .i64 n] 60 (.bool true) := by
  have d1 : iLt n 1 = false := by rw [iLt_eq]; exact decide_eq_false (by omega)
  have d2 : iLt 6 n = true := by rw [iLt_eq]; exact decide_eq_true (by omega)
  have d3 : iLt 40 n = true := by rw [iLt_eq]; exact decide_eq_true (by omega)
  have e0 : ((ByteArray.mk #[]).toList == (ByteArray.mk #[]).toList) = true := beq_self_eq_true _
  intro m R
  refine call_in (n := 76) Try.func5 rfl rfl rfl rfl rfl rfl rfl ?_
  repeat' ((conv => whnf); first | refine eqS_rfl ?_ | refine eqA_rfl ?_ | refine eqA_of (by assumption) ?_ | refine eqS_of (by rfl) ?_ | refine eqL_rfl ?_ | refine eqJ_rfl ?_ | refine gE ?_ | refine seS_rfl ?_ | refine lsS_of hup ?_ | refine lsS_rfl ?_ | refine brS_tt ?_ | refine brS_ff ?_ | refine brS_not ?_ | refine gI ?_ | refine gT ?_ | refine gF ?_ | refine brS_intro (fun _ => ?_) (fun _ => ?_) | refine gL ?_ | refine gX ?_ | refine gO ?_ | refine gN ?_ | refine loS_u 1 (by omega) ?_ | refine call_w rfl ?_ | refine call_in (n := 12) Try.func27 rfl rfl rfl rfl rfl rfl rfl ?_ | refine call_in (n := 9) Try.func28 rfl rfl rfl rfl rfl rfl rfl ?_ | refine call_in (n := 29) Try.func29 rfl rfl rfl rfl rfl rfl rfl ?_ | refine call_in (n := 78) Try.func30 rfl rfl rfl rfl rfl rfl rfl ?_ | refine call_in (n := 26) Try.func31 rfl rfl rfl rfl rfl rfl rfl ?_ | refine call_in (n := 23) Try.func32 rfl rfl rfl rfl rfl rfl rfl ?_ | refine call_in (n := 11) Try.func51 rfl rfl rfl rfl rfl rfl rfl ?_ | refine call_in (n := 15) Try.func60 rfl rfl rfl rfl rfl rfl rfl ?_ | refine call_in (n := 26) Try.func21 rfl rfl rfl rfl rfl rfl rfl ?_ | intro _)
  all_goals (conv => whnf)
  all_goals refine ⟨?_, by repeat' (first | exact WkM.refl _ | refine WkM.drop ?_), by repeat' (first | exact Nat.le_refl _ | refine Nat.le_succ_of_le ?_)⟩
  all_goals (first | rfl | (simp only [iEq_self]; rfl))

end Go.Proofs.Ytfcgfnlifdjfjaa
