/- MagnetRests. -/
import Derived.Test.YtlgglfmbcbfdmaaMgB
import Derived.KernelRfl
namespace Go.Proofs.Ytlgglfmbcbfdmaa
open Go.Ab
attribute [local irreducible] aggOk drwOK
set_option maxRecDepth 100000
set_option maxHeartbeats 4000000
set_option linter.unusedVariables false
set_option linter.unusedSimpArgs false
theorem rest_both (F d : Nat) (hF : 300 < F) (a b c e p q i j : Int) : ∃ x y s : Int, PureC (CL F (d + 5)) 7 [kt a b c e, pt p q, pt i j] 300 (.tup [pt x y, i64 s]) ∧ PureC (CL F (d + 5)) 8 [kt a b c e, pt p q, pt i j] 300 (.tup [pt x y, i64 s]) := by
  cases h : iEq (chkM a b c e) 0 with
  | false =>
    refine ⟨0, 0, chkM a b c e, ?_, ?_⟩
    · skip
      intro m R
      refine call_in (n := 22) Try.func7 rfl rfl rfl rfl rfl rfl rfl ?_
      repeat' ((conv => whnf); first
               | refine eqS_rfl ?_
               | refine eqA_rfl ?_
               | refine eqA_of (by assumption) ?_
               | refine eqS_of (by rfl) ?_
               | refine eqL_rfl ?_
               | refine eqJ_rfl ?_
               | refine flE_intro (fun _ _ => rfl) ?_
               | refine seS_rfl ?_
               | refine brS_tt ?_
               | refine brS_ff ?_
               | refine brS_not ?_
               | refine brS_t (iEq_self _) ?_
               | refine brS_t (by assumption) ?_
               | refine brS_f (by assumption) ?_
               | refine brS_intro (fun _ => ?_) (fun _ => ?_)
               | refine ltS_intro (by first | assumption | decide | exact Nat.le_of_ble_eq_true rfl | omega) ?_
               | refine ixS_of rfl (by first | assumption | decide | omega) ?_
               | refine okS_intro (by first | assumption | kernel_rfl) ?_
               | refine nzS_intro (by first | decide | assumption) ?_
               | refine call_pure (c11 F _ _ _ _ _) ?_
               | refine call_pure (c21 F _ _ _ _ (by omega)) ?_
               | refine call_pure (c17 F _ _ _ _ _ _ _ _ _) ?_
               | refine loS_u 3 (by omega) ?_
               | refine call_pure (c37 F _ _ _ (by omega)) ?_
               | refine call_in (n := 35) Try.func16 rfl rfl rfl rfl rfl rfl rfl ?_
               | intro _)
      all_goals (conv => whnf)
      all_goals refine ⟨?_, by repeat' (first | exact WkM.refl _ | refine WkM.drop ?_), by repeat' (first | exact Nat.le_refl _ | refine Nat.le_succ_of_le ?_)⟩
      all_goals (rfl)

    · skip
      intro m R
      refine call_in (n := 42) Try.func8 rfl rfl rfl rfl rfl rfl rfl ?_
      repeat' ((conv => whnf); first
               | refine eqS_rfl ?_
               | refine eqA_rfl ?_
               | refine eqA_of (by assumption) ?_
               | refine eqS_of (by rfl) ?_
               | refine eqL_rfl ?_
               | refine eqJ_rfl ?_
               | refine flE_intro (fun _ _ => rfl) ?_
               | refine seS_rfl ?_
               | refine brS_tt ?_
               | refine brS_ff ?_
               | refine brS_not ?_
               | refine brS_t (iEq_self _) ?_
               | refine brS_t (by assumption) ?_
               | refine brS_f (by assumption) ?_
               | refine brS_intro (fun _ => ?_) (fun _ => ?_)
               | refine ltS_intro (by first | assumption | decide | exact Nat.le_of_ble_eq_true rfl | omega) ?_
               | refine ixS_of rfl (by first | assumption | decide | omega) ?_
               | refine okS_intro (by first | assumption | kernel_rfl) ?_
               | refine nzS_intro (by first | decide | assumption) ?_
               | refine call_pure (c12 F _ _ _ _ _) ?_
               | refine call_pure (c18 F _ _ _ _ (by omega)) ?_
               | refine call_pure (c19 F _ _ _) ?_
               | refine call_pure (c20 F _ _ _ _ _ _ _) ?_
               | intro _)
      all_goals (conv => whnf)
      all_goals refine ⟨?_, by repeat' (first | exact WkM.refl _ | refine WkM.drop ?_), by repeat' (first | exact Nat.le_refl _ | refine Nat.le_succ_of_le ?_)⟩
      all_goals (rfl)

  | true =>
    cases h1 : upB p q 10000 with
    | false =>
      refine ⟨0, 0, 1, ?_, ?_⟩
      · skip
        intro m R
        refine call_in (n := 22) Try.func7 rfl rfl rfl rfl rfl rfl rfl ?_
        repeat' ((conv => whnf); first
                 | refine eqS_rfl ?_
                 | refine eqA_rfl ?_
                 | refine eqA_of (by assumption) ?_
                 | refine eqS_of (by rfl) ?_
                 | refine eqL_rfl ?_
                 | refine eqJ_rfl ?_
                 | refine flE_intro (fun _ _ => rfl) ?_
                 | refine seS_rfl ?_
                 | refine brS_tt ?_
                 | refine brS_ff ?_
                 | refine brS_not ?_
                 | refine brS_t (iEq_self _) ?_
                 | refine brS_t (by assumption) ?_
                 | refine brS_f (by assumption) ?_
                 | refine brS_intro (fun _ => ?_) (fun _ => ?_)
                 | refine ltS_intro (by first | assumption | decide | exact Nat.le_of_ble_eq_true rfl | omega) ?_
                 | refine ixS_of rfl (by first | assumption | decide | omega) ?_
                 | refine okS_intro (by first | assumption | kernel_rfl) ?_
                 | refine nzS_intro (by first | decide | assumption) ?_
                 | refine call_pure (c11 F _ _ _ _ _) ?_
                 | refine call_pure (c21 F _ _ _ _ (by omega)) ?_
                 | refine call_pure (c17 F _ _ _ _ _ _ _ _ _) ?_
                 | refine loS_u 3 (by omega) ?_
                 | refine call_pure (c37 F _ _ _ (by omega)) ?_
                 | refine call_in (n := 35) Try.func16 rfl rfl rfl rfl rfl rfl rfl ?_
                 | intro _)
        all_goals (conv => whnf)
        all_goals refine ⟨?_, by repeat' (first | exact WkM.refl _ | refine WkM.drop ?_), by repeat' (first | exact Nat.le_refl _ | refine Nat.le_succ_of_le ?_)⟩
        all_goals (rfl)

      · skip
        intro m R
        refine call_in (n := 42) Try.func8 rfl rfl rfl rfl rfl rfl rfl ?_
        repeat' ((conv => whnf); first
                 | refine eqS_rfl ?_
                 | refine eqA_rfl ?_
                 | refine eqA_of (by assumption) ?_
                 | refine eqS_of (by rfl) ?_
                 | refine eqL_rfl ?_
                 | refine eqJ_rfl ?_
                 | refine flE_intro (fun _ _ => rfl) ?_
                 | refine seS_rfl ?_
                 | refine brS_tt ?_
                 | refine brS_ff ?_
                 | refine brS_not ?_
                 | refine brS_t (iEq_self _) ?_
                 | refine brS_t (by assumption) ?_
                 | refine brS_f (by assumption) ?_
                 | refine brS_intro (fun _ => ?_) (fun _ => ?_)
                 | refine ltS_intro (by first | assumption | decide | exact Nat.le_of_ble_eq_true rfl | omega) ?_
                 | refine ixS_of rfl (by first | assumption | decide | omega) ?_
                 | refine okS_intro (by first | assumption | kernel_rfl) ?_
                 | refine nzS_intro (by first | decide | assumption) ?_
                 | refine call_pure (c12 F _ _ _ _ _) ?_
                 | refine call_pure (c18 F _ _ _ _ (by omega)) ?_
                 | refine call_pure (c19 F _ _ _) ?_
                 | refine call_pure (c20 F _ _ _ _ _ _ _) ?_
                 | intro _)
        all_goals (conv => whnf)
        all_goals refine ⟨?_, by repeat' (first | exact WkM.refl _ | refine WkM.drop ?_), by repeat' (first | exact Nat.le_refl _ | refine Nat.le_succ_of_le ?_)⟩
        all_goals (rfl)

    | true =>
      cases h2 : upB i j 100000000 with
      | false =>
        refine ⟨0, 0, 1, ?_, ?_⟩
        · cases h4 : decide (-100000000 ≤ i ∧ i ≤ 100000000) with
          | false =>
            intro m R
            refine call_in (n := 22) Try.func7 rfl rfl rfl rfl rfl rfl rfl ?_
            repeat' ((conv => whnf); first
                     | refine eqS_rfl ?_
                     | refine eqA_rfl ?_
                     | refine eqA_of (by assumption) ?_
                     | refine eqS_of (by rfl) ?_
                     | refine eqL_rfl ?_
                     | refine eqJ_rfl ?_
                     | refine flE_intro (fun _ _ => rfl) ?_
                     | refine seS_rfl ?_
                     | refine brS_tt ?_
                     | refine brS_ff ?_
                     | refine brS_not ?_
                     | refine brS_t (iEq_self _) ?_
                     | refine brS_t (by assumption) ?_
                     | refine brS_f (by assumption) ?_
                     | refine brS_intro (fun _ => ?_) (fun _ => ?_)
                     | refine ltS_intro (by first | assumption | decide | exact Nat.le_of_ble_eq_true rfl | omega) ?_
                     | refine ixS_of rfl (by first | assumption | decide | omega) ?_
                     | refine okS_intro (by first | assumption | kernel_rfl) ?_
                     | refine nzS_intro (by first | decide | assumption) ?_
                     | refine call_pure (c11 F _ _ _ _ _) ?_
                     | refine call_pure (c21 F _ _ _ _ (by omega)) ?_
                     | refine call_pure (c17 F _ _ _ _ _ _ _ _ _) ?_
                     | refine loS_u 3 (by omega) ?_
                     | refine call_pure (c37 F _ _ _ (by omega)) ?_
                     | refine call_in (n := 35) Try.func16 rfl rfl rfl rfl rfl rfl rfl ?_
                     | intro _)
            all_goals (conv => whnf)
            all_goals refine ⟨?_, by repeat' (first | exact WkM.refl _ | refine WkM.drop ?_), by repeat' (first | exact Nat.le_refl _ | refine Nat.le_succ_of_le ?_)⟩
            all_goals (rfl)

          | true =>
            have h5 : decide (-100000000 ≤ j ∧ j ≤ 100000000) = false := by unfold upB at h2; rw [h4, Bool.true_and] at h2; exact h2
            intro m R
            refine call_in (n := 22) Try.func7 rfl rfl rfl rfl rfl rfl rfl ?_
            repeat' ((conv => whnf); first
                     | refine eqS_rfl ?_
                     | refine eqA_rfl ?_
                     | refine eqA_of (by assumption) ?_
                     | refine eqS_of (by rfl) ?_
                     | refine eqL_rfl ?_
                     | refine eqJ_rfl ?_
                     | refine flE_intro (fun _ _ => rfl) ?_
                     | refine seS_rfl ?_
                     | refine brS_tt ?_
                     | refine brS_ff ?_
                     | refine brS_not ?_
                     | refine brS_t (iEq_self _) ?_
                     | refine brS_t (by assumption) ?_
                     | refine brS_f (by assumption) ?_
                     | refine brS_intro (fun _ => ?_) (fun _ => ?_)
                     | refine ltS_intro (by first | assumption | decide | exact Nat.le_of_ble_eq_true rfl | omega) ?_
                     | refine ixS_of rfl (by first | assumption | decide | omega) ?_
                     | refine okS_intro (by first | assumption | kernel_rfl) ?_
                     | refine nzS_intro (by first | decide | assumption) ?_
                     | refine call_pure (c11 F _ _ _ _ _) ?_
                     | refine call_pure (c21 F _ _ _ _ (by omega)) ?_
                     | refine call_pure (c17 F _ _ _ _ _ _ _ _ _) ?_
                     | refine loS_u 3 (by omega) ?_
                     | refine call_pure (c37 F _ _ _ (by omega)) ?_
                     | refine call_in (n := 35) Try.func16 rfl rfl rfl rfl rfl rfl rfl ?_
                     | intro _)
            all_goals (conv => whnf)
            all_goals refine ⟨?_, by repeat' (first | exact WkM.refl _ | refine WkM.drop ?_), by repeat' (first | exact Nat.le_refl _ | refine Nat.le_succ_of_le ?_)⟩
            all_goals (rfl)

        · skip
          intro m R
          refine call_in (n := 42) Try.func8 rfl rfl rfl rfl rfl rfl rfl ?_
          repeat' ((conv => whnf); first
                   | refine eqS_rfl ?_
                   | refine eqA_rfl ?_
                   | refine eqA_of (by assumption) ?_
                   | refine eqS_of (by rfl) ?_
                   | refine eqL_rfl ?_
                   | refine eqJ_rfl ?_
                   | refine flE_intro (fun _ _ => rfl) ?_
                   | refine seS_rfl ?_
                   | refine brS_tt ?_
                   | refine brS_ff ?_
                   | refine brS_not ?_
                   | refine brS_t (iEq_self _) ?_
                   | refine brS_t (by assumption) ?_
                   | refine brS_f (by assumption) ?_
                   | refine brS_intro (fun _ => ?_) (fun _ => ?_)
                   | refine ltS_intro (by first | assumption | decide | exact Nat.le_of_ble_eq_true rfl | omega) ?_
                   | refine ixS_of rfl (by first | assumption | decide | omega) ?_
                   | refine okS_intro (by first | assumption | kernel_rfl) ?_
                   | refine nzS_intro (by first | decide | assumption) ?_
                   | refine call_pure (c12 F _ _ _ _ _) ?_
                   | refine call_pure (c18 F _ _ _ _ (by omega)) ?_
                   | refine call_pure (c19 F _ _ _) ?_
                   | refine call_pure (c20 F _ _ _ _ _ _ _) ?_
                   | intro _)
          all_goals (conv => whnf)
          all_goals refine ⟨?_, by repeat' (first | exact WkM.refl _ | refine WkM.drop ?_), by repeat' (first | exact Nat.le_refl _ | refine Nat.le_succ_of_le ?_)⟩
          all_goals (rfl)

      | true =>
        refine ⟨ad p (ad (ml i a) (ml j c)), ad q (ad (ml i b) (ml j e)), 0, ?_, ?_⟩
        rotate_left
        · skip
          intro m R
          refine call_in (n := 42) Try.func8 rfl rfl rfl rfl rfl rfl rfl ?_
          repeat' ((conv => whnf); first
                   | refine eqS_rfl ?_
                   | refine eqA_rfl ?_
                   | refine eqA_of (by assumption) ?_
                   | refine eqS_of (by rfl) ?_
                   | refine eqL_rfl ?_
                   | refine eqJ_rfl ?_
                   | refine flE_intro (fun _ _ => rfl) ?_
                   | refine seS_rfl ?_
                   | refine brS_tt ?_
                   | refine brS_ff ?_
                   | refine brS_not ?_
                   | refine brS_t (iEq_self _) ?_
                   | refine brS_t (by assumption) ?_
                   | refine brS_f (by assumption) ?_
                   | refine brS_intro (fun _ => ?_) (fun _ => ?_)
                   | refine ltS_intro (by first | assumption | decide | exact Nat.le_of_ble_eq_true rfl | omega) ?_
                   | refine ixS_of rfl (by first | assumption | decide | omega) ?_
                   | refine okS_intro (by first | assumption | kernel_rfl) ?_
                   | refine nzS_intro (by first | decide | assumption) ?_
                   | refine call_pure (c12 F _ _ _ _ _) ?_
                   | refine call_pure (c18 F _ _ _ _ (by omega)) ?_
                   | refine call_pure (c19 F _ _ _) ?_
                   | refine call_pure (c20 F _ _ _ _ _ _ _) ?_
                   | intro _)
          all_goals (conv => whnf)
          all_goals refine ⟨?_, by repeat' (first | exact WkM.refl _ | refine WkM.drop ?_), by repeat' (first | exact Nat.le_refl _ | refine Nat.le_succ_of_le ?_)⟩
          all_goals (rfl)

        · have h4 : decide (-100000000 ≤ i ∧ i ≤ 100000000) = true := by unfold upB at h2; rw [Bool.and_eq_true] at h2; exact h2.1
          have h5 : decide (-100000000 ≤ j ∧ j ≤ 100000000) = true := by unfold upB at h2; rw [Bool.and_eq_true] at h2; exact h2.2
          intro m R
          refine call_in (n := 22) Try.func7 rfl rfl rfl rfl rfl rfl rfl ?_
          repeat' ((conv => whnf); first
                   | refine eqS_rfl ?_
                   | refine eqA_rfl ?_
                   | refine eqA_of (by assumption) ?_
                   | refine eqS_of (by rfl) ?_
                   | refine eqL_rfl ?_
                   | refine eqJ_rfl ?_
                   | refine flE_intro (fun _ _ => rfl) ?_
                   | refine seS_rfl ?_
                   | refine brS_tt ?_
                   | refine brS_ff ?_
                   | refine brS_not ?_
                   | refine brS_t (iEq_self _) ?_
                   | refine brS_t (by assumption) ?_
                   | refine brS_f (by assumption) ?_
                   | refine brS_intro (fun _ => ?_) (fun _ => ?_)
                   | refine ltS_intro (by first | assumption | decide | exact Nat.le_of_ble_eq_true rfl | omega) ?_
                   | refine ixS_of rfl (by first | assumption | decide | omega) ?_
                   | refine okS_intro (by first | assumption | kernel_rfl) ?_
                   | refine nzS_intro (by first | decide | assumption) ?_
                   | refine call_pure (c11 F _ _ _ _ _) ?_
                   | refine call_pure (c21 F _ _ _ _ (by omega)) ?_
                   | refine call_pure (c17 F _ _ _ _ _ _ _ _ _) ?_
                   | refine loS_u 3 (by omega) ?_
                   | refine call_pure (c37 F _ _ _ (by omega)) ?_
                   | refine call_in (n := 35) Try.func16 rfl rfl rfl rfl rfl rfl rfl ?_
                   | intro _)
          all_goals (conv => whnf)
          all_goals refine ⟨?_, by repeat' (first | exact WkM.refl _ | refine WkM.drop ?_), by repeat' (first | exact Nat.le_refl _ | refine Nat.le_succ_of_le ?_)⟩
          all_goals (rfl)

theorem eq28 (a b x y : Int) : eqV Try.prog 40 28 (.agg ⟨[.int .i64 a, .int .i64 b]⟩) (.agg ⟨[.int .i64 x, .int .i64 y]⟩) = some (iEq a x && (iEq b y && true)) := by kernel_rfl
theorem eq28t (a b : Int) : eqV Try.prog 40 28 (.agg ⟨[.int .i64 a, .int .i64 b]⟩) (.agg ⟨[.int .i64 a, .int .i64 b]⟩) = some true := by rw [eq28, iEq_self, iEq_self]; rfl
theorem l3 (F d : Nat) (hF : 300 < F) (a b c e p q i j : Int) : PureC (CL F (d + 6)) 3 [kt a b c e, pt p q, pt i j] 2000 (.bool true) := by
  obtain ⟨r, s, h5, h6⟩ := red_both F (d + 1) a b c e
  obtain ⟨x, y, t, h7, h8⟩ := rest_both F d hF a b c e p q i j
  have hr : (r == r) = true := by cases r <;> rfl
  intro m R
  refine call_in (n := 73) Try.func3 rfl rfl rfl rfl rfl rfl rfl ?_
  repeat' ((conv => whnf); first
           | refine eqS_rfl ?_
           | refine eqA_rfl ?_
           | refine eqA_of (by assumption) ?_
           | refine eqS_of (by rfl) ?_
           | refine eqL_rfl ?_
           | refine eqJ_rfl ?_
           | refine flE_intro (fun _ _ => rfl) ?_
           | refine seS_rfl ?_
           | refine brS_tt ?_
           | refine brS_ff ?_
           | refine brS_not ?_
           | refine brS_t (iEq_self _) ?_
           | refine brS_t (by assumption) ?_
           | refine brS_f (by assumption) ?_
           | refine brS_intro (fun _ => ?_) (fun _ => ?_)
           | refine ltS_intro (by first | assumption | decide | exact Nat.le_of_ble_eq_true rfl | omega) ?_
           | refine ixS_of rfl (by first | assumption | decide | omega) ?_
           | refine okS_intro (by first | assumption | kernel_rfl) ?_
           | refine nzS_intro (by first | decide | assumption) ?_
           | refine call_w rfl ?_
           | refine call_pure h5 ?_
           | refine call_pure h6 ?_
           | refine call_pure h7 ?_
           | refine call_pure h8 ?_
           | refine call_pure (c4 F _ _ _ _ _) ?_
           | refine call_pure (c9 F _ _ _) ?_
           | refine call_pure (c10 F _ _ _) ?_
           | refine call_pure (c11 F _ _ _ _ _) ?_
           | refine call_pure (c12 F _ _ _ _ _) ?_
           | refine agS.mk (by kernel_rfl) ?_
           | refine eqvS_of (eq28t _ _) ?_
           | intro _)
  all_goals (conv => whnf)
  all_goals refine ⟨?_, by repeat' (first | exact WkM.refl _ | refine WkM.drop ?_), by repeat' (first | exact Nat.le_refl _ | refine Nat.le_succ_of_le ?_)⟩
  all_goals (rfl)

end Go.Proofs.Ytlgglfmbcbfdmaa
