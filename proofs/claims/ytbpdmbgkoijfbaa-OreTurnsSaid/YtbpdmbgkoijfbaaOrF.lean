/- Ore: Check and Index. -/
import Derived.Test.YtbpdmbgkoijfbaaOrE
import Derived.KernelRfl
namespace Go.Proofs.Ytbpdmbgkoijfbaa
open Go.Ab
attribute [local irreducible] aggOk drwOK
set_option maxRecDepth 100000
set_option maxHeartbeats 4000000
/-- a block of a field -/
def goodP (W H : Nat) (x y w h : Int) : Prop := (0 ≤ x ∧ x ≤ (W : Int) - 1) ∧ (0 ≤ y ∧ y ≤ (H : Int) - 1) ∧ (1 ≤ w ∧ w ≤ (W : Int) - 1 - x) ∧ (1 ≤ h ∧ h ≤ (H : Int) - 1 - y)
instance (W H : Nat) (x y w h : Int) : Decidable (goodP W H x y w h) := by unfold goodP; exact inferInstance
theorem good_eq {W H : Nat} {x y w h A B C D : Int} {r : Bool} (hW : W ≤ 100) (hH : H ≤ 100) (eA : A = (W : Int) - 1) (eB : B = (H : Int) - 1) (eC : (0 ≤ x ∧ x ≤ (W : Int) - 1) → C = (W : Int) - 1 - x) (eD : (0 ≤ y ∧ y ≤ (H : Int) - 1) → D = (H : Int) - 1 - y)
    (hr : r = (decide (0 ≤ x ∧ x ≤ A) && decide (0 ≤ y ∧ y ≤ B) && decide (1 ≤ w ∧ w ≤ C) && decide (1 ≤ h ∧ h ≤ D))) : r = decide (goodP W H x y w h) := by
  rw [hr, Bool.eq_iff_iff]
  simp only [Bool.and_eq_true, decide_eq_true_eq]
  unfold goodP
  rw [eA, eB]
  constructor
  · rintro ⟨⟨⟨h1, h2⟩, h3⟩, h4⟩
    rw [eC h1] at h3; rw [eD h2] at h4
    exact ⟨h1, h2, h3, h4⟩
  · rintro ⟨h1, h2, h3, h4⟩
    rw [eC h1, eD h2]
    exact ⟨⟨⟨h1, h2⟩, h3⟩, h4⟩
theorem c43 (F d : Nat) (W H : Nat) (o : Int) (a : Option Addr) (n c : Nat) (x y w h : Int) (hW : W ≤ 100) (hH : H ≤ 100) : PureC (CL F (d + 2)) 43 [fld W H o a n c, bl x y w h] 30 (.bool (decide (goodP W H x y w h))) := by
  have eA : wr .i64 (Int.sub (W : Nat) 1) = (W : Int) - 1 := sm (n := (W : Int) - 1) (by omega)
  have eB : wr .i64 (Int.sub (H : Nat) 1) = (H : Int) - 1 := sm (n := (H : Int) - 1) (by omega)
  have eC : (0 ≤ x ∧ x ≤ (W : Int) - 1) → wr .i64 (Int.sub (wr .i64 (Int.sub (W : Nat) 1)) x) = (W : Int) - 1 - x := fun h => by rw [eA]; exact sm (n := (W : Int) - 1 - x) (by omega)
  have eD : (0 ≤ y ∧ y ≤ (H : Int) - 1) → wr .i64 (Int.sub (wr .i64 (Int.sub (H : Nat) 1)) y) = (H : Int) - 1 - y := fun h => by rw [eB]; exact sm (n := (H : Int) - 1 - y) (by omega)
  intro m R
  refine call_in (n := 41) Try.func43 rfl rfl rfl rfl rfl rfl rfl ?_
  repeat' ((conv => whnf); first
           | refine eqS_rfl ?_
           | refine eqA_rfl ?_
           | refine eqA_of (by assumption) ?_
           | refine eqS_of (by rfl) ?_
           | refine eqL_rfl ?_
           | refine eqJ_rfl ?_
           | refine flE_intro (fun _ _ => rfl) ?_
           | refine seS_rfl ?_
           | refine brS_tt ?_
           | refine brS_ff ?_
           | refine brS_not ?_
           | refine brS_t (iEq_self _) ?_
           | refine brS_t (by assumption) ?_
           | refine brS_f (by assumption) ?_
           | refine brS_intro (fun _ => ?_) (fun _ => ?_)
           | refine ltS_intro (by first | assumption | decide | exact Nat.le_of_ble_eq_true rfl | omega) ?_
           | refine ixS_of rfl (by first | assumption | decide | omega) ?_
           | refine okS_intro (by first | assumption | kernel_rfl) ?_
           | refine nzS_intro (by first | decide | assumption) ?_
           | refine call_pure (c40 F _ _ _ _) ?_
           | intro _)
  all_goals (conv => whnf)
  all_goals refine ⟨?_, by repeat' (first | exact WkM.refl _ | refine WkM.drop ?_), by repeat' (first | exact Nat.le_refl _ | refine Nat.le_succ_of_le ?_)⟩
  all_goals (exact congrArg Value.bool (good_eq hW hH eA eB eC eD (by clear eA eB eC eD hW hH; simp only [*, Bool.true_and, Bool.false_and, Bool.and_true])))

theorem c45 (F d : Nat) (W H : Nat) (o : Int) (a : Option Addr) (n c : Nat) (x y w h : Int) (hW : W ≤ 100) (hH : H ≤ 100) : PureC (CL F (d + 3)) 45 [fld W H o a n c, bl x y w h] 30 (.bool (decide (goodP W H x y w h))) := by
  have eA : wr .i64 (Int.sub (W : Nat) 1) = (W : Int) - 1 := sm (n := (W : Int) - 1) (by omega)
  have eB : wr .i64 (Int.sub (H : Nat) 1) = (H : Int) - 1 := sm (n := (H : Int) - 1) (by omega)
  have eC : (0 ≤ x ∧ x ≤ (W : Int) - 1) → wr .i64 (Int.sub (wr .i64 (Int.sub (W : Nat) 1)) x) = (W : Int) - 1 - x := fun h => by rw [eA]; exact sm (n := (W : Int) - 1 - x) (by omega)
  have eD : (0 ≤ y ∧ y ≤ (H : Int) - 1) → wr .i64 (Int.sub (wr .i64 (Int.sub (H : Nat) 1)) y) = (H : Int) - 1 - y := fun h => by rw [eB]; exact sm (n := (H : Int) - 1 - y) (by omega)
  intro m R
  refine call_in (n := 41) Try.func45 rfl rfl rfl rfl rfl rfl rfl ?_
  repeat' ((conv => whnf); first
           | refine eqS_rfl ?_
           | refine eqA_rfl ?_
           | refine eqA_of (by assumption) ?_
           | refine eqS_of (by rfl) ?_
           | refine eqL_rfl ?_
           | refine eqJ_rfl ?_
           | refine flE_intro (fun _ _ => rfl) ?_
           | refine seS_rfl ?_
           | refine brS_tt ?_
           | refine brS_ff ?_
           | refine brS_not ?_
           | refine brS_t (iEq_self _) ?_
           | refine brS_t (by assumption) ?_
           | refine brS_f (by assumption) ?_
           | refine brS_intro (fun _ => ?_) (fun _ => ?_)
           | refine ltS_intro (by first | assumption | decide | exact Nat.le_of_ble_eq_true rfl | omega) ?_
           | refine ixS_of rfl (by first | assumption | decide | omega) ?_
           | refine okS_intro (by first | assumption | kernel_rfl) ?_
           | refine nzS_intro (by first | decide | assumption) ?_
           | refine call_pure (c38 F _ _ _ _) ?_
           | intro _)
  all_goals (conv => whnf)
  all_goals refine ⟨?_, by repeat' (first | exact WkM.refl _ | refine WkM.drop ?_), by repeat' (first | exact Nat.le_refl _ | refine Nat.le_succ_of_le ?_)⟩
  all_goals (exact congrArg Value.bool (good_eq hW hH eA eB eC eD (by clear eA eB eC eD hW hH; simp only [*, Bool.true_and, Bool.false_and, Bool.and_true])))

/-- a field's numbers -/
abbrev rangeP (W H o : Int) : Prop := (2 ≤ W ∧ W ≤ 9) ∧ (2 ≤ H ∧ H ≤ 9) ∧ (0 ≤ o ∧ o ≤ 400)
theorem c17_1 (F d : Nat) (W H o : Int) (a : Option Addr) (n c : Nat) (hr : ¬ rangeP W H o) : PureC (CL F (d + 2)) 17 [fld W H o a n c] 10 (i64 1) := by
  have h3 : decide (2 ≤ W ∧ W ≤ 9) = false ∨ (decide (2 ≤ W ∧ W ≤ 9) = true ∧ decide (2 ≤ H ∧ H ≤ 9) = false) ∨ (decide (2 ≤ W ∧ W ≤ 9) = true ∧ decide (2 ≤ H ∧ H ≤ 9) = true ∧ decide (0 ≤ o ∧ o ≤ 400) = false) := by
    simp only [decide_eq_true_eq, decide_eq_false_iff_not]
    by_cases p1 : 2 ≤ W ∧ W ≤ 9
    · by_cases p2 : 2 ≤ H ∧ H ≤ 9
      · exact .inr (.inr ⟨p1, p2, fun p3 => hr ⟨p1, p2, p3⟩⟩)
      · exact .inr (.inl ⟨p1, p2⟩)
    · exact .inl p1
  rcases h3 with d1 | ⟨d1, d2⟩ | ⟨d1, d2, d3⟩
  · skip
    intro m R
    refine call_in (n := 44) Try.func17 rfl rfl rfl rfl rfl rfl rfl ?_
    repeat' ((conv => whnf); first
             | refine eqS_rfl ?_
             | refine eqA_rfl ?_
             | refine eqA_of (by assumption) ?_
             | refine eqS_of (by rfl) ?_
             | refine eqL_rfl ?_
             | refine eqJ_rfl ?_
             | refine flE_intro (fun _ _ => rfl) ?_
             | refine seS_rfl ?_
             | refine brS_tt ?_
             | refine brS_ff ?_
             | refine brS_not ?_
             | refine brS_t (iEq_self _) ?_
             | refine brS_t (by assumption) ?_
             | refine brS_f (by assumption) ?_
             | refine brS_intro (fun _ => ?_) (fun _ => ?_)
             | refine ltS_intro (by first | assumption | decide | exact Nat.le_of_ble_eq_true rfl | omega) ?_
             | refine ixS_of rfl (by first | assumption | decide | omega) ?_
             | refine okS_intro (by first | assumption | kernel_rfl) ?_
             | refine nzS_intro (by first | decide | assumption) ?_
             | refine call_pure (c40 F _ _ _ _) ?_
             | intro _)
    all_goals (conv => whnf)
    all_goals refine ⟨?_, by repeat' (first | exact WkM.refl _ | refine WkM.drop ?_), by repeat' (first | exact Nat.le_refl _ | refine Nat.le_succ_of_le ?_)⟩
    all_goals (rfl)

  · skip
    intro m R
    refine call_in (n := 44) Try.func17 rfl rfl rfl rfl rfl rfl rfl ?_
    repeat' ((conv => whnf); first
             | refine eqS_rfl ?_
             | refine eqA_rfl ?_
             | refine eqA_of (by assumption) ?_
             | refine eqS_of (by rfl) ?_
             | refine eqL_rfl ?_
             | refine eqJ_rfl ?_
             | refine flE_intro (fun _ _ => rfl) ?_
             | refine seS_rfl ?_
             | refine brS_tt ?_
             | refine brS_ff ?_
             | refine brS_not ?_
             | refine brS_t (iEq_self _) ?_
             | refine brS_t (by assumption) ?_
             | refine brS_f (by assumption) ?_
             | refine brS_intro (fun _ => ?_) (fun _ => ?_)
             | refine ltS_intro (by first | assumption | decide | exact Nat.le_of_ble_eq_true rfl | omega) ?_
             | refine ixS_of rfl (by first | assumption | decide | omega) ?_
             | refine okS_intro (by first | assumption | kernel_rfl) ?_
             | refine nzS_intro (by first | decide | assumption) ?_
             | refine call_pure (c40 F _ _ _ _) ?_
             | intro _)
    all_goals (conv => whnf)
    all_goals refine ⟨?_, by repeat' (first | exact WkM.refl _ | refine WkM.drop ?_), by repeat' (first | exact Nat.le_refl _ | refine Nat.le_succ_of_le ?_)⟩
    all_goals (rfl)

  · skip
    intro m R
    refine call_in (n := 44) Try.func17 rfl rfl rfl rfl rfl rfl rfl ?_
    repeat' ((conv => whnf); first
             | refine eqS_rfl ?_
             | refine eqA_rfl ?_
             | refine eqA_of (by assumption) ?_
             | refine eqS_of (by rfl) ?_
             | refine eqL_rfl ?_
             | refine eqJ_rfl ?_
             | refine flE_intro (fun _ _ => rfl) ?_
             | refine seS_rfl ?_
             | refine brS_tt ?_
             | refine brS_ff ?_
             | refine brS_not ?_
             | refine brS_t (iEq_self _) ?_
             | refine brS_t (by assumption) ?_
             | refine brS_f (by assumption) ?_
             | refine brS_intro (fun _ => ?_) (fun _ => ?_)
             | refine ltS_intro (by first | assumption | decide | exact Nat.le_of_ble_eq_true rfl | omega) ?_
             | refine ixS_of rfl (by first | assumption | decide | omega) ?_
             | refine okS_intro (by first | assumption | kernel_rfl) ?_
             | refine nzS_intro (by first | decide | assumption) ?_
             | refine call_pure (c40 F _ _ _ _) ?_
             | intro _)
    all_goals (conv => whnf)
    all_goals refine ⟨?_, by repeat' (first | exact WkM.refl _ | refine WkM.drop ?_), by repeat' (first | exact Nat.le_refl _ | refine Nat.le_succ_of_le ?_)⟩
    all_goals (rfl)

theorem c17_4 (F d : Nat) (W H o : Int) (a : Option Addr) (n c : Nat) (hr : rangeP W H o) (hn : (n : Int) ≠ W * H) (hn2 : n ≤ 1000000) : PureC (CL F (d + 2)) 17 [fld W H o a n c] 10 (i64 4) := by
  have d1 := decide_eq_true hr.1
  have d2 := decide_eq_true hr.2.1
  have d3 := decide_eq_true hr.2.2
  have d4 : iEq (Int.ofNat n) (wr .i64 (Int.mul W H)) = false := by
    have : W * H ≤ 9 * 9 := Int.mul_le_mul (by omega) (by omega) (by omega) (by omega)
    have : 0 ≤ W * H := Int.mul_nonneg (by omega) (by omega)
    rw [show wr .i64 (Int.mul W H) = W * H from sm (n := W * H) (by omega), iEq_eq]
    exact decide_eq_false hn
  intro m R
  refine call_in (n := 44) Try.func17 rfl rfl rfl rfl rfl rfl rfl ?_
  repeat' ((conv => whnf); first
           | refine eqS_rfl ?_
           | refine eqA_rfl ?_
           | refine eqA_of (by assumption) ?_
           | refine eqS_of (by rfl) ?_
           | refine eqL_rfl ?_
           | refine eqJ_rfl ?_
           | refine flE_intro (fun _ _ => rfl) ?_
           | refine seS_rfl ?_
           | refine brS_tt ?_
           | refine brS_ff ?_
           | refine brS_not ?_
           | refine brS_t (iEq_self _) ?_
           | refine brS_t (by assumption) ?_
           | refine brS_f (by assumption) ?_
           | refine brS_intro (fun _ => ?_) (fun _ => ?_)
           | refine ltS_intro (by first | assumption | decide | exact Nat.le_of_ble_eq_true rfl | omega) ?_
           | refine ixS_of rfl (by first | assumption | decide | omega) ?_
           | refine okS_intro (by first | assumption | kernel_rfl) ?_
           | refine nzS_intro (by first | decide | assumption) ?_
           | refine call_pure (c40 F _ _ _ _) ?_
           | intro _)
  all_goals (conv => whnf)
  all_goals refine ⟨?_, by repeat' (first | exact WkM.refl _ | refine WkM.drop ?_), by repeat' (first | exact Nat.le_refl _ | refine Nat.le_succ_of_le ?_)⟩
  all_goals (rfl)

end Go.Proofs.Ytbpdmbgkoijfbaa
