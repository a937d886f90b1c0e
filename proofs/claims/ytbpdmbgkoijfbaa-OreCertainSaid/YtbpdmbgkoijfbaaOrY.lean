/- Ore: Check and the reference's functions. -/
import Derived.Test.YtbpdmbgkoijfbaaOrX
import Derived.KernelRfl
namespace Go.Proofs.Ytbpdmbgkoijfbaa
open Go.Ab
attribute [local irreducible] aggOk drwOK
set_option maxRecDepth 100000
set_option maxHeartbeats 4000000
set_option linter.unusedVariables false
set_option linter.unusedSimpArgs false
/-- a block of a field -/
def goodP (W H : Nat) (x y w h : Int) : Prop := (0 ≤ x ∧ x ≤ (W : Int) - 1) ∧ (0 ≤ y ∧ y ≤ (H : Int) - 1) ∧ (1 ≤ w ∧ w ≤ (W : Int) - 1 - x) ∧ (1 ≤ h ∧ h ≤ (H : Int) - 1 - y)
instance (W H : Nat) (x y w h : Int) : Decidable (goodP W H x y w h) := by unfold goodP; exact inferInstance
theorem good_eq {W H : Nat} {x y w h A B C D : Int} {r : Bool} (hW : W ≤ 100) (hH : H ≤ 100) (eA : A = (W : Int) - 1) (eB : B = (H : Int) - 1) (eC : (0 ≤ x ∧ x ≤ (W : Int) - 1) → C = (W : Int) - 1 - x) (eD : (0 ≤ y ∧ y ≤ (H : Int) - 1) → D = (H : Int) - 1 - y)
    (hr : r = (decide (0 ≤ x ∧ x ≤ A) && decide (0 ≤ y ∧ y ≤ B) && decide (1 ≤ w ∧ w ≤ C) && decide (1 ≤ h ∧ h ≤ D))) : r = decide (goodP W H x y w h) := by
  rw [hr, Bool.eq_iff_iff]
  simp only [Bool.and_eq_true, decide_eq_true_eq]
  unfold goodP
  rw [eA, eB]
  constructor
  · rintro ⟨⟨⟨h1, h2⟩, h3⟩, h4⟩
    rw [eC h1] at h3; rw [eD h2] at h4
    exact ⟨h1, h2, h3, h4⟩
  · rintro ⟨h1, h2, h3, h4⟩
    rw [eC h1, eD h2]
    exact ⟨⟨⟨h1, h2⟩, h3⟩, h4⟩
theorem c43 (F d : Nat) (W H : Nat) (o : Int) (a : Option Addr) (n c : Nat) (x y w h : Int) (hW : W ≤ 100) (hH : H ≤ 100) : PureC (CL F (d + 2)) 43 [fld W H o a n c, bl x y w h] 30 (.bool (decide (goodP W H x y w h))) := by
  have eA : wr .i64 (Int.sub (W : Nat) 1) = (W : Int) - 1 := sm (n := (W : Int) - 1) (by omega)
  have eB : wr .i64 (Int.sub (H : Nat) 1) = (H : Int) - 1 := sm (n := (H : Int) - 1) (by omega)
  have eC : (0 ≤ x ∧ x ≤ (W : Int) - 1) → wr .i64 (Int.sub (wr .i64 (Int.sub (W : Nat) 1)) x) = (W : Int) - 1 - x := fun h => by rw [eA]; exact sm (n := (W : Int) - 1 - x) (by omega)
  have eD : (0 ≤ y ∧ y ≤ (H : Int) - 1) → wr .i64 (Int.sub (wr .i64 (Int.sub (H : Nat) 1)) y) = (H : Int) - 1 - y := fun h => by rw [eB]; exact sm (n := (H : Int) - 1 - y) (by omega)
  intro m R
  refine call_in (n := 41) Try.func43 rfl rfl rfl rfl rfl rfl rfl ?_
  repeat' ((conv => whnf); first
           | refine eqS_rfl ?_
           | refine eqA_rfl ?_
           | refine eqA_of (by assumption) ?_
           | refine eqS_of (by rfl) ?_
           | refine eqL_rfl ?_
           | refine eqJ_rfl ?_
           | refine flE_intro (fun _ _ => rfl) ?_
           | refine seS_rfl ?_
           | refine brS_tt ?_
           | refine brS_ff ?_
           | refine brS_not ?_
           | refine brS_t (iEq_self _) ?_
           | refine brS_t (by assumption) ?_
           | refine brS_f (by assumption) ?_
           | refine brS_intro (fun _ => ?_) (fun _ => ?_)
           | refine ltS_intro (by first | assumption | decide | exact Nat.le_of_ble_eq_true rfl | omega) ?_
           | refine ixS_of rfl (by first | assumption | decide | omega) ?_
           | refine okS_intro (by first | assumption | kernel_rfl) ?_
           | refine nzS_intro (by first | decide | assumption) ?_
           | refine call_pure (c40 F _ _ _ _) ?_
           | intro _)
  all_goals (conv => whnf)
  all_goals refine ⟨?_, by repeat' (first | exact WkM.refl _ | refine WkM.drop ?_), by repeat' (first | exact Nat.le_refl _ | refine Nat.le_succ_of_le ?_)⟩
  all_goals (exact congrArg Value.bool (good_eq hW hH eA eB eC eD (by clear eA eB eC eD hW hH; simp only [*, Bool.true_and, Bool.false_and, Bool.and_true])))

theorem c45 (F d : Nat) (W H : Nat) (o : Int) (a : Option Addr) (n c : Nat) (x y w h : Int) (hW : W ≤ 100) (hH : H ≤ 100) : PureC (CL F (d + 3)) 45 [fld W H o a n c, bl x y w h] 30 (.bool (decide (goodP W H x y w h))) := by
  have eA : wr .i64 (Int.sub (W : Nat) 1) = (W : Int) - 1 := sm (n := (W : Int) - 1) (by omega)
  have eB : wr .i64 (Int.sub (H : Nat) 1) = (H : Int) - 1 := sm (n := (H : Int) - 1) (by omega)
  have eC : (0 ≤ x ∧ x ≤ (W : Int) - 1) → wr .i64 (Int.sub (wr .i64 (Int.sub (W : Nat) 1)) x) = (W : Int) - 1 - x := fun h => by rw [eA]; exact sm (n := (W : Int) - 1 - x) (by omega)
  have eD : (0 ≤ y ∧ y ≤ (H : Int) - 1) → wr .i64 (Int.sub (wr .i64 (Int.sub (H : Nat) 1)) y) = (H : Int) - 1 - y := fun h => by rw [eB]; exact sm (n := (H : Int) - 1 - y) (by omega)
  intro m R
  refine call_in (n := 41) Try.func45 rfl rfl rfl rfl rfl rfl rfl ?_
  repeat' ((conv => whnf); first
           | refine eqS_rfl ?_
           | refine eqA_rfl ?_
           | refine eqA_of (by assumption) ?_
           | refine eqS_of (by rfl) ?_
           | refine eqL_rfl ?_
           | refine eqJ_rfl ?_
           | refine flE_intro (fun _ _ => rfl) ?_
           | refine seS_rfl ?_
           | refine brS_tt ?_
           | refine brS_ff ?_
           | refine brS_not ?_
           | refine brS_t (iEq_self _) ?_
           | refine brS_t (by assumption) ?_
           | refine brS_f (by assumption) ?_
           | refine brS_intro (fun _ => ?_) (fun _ => ?_)
           | refine ltS_intro (by first | assumption | decide | exact Nat.le_of_ble_eq_true rfl | omega) ?_
           | refine ixS_of rfl (by first | assumption | decide | omega) ?_
           | refine okS_intro (by first | assumption | kernel_rfl) ?_
           | refine nzS_intro (by first | decide | assumption) ?_
           | refine call_pure (c38 F _ _ _ _) ?_
           | intro _)
  all_goals (conv => whnf)
  all_goals refine ⟨?_, by repeat' (first | exact WkM.refl _ | refine WkM.drop ?_), by repeat' (first | exact Nat.le_refl _ | refine Nat.le_succ_of_le ?_)⟩
  all_goals (exact congrArg Value.bool (good_eq hW hH eA eB eC eD (by clear eA eB eC eD hW hH; simp only [*, Bool.true_and, Bool.false_and, Bool.and_true])))

/-- a field's numbers -/
abbrev rangeP (W H o : Int) : Prop := (2 ≤ W ∧ W ≤ 9) ∧ (2 ≤ H ∧ H ≤ 9) ∧ (0 ≤ o ∧ o ≤ 400)
theorem c17_1 (F d : Nat) (W H o : Int) (a : Option Addr) (n c : Nat) (hr : ¬ rangeP W H o) : PureC (CL F (d + 2)) 17 [fld W H o a n c] 10 (i64 1) := by
  have h3 : decide (2 ≤ W ∧ W ≤ 9) = false ∨ (decide (2 ≤ W ∧ W ≤ 9) = true ∧ decide (2 ≤ H ∧ H ≤ 9) = false) ∨ (decide (2 ≤ W ∧ W ≤ 9) = true ∧ decide (2 ≤ H ∧ H ≤ 9) = true ∧ decide (0 ≤ o ∧ o ≤ 400) = false) := by
    simp only [decide_eq_true_eq, decide_eq_false_iff_not]
    by_cases p1 : 2 ≤ W ∧ W ≤ 9
    · by_cases p2 : 2 ≤ H ∧ H ≤ 9
      · exact .inr (.inr ⟨p1, p2, fun p3 => hr ⟨p1, p2, p3⟩⟩)
      · exact .inr (.inl ⟨p1, p2⟩)
    · exact .inl p1
  rcases h3 with d1 | ⟨d1, d2⟩ | ⟨d1, d2, d3⟩
  · skip
    intro m R
    refine call_in (n := 44) Try.func17 rfl rfl rfl rfl rfl rfl rfl ?_
    repeat' ((conv => whnf); first
             | refine eqS_rfl ?_
             | refine eqA_rfl ?_
             | refine eqA_of (by assumption) ?_
             | refine eqS_of (by rfl) ?_
             | refine eqL_rfl ?_
             | refine eqJ_rfl ?_
             | refine flE_intro (fun _ _ => rfl) ?_
             | refine seS_rfl ?_
             | refine brS_tt ?_
             | refine brS_ff ?_
             | refine brS_not ?_
             | refine brS_t (iEq_self _) ?_
             | refine brS_t (by assumption) ?_
             | refine brS_f (by assumption) ?_
             | refine brS_intro (fun _ => ?_) (fun _ => ?_)
             | refine ltS_intro (by first | assumption | decide | exact Nat.le_of_ble_eq_true rfl | omega) ?_
             | refine ixS_of rfl (by first | assumption | decide | omega) ?_
             | refine okS_intro (by first | assumption | kernel_rfl) ?_
             | refine nzS_intro (by first | decide | assumption) ?_
             | refine call_pure (c40 F _ _ _ _) ?_
             | intro _)
    all_goals (conv => whnf)
    all_goals refine ⟨?_, by repeat' (first | exact WkM.refl _ | refine WkM.drop ?_), by repeat' (first | exact Nat.le_refl _ | refine Nat.le_succ_of_le ?_)⟩
    all_goals (rfl)

  · skip
    intro m R
    refine call_in (n := 44) Try.func17 rfl rfl rfl rfl rfl rfl rfl ?_
    repeat' ((conv => whnf); first
             | refine eqS_rfl ?_
             | refine eqA_rfl ?_
             | refine eqA_of (by assumption) ?_
             | refine eqS_of (by rfl) ?_
             | refine eqL_rfl ?_
             | refine eqJ_rfl ?_
             | refine flE_intro (fun _ _ => rfl) ?_
             | refine seS_rfl ?_
             | refine brS_tt ?_
             | refine brS_ff ?_
             | refine brS_not ?_
             | refine brS_t (iEq_self _) ?_
             | refine brS_t (by assumption) ?_
             | refine brS_f (by assumption) ?_
             | refine brS_intro (fun _ => ?_) (fun _ => ?_)
             | refine ltS_intro (by first | assumption | decide | exact Nat.le_of_ble_eq_true rfl | omega) ?_
             | refine ixS_of rfl (by first | assumption | decide | omega) ?_
             | refine okS_intro (by first | assumption | kernel_rfl) ?_
             | refine nzS_intro (by first | decide | assumption) ?_
             | refine call_pure (c40 F _ _ _ _) ?_
             | intro _)
    all_goals (conv => whnf)
    all_goals refine ⟨?_, by repeat' (first | exact WkM.refl _ | refine WkM.drop ?_), by repeat' (first | exact Nat.le_refl _ | refine Nat.le_succ_of_le ?_)⟩
    all_goals (rfl)

  · skip
    intro m R
    refine call_in (n := 44) Try.func17 rfl rfl rfl rfl rfl rfl rfl ?_
    repeat' ((conv => whnf); first
             | refine eqS_rfl ?_
             | refine eqA_rfl ?_
             | refine eqA_of (by assumption) ?_
             | refine eqS_of (by rfl) ?_
             | refine eqL_rfl ?_
             | refine eqJ_rfl ?_
             | refine flE_intro (fun _ _ => rfl) ?_
             | refine seS_rfl ?_
             | refine brS_tt ?_
             | refine brS_ff ?_
             | refine brS_not ?_
             | refine brS_t (iEq_self _) ?_
             | refine brS_t (by assumption) ?_
             | refine brS_f (by assumption) ?_
             | refine brS_intro (fun _ => ?_) (fun _ => ?_)
             | refine ltS_intro (by first | assumption | decide | exact Nat.le_of_ble_eq_true rfl | omega) ?_
             | refine ixS_of rfl (by first | assumption | decide | omega) ?_
             | refine okS_intro (by first | assumption | kernel_rfl) ?_
             | refine nzS_intro (by first | decide | assumption) ?_
             | refine call_pure (c40 F _ _ _ _) ?_
             | intro _)
    all_goals (conv => whnf)
    all_goals refine ⟨?_, by repeat' (first | exact WkM.refl _ | refine WkM.drop ?_), by repeat' (first | exact Nat.le_refl _ | refine Nat.le_succ_of_le ?_)⟩
    all_goals (rfl)

theorem c17_4 (F d : Nat) (W H o : Int) (a : Option Addr) (n c : Nat) (hr : rangeP W H o) (hn : (n : Int) ≠ W * H) (hn2 : n ≤ 1000000) : PureC (CL F (d + 2)) 17 [fld W H o a n c] 10 (i64 4) := by
  have d1 := decide_eq_true hr.1
  have d2 := decide_eq_true hr.2.1
  have d3 := decide_eq_true hr.2.2
  have d4 : iEq (Int.ofNat n) (wr .i64 (Int.mul W H)) = false := by
    have : W * H ≤ 9 * 9 := Int.mul_le_mul (by omega) (by omega) (by omega) (by omega)
    have : 0 ≤ W * H := Int.mul_nonneg (by omega) (by omega)
    rw [show wr .i64 (Int.mul W H) = W * H from sm (n := W * H) (by omega), iEq_eq]
    exact decide_eq_false hn
  intro m R
  refine call_in (n := 44) Try.func17 rfl rfl rfl rfl rfl rfl rfl ?_
  repeat' ((conv => whnf); first
           | refine eqS_rfl ?_
           | refine eqA_rfl ?_
           | refine eqA_of (by assumption) ?_
           | refine eqS_of (by rfl) ?_
           | refine eqL_rfl ?_
           | refine eqJ_rfl ?_
           | refine flE_intro (fun _ _ => rfl) ?_
           | refine seS_rfl ?_
           | refine brS_tt ?_
           | refine brS_ff ?_
           | refine brS_not ?_
           | refine brS_t (iEq_self _) ?_
           | refine brS_t (by assumption) ?_
           | refine brS_f (by assumption) ?_
           | refine brS_intro (fun _ => ?_) (fun _ => ?_)
           | refine ltS_intro (by first | assumption | decide | exact Nat.le_of_ble_eq_true rfl | omega) ?_
           | refine ixS_of rfl (by first | assumption | decide | omega) ?_
           | refine okS_intro (by first | assumption | kernel_rfl) ?_
           | refine nzS_intro (by first | decide | assumption) ?_
           | refine call_pure (c40 F _ _ _ _) ?_
           | intro _)
  all_goals (conv => whnf)
  all_goals refine ⟨?_, by repeat' (first | exact WkM.refl _ | refine WkM.drop ?_), by repeat' (first | exact Nat.le_refl _ | refine Nat.le_succ_of_le ?_)⟩
  all_goals (rfl)

end Go.Proofs.Ytbpdmbgkoijfbaa
namespace Go.Proofs.Ytbpdmbgkoijfbaa
open Go.Ab
attribute [local irreducible] aggOk drwOK
set_option maxRecDepth 100000
set_option maxHeartbeats 4000000
set_option linter.unusedVariables false
set_option linter.unusedSimpArgs false
def dirB (n : Nat) (nf : Nat → Int) : Bool := (List.range n).all fun i => decide (0 ≤ nf i ∧ nf i ≤ 3599)
/-- what Check answers where there are as many needles as points -/
def chkN (W H : Nat) (o : Int) (n : Nat) (nf : Nat → Int) : Int := bif dirB n nf then (bif certB (grid nf W) o (W - 1) (H - 1) then 0 else 14) else 1
theorem c17_n (F d : Nat) (hF : 100 < F) (W H : Nat) (o : Int) (a : Option Addr) (n c : Nat) (nf : Nat → Int) (hz : ∀ j, n ≤ j → nf j = 0) (hW : 2 ≤ W ∧ W ≤ 9) (hH : 2 ≤ H ∧ H ≤ 9) (ho : 0 ≤ o ∧ o ≤ 400) (hn : n = W * H) : ReadC (CL F (d + 8)) 17 [fld W H o a n c] [(1000, roN a n c nf)] (66000 + 100) (i64 (chkN W H o n nf)) := by
  have d1 : decide (2 ≤ (W : Int) ∧ (W : Int) ≤ 9) = true := decide_eq_true (by omega)
  have d2 : decide (2 ≤ (H : Int) ∧ (H : Int) ≤ 9) = true := decide_eq_true (by omega)
  have d3 := decide_eq_true ho
  have hWH : W * H ≤ 9 * 9 := Nat.mul_le_mul hW.2 hH.2
  have hWH1 : (W - 1) * (H - 1) ≤ 8 * 8 := Nat.mul_le_mul (by omega) (by omega)
  have d4 : iEq (Int.ofNat n) (wr .i64 (Int.mul (W : Nat) (H : Nat))) = true := by
    rw [show wr .i64 (Int.mul (W : Nat) (H : Nat)) = ((W * H : Nat) : Int) from wr_nat (i := W * H) (by omega), hn, iEq_eq]
    exact decide_eq_true rfl
  intro R
  rw [show 66000 + 100 = (66000) + 100 from rfl, addL_eq, ← Nat.add_assoc, ← addL_eq _ 100]
  refine call_in (n := 44) Try.func17 rfl rfl rfl rfl rfl rfl rfl ?_
  repeat' ((conv => whnf); first
           | refine eqS_rfl ?_
           | refine eqA_rfl ?_
           | refine eqA_of (by assumption) ?_
           | refine eqS_of (by rfl) ?_
           | refine eqL_rfl ?_
           | refine eqJ_rfl ?_
           | refine flE_intro (fun _ _ => rfl) ?_
           | refine seS_rfl ?_
           | refine brS_tt ?_
           | refine brS_ff ?_
           | refine brS_not ?_
           | refine brS_t (iEq_self _) ?_
           | refine brS_t (by assumption) ?_
           | refine brS_f (by assumption) ?_
           | refine brS_intro (fun _ => ?_) (fun _ => ?_)
           | refine ltS_intro (by first | assumption | decide | exact Nat.le_of_ble_eq_true rfl | omega) ?_
           | refine ixS_of rfl (by first | assumption | decide | omega) ?_
           | refine okS_intro (by first | assumption | kernel_rfl) ?_
           | refine nzS_intro (by first | decide | assumption) ?_
           | refine call_pure (c40 F _ _ _ _) ?_
           | intro _)
  rename_i bf
  conv => whnf
  refine loS_i (fun jj f mm R' ni => ∃ i : Nat, i ≤ n ∧ jj = n - i + 1 ∧ (∀ q, q < i → decide (0 ≤ nf q ∧ nf q ≤ 3599) = true) ∧ f = [(1, .ptr 0 bf 0), (31, .sl 1000 a n c), (32, .int .i64 (Int.ofNat n)), (33, .int .i64 (Int.ofNat i))] ∧ mm = [(0, .own bf 24 [i64 W, i64 H, i64 o, .sl 1000 a n c]), (1000, roN a n c nf)] ∧ R' = addL (R + 66000) 50 ∧ ni = 100) (n + 1) (by omega)
    ⟨[(1, .ptr 0 bf 0), (31, .sl 1000 a n c), (32, .int .i64 (Int.ofNat n)), (33, .int .i64 (Int.ofNat 0))], [(0, .own bf 24 [i64 W, i64 H, i64 o, .sl 1000 a n c]), (1000, roN a n c nf)], addL (R + 66000) 50, 100, ⟨eqF_rfl _, eqF_rfl _, eqF_rfl _, eqF_rfl _, trivial⟩, WkM.refl _, by (first | exact Nat.le_refl _ | (simp only [addL_eq, addL_rec]; omega)), 0, by omega, by omega, fun q hq => absurd hq (Nat.not_lt_zero _), rfl, rfl, rfl, rfl⟩ ?_
  rintro _ _ _ _ _ ⟨i, hi, rfl, hok, rfl, rfl, rfl, rfl⟩
  have hcert : i = n → dirB n nf = true ∧ ∀ j, Dir (nf j) := fun e => by
    subst e
    refine ⟨all_t hok, fun j => ?_⟩
    by_cases h : j < i
    · have := of_decide_eq_true (hok j h); omega
    · rw [hz j (by omega)]; omega
  cases hb : decide (0 ≤ nf i ∧ nf i ≤ 3599) with
  | false =>
    repeat' ((conv => whnf); first
             | refine eqS_rfl ?_
             | refine eqA_rfl ?_
             | refine eqA_of (by assumption) ?_
             | refine eqS_of (by rfl) ?_
             | refine eqL_rfl ?_
             | refine eqJ_rfl ?_
             | refine flE_intro (fun _ _ => rfl) ?_
             | refine seS_rfl ?_
             | refine brS_tt ?_
             | refine brS_ff ?_
             | refine brS_not ?_
             | refine brS_t (iEq_self _) ?_
             | refine brS_t (by assumption) ?_
             | refine brS_f (by assumption) ?_
             | refine brS_intro (fun _ => ?_) (fun _ => ?_)
             | refine ltS_intro (by first | assumption | decide | exact Nat.le_of_ble_eq_true rfl | omega) ?_
             | refine ixS_of rfl (by first | assumption | decide | omega) ?_
             | refine okS_intro (by first | assumption | kernel_rfl) ?_
             | refine nzS_intro (by first | decide | assumption) ?_
             | refine ltS_intro (by have := lt_of_iLt ‹iLt (Int.ofNat _) (Int.ofNat _) = true›; omega) ?_
             | refine ixS_of rfl (by have := lt_of_iLt ‹iLt (Int.ofNat _) (Int.ofNat _) = true›; omega) ?_
             | refine call_pure (c36 F _ _) ?_
             | intro _)
    · conv => whnf
      have hlt := lt_of_iLt ‹iLt (Int.ofNat i) (Int.ofNat n) = true›
      refine ⟨?_, by (first | exact Nat.le_refl _ | (simp only [addL_eq, addL_rec]; omega))⟩
      show Value.int .i64 1 = Value.int .i64 (chkN W H o n nf)
      unfold chkN; rw [show dirB n nf = false from all_f hlt hb]; rfl
    · have hge := ge_of_iLt ‹iLt (Int.ofNat i) (Int.ofNat n) = false›
      have e : i = n := by omega
      obtain ⟨g1, g2⟩ := hcert e
      refine call_readL (c41 F d hF W H o a n c nf g2 hW hH ho hn) (addL R 20) (by rfl) (by exact SeesM.cons 1000 (sees_ro (i := 1000) (by rfl)) (SeesM.nil _) (fun _ _ _ _ _ _ x hx => by cases hx)) (by (first | exact Nat.le_refl _ | (simp only [addL_eq, addL_rec]; omega))) ?_
      cases hc : certB (grid nf W) o (W - 1) (H - 1) with
      | true =>
        repeat' ((conv => whnf); first
                 | refine eqS_rfl ?_
                 | refine eqA_rfl ?_
                 | refine eqA_of (by assumption) ?_
                 | refine eqS_of (by rfl) ?_
                 | refine eqL_rfl ?_
                 | refine eqJ_rfl ?_
                 | refine flE_intro (fun _ _ => rfl) ?_
                 | refine seS_rfl ?_
                 | refine brS_tt ?_
                 | refine brS_ff ?_
                 | refine brS_not ?_
                 | refine brS_t (iEq_self _) ?_
                 | refine brS_t (by assumption) ?_
                 | refine brS_f (by assumption) ?_
                 | refine brS_intro (fun _ => ?_) (fun _ => ?_)
                 | refine ltS_intro (by first | assumption | decide | exact Nat.le_of_ble_eq_true rfl | omega) ?_
                 | refine ixS_of rfl (by first | assumption | decide | omega) ?_
                 | refine okS_intro (by first | assumption | kernel_rfl) ?_
                 | refine nzS_intro (by first | decide | assumption) ?_
                 | intro _)
        conv => whnf
        exact ⟨by (show Value.int .i64 0 = Value.int .i64 (chkN W H o n nf); unfold chkN; rw [g1, hc]; rfl), by (first | exact Nat.le_refl _ | (simp only [addL_eq, addL_rec]; omega))⟩
      | false =>
        repeat' ((conv => whnf); first
                 | refine eqS_rfl ?_
                 | refine eqA_rfl ?_
                 | refine eqA_of (by assumption) ?_
                 | refine eqS_of (by rfl) ?_
                 | refine eqL_rfl ?_
                 | refine eqJ_rfl ?_
                 | refine flE_intro (fun _ _ => rfl) ?_
                 | refine seS_rfl ?_
                 | refine brS_tt ?_
                 | refine brS_ff ?_
                 | refine brS_not ?_
                 | refine brS_t (iEq_self _) ?_
                 | refine brS_t (by assumption) ?_
                 | refine brS_f (by assumption) ?_
                 | refine brS_intro (fun _ => ?_) (fun _ => ?_)
                 | refine ltS_intro (by first | assumption | decide | exact Nat.le_of_ble_eq_true rfl | omega) ?_
                 | refine ixS_of rfl (by first | assumption | decide | omega) ?_
                 | refine okS_intro (by first | assumption | kernel_rfl) ?_
                 | refine nzS_intro (by first | decide | assumption) ?_
                 | intro _)
        conv => whnf
        exact ⟨by (show Value.int .i64 14 = Value.int .i64 (chkN W H o n nf); unfold chkN; rw [g1, hc]; rfl), by (first | exact Nat.le_refl _ | (simp only [addL_eq, addL_rec]; omega))⟩
  | true =>
    repeat' ((conv => whnf); first
             | refine eqS_rfl ?_
             | refine eqA_rfl ?_
             | refine eqA_of (by assumption) ?_
             | refine eqS_of (by rfl) ?_
             | refine eqL_rfl ?_
             | refine eqJ_rfl ?_
             | refine flE_intro (fun _ _ => rfl) ?_
             | refine seS_rfl ?_
             | refine brS_tt ?_
             | refine brS_ff ?_
             | refine brS_not ?_
             | refine brS_t (iEq_self _) ?_
             | refine brS_t (by assumption) ?_
             | refine brS_f (by assumption) ?_
             | refine brS_intro (fun _ => ?_) (fun _ => ?_)
             | refine ltS_intro (by first | assumption | decide | exact Nat.le_of_ble_eq_true rfl | omega) ?_
             | refine ixS_of rfl (by first | assumption | decide | omega) ?_
             | refine okS_intro (by first | assumption | kernel_rfl) ?_
             | refine nzS_intro (by first | decide | assumption) ?_
             | refine ltS_intro (by have := lt_of_iLt ‹iLt (Int.ofNat _) (Int.ofNat _) = true›; omega) ?_
             | refine ixS_of rfl (by have := lt_of_iLt ‹iLt (Int.ofNat _) (Int.ofNat _) = true›; omega) ?_
             | refine call_pure (c36 F _ _) ?_
             | intro _)
    · conv => whnf
      have hlt := lt_of_iLt ‹iLt (Int.ofNat i) (Int.ofNat n) = true›
      refine ⟨n - (i + 1) + 1, [(1, .ptr 0 bf 0), (31, .sl 1000 a n c), (32, .int .i64 (Int.ofNat n)), (33, .int .i64 (Int.ofNat (i + 1)))], _, addL (R + 66000) 50, 100, by omega, ⟨eqF_rfl _, eqF_rfl _, eqF_rfl _, ⟨congrArg (Value.int .i64) (wr_nat (i := i + 1) (by omega)), rfl⟩, trivial⟩, WkM.refl _, by (first | exact Nat.le_refl _ | (simp only [addL_eq, addL_rec]; omega)), i + 1, by omega, rfl, ?_, rfl, rfl, rfl, rfl⟩
      intro q hq
      by_cases e : q = i
      · rw [e]; exact hb
      · exact hok q (by omega)
    · have hge := ge_of_iLt ‹iLt (Int.ofNat i) (Int.ofNat n) = false›
      have e : i = n := by omega
      obtain ⟨g1, g2⟩ := hcert e
      refine call_readL (c41 F d hF W H o a n c nf g2 hW hH ho hn) (addL R 20) (by rfl) (by exact SeesM.cons 1000 (sees_ro (i := 1000) (by rfl)) (SeesM.nil _) (fun _ _ _ _ _ _ x hx => by cases hx)) (by (first | exact Nat.le_refl _ | (simp only [addL_eq, addL_rec]; omega))) ?_
      cases hc : certB (grid nf W) o (W - 1) (H - 1) with
      | true =>
        repeat' ((conv => whnf); first
                 | refine eqS_rfl ?_
                 | refine eqA_rfl ?_
                 | refine eqA_of (by assumption) ?_
                 | refine eqS_of (by rfl) ?_
                 | refine eqL_rfl ?_
                 | refine eqJ_rfl ?_
                 | refine flE_intro (fun _ _ => rfl) ?_
                 | refine seS_rfl ?_
                 | refine brS_tt ?_
                 | refine brS_ff ?_
                 | refine brS_not ?_
                 | refine brS_t (iEq_self _) ?_
                 | refine brS_t (by assumption) ?_
                 | refine brS_f (by assumption) ?_
                 | refine brS_intro (fun _ => ?_) (fun _ => ?_)
                 | refine ltS_intro (by first | assumption | decide | exact Nat.le_of_ble_eq_true rfl | omega) ?_
                 | refine ixS_of rfl (by first | assumption | decide | omega) ?_
                 | refine okS_intro (by first | assumption | kernel_rfl) ?_
                 | refine nzS_intro (by first | decide | assumption) ?_
                 | intro _)
        conv => whnf
        exact ⟨by (show Value.int .i64 0 = Value.int .i64 (chkN W H o n nf); unfold chkN; rw [g1, hc]; rfl), by (first | exact Nat.le_refl _ | (simp only [addL_eq, addL_rec]; omega))⟩
      | false =>
        repeat' ((conv => whnf); first
                 | refine eqS_rfl ?_
                 | refine eqA_rfl ?_
                 | refine eqA_of (by assumption) ?_
                 | refine eqS_of (by rfl) ?_
                 | refine eqL_rfl ?_
                 | refine eqJ_rfl ?_
                 | refine flE_intro (fun _ _ => rfl) ?_
                 | refine seS_rfl ?_
                 | refine brS_tt ?_
                 | refine brS_ff ?_
                 | refine brS_not ?_
                 | refine brS_t (iEq_self _) ?_
                 | refine brS_t (by assumption) ?_
                 | refine brS_f (by assumption) ?_
                 | refine brS_intro (fun _ => ?_) (fun _ => ?_)
                 | refine ltS_intro (by first | assumption | decide | exact Nat.le_of_ble_eq_true rfl | omega) ?_
                 | refine ixS_of rfl (by first | assumption | decide | omega) ?_
                 | refine okS_intro (by first | assumption | kernel_rfl) ?_
                 | refine nzS_intro (by first | decide | assumption) ?_
                 | intro _)
        conv => whnf
        exact ⟨by (show Value.int .i64 14 = Value.int .i64 (chkN W H o n nf); unfold chkN; rw [g1, hc]; rfl), by (first | exact Nat.le_refl _ | (simp only [addL_eq, addL_rec]; omega))⟩
end Go.Proofs.Ytbpdmbgkoijfbaa
namespace Go.Proofs.Ytbpdmbgkoijfbaa
open Go.Ab
attribute [local irreducible] aggOk drwOK
set_option maxRecDepth 100000
set_option maxHeartbeats 4000000
set_option linter.unusedVariables false
set_option linter.unusedSimpArgs false
theorem c57 (F d : Nat) (w x y : Nat) (h o : Int) (a : Option Addr) (n c : Nat) (nf : Nat → Int) (hw : w ≤ 100) (hx : x ≤ 100) (hy : y ≤ 100) (hq : y * w + x < n) : ReadC (CL F (d + 1)) 57 [fld w h o a n c, i64 x, i64 y] [(1000, roN a n c nf)] 1 (i64 (nf (y * w + x))) := by
  intro R
  refine call_in (n := 17) Try.func57 rfl rfl rfl rfl rfl rfl rfl ?_
  repeat' ((conv => whnf); first
           | refine eqS_rfl ?_
           | refine eqA_rfl ?_
           | refine eqA_of (by assumption) ?_
           | refine eqS_of (by rfl) ?_
           | refine eqL_rfl ?_
           | refine eqJ_rfl ?_
           | refine flE_intro (fun _ _ => rfl) ?_
           | refine seS_rfl ?_
           | refine brS_tt ?_
           | refine brS_ff ?_
           | refine brS_not ?_
           | refine brS_t (iEq_self _) ?_
           | refine brS_t (by assumption) ?_
           | refine brS_f (by assumption) ?_
           | refine brS_intro (fun _ => ?_) (fun _ => ?_)
           | refine ltS_intro (by first | assumption | decide | exact Nat.le_of_ble_eq_true rfl | omega) ?_
           | refine ixS_of rfl (by first | assumption | decide | omega) ?_
           | refine okS_intro (by first | assumption | kernel_rfl) ?_
           | refine nzS_intro (by first | decide | assumption) ?_
           | refine ixS_of (at_eq hw hx hy) hq ?_
           | intro _)
  conv => whnf
  exact ⟨rfl, by (first | exact Nat.le_refl _ | (simp only [addL_eq, addL_rec]; omega))⟩
/-- is a turn the same in every truth? -/
def okE (o a b : Int) : Bool := decide (max (T a b) (-(T a b)) + 2 * o < 1800)
theorem okE_RT {o a b n : Int} (hn : n = RT a b) (ho : 0 ≤ o ∧ o ≤ 400) : iLt (wr .i64 (Int.add (bif iLt n (wr .i64 (Int.sub 0 n)) then wr .i64 (Int.sub 0 n) else n) (wr .i64 (Int.mul 2 o)))) 1800 = okE o a b := by
  have hb := T_bd a b
  have hb2 : -1800 ≤ n ∧ n ≤ 1800 := by rw [hn]; unfold RT; split <;> omega
  have e1 : wr .i64 (Int.sub 0 n) = -n := (sm (n := 0 - n) (by omega)).trans (by omega)
  have e2 : wr .i64 (Int.mul 2 o) = 2 * o := sm (n := 2 * o) (by omega)
  have e3 : (bif iLt n (-n) then -n else n) = max n (-n) := by
    rw [iLt_eq]
    by_cases h : n < -n
    · rw [decide_eq_true h]; show -n = _; omega
    · rw [decide_eq_false h]; show n = _; omega
  rw [e1, e2, e3, show wr .i64 (Int.add (max n (-n)) (2 * o)) = max n (-n) + 2 * o from sm (n := max n (-n) + 2 * o) (by omega), iLt_eq]
  unfold okE
  rw [hn]; unfold RT
  split
  · rename_i h; rw [h]; rfl
  · rfl
theorem c42 (F d : Nat) (W H x y u v : Nat) (o : Int) (a : Option Addr) (n c : Nat) (nf : Nat → Int) (hD : ∀ j, Dir (nf j)) (ho : 0 ≤ o ∧ o ≤ 400) (hW : W ≤ 10) (hH : H ≤ 10) (hx : x < W) (hy : y < H) (hu : u < W) (hv : v < H) (hn : n = W * H) : ReadC (CL F (d + 2)) 42 [fld W H o a n c, i64 x, i64 y, i64 u, i64 v] [(1000, roN a n c nf)] 30 (.bool (okE o (grid nf W x y) (grid nf W u v))) := by
  have hX := okE_RT (o := o) (a := grid nf W x y) (b := grid nf W u v) (n := RT (nf (y * W + x)) (nf (v * W + u))) rfl ho
  intro R
  refine call_in (n := 30) Try.func42 rfl rfl rfl rfl rfl rfl rfl ?_
  repeat' ((conv => whnf); first
           | refine eqS_rfl ?_
           | refine eqA_rfl ?_
           | refine eqA_of (by assumption) ?_
           | refine eqS_of (by rfl) ?_
           | refine eqL_rfl ?_
           | refine eqJ_rfl ?_
           | refine flE_intro (fun _ _ => rfl) ?_
           | refine seS_rfl ?_
           | refine brS_tt ?_
           | refine brS_ff ?_
           | refine brS_not ?_
           | refine brS_t (iEq_self _) ?_
           | refine brS_t (by assumption) ?_
           | refine brS_f (by assumption) ?_
           | refine brS_intro (fun _ => ?_) (fun _ => ?_)
           | refine ltS_intro (by first | assumption | decide | exact Nat.le_of_ble_eq_true rfl | omega) ?_
           | refine ixS_of rfl (by first | assumption | decide | omega) ?_
           | refine okS_intro (by first | assumption | kernel_rfl) ?_
           | refine nzS_intro (by first | decide | assumption) ?_
           | refine call_read (c57 F _ W (x) (y) H o a n c nf (by omega) (by omega) (by omega) (by rw [hn]; exact idx_lt (by omega) (by omega))) (by rfl) (by exact SeesM.cons 1000 (sees_ro (i := 1000) (by rfl)) (SeesM.nil _) (fun _ _ _ _ _ _ x hx => by cases hx)) ?_
           | refine call_read (c57 F _ W (u) (v) H o a n c nf (by omega) (by omega) (by omega) (by rw [hn]; exact idx_lt (by omega) (by omega))) (by rfl) (by exact SeesM.cons 1000 (sees_ro (i := 1000) (by rfl)) (SeesM.nil _) (fun _ _ _ _ _ _ x hx => by cases hx)) ?_
           | refine call_pure (c39 F _ _ _ (hD _) (hD _)) ?_
           | intro _)
  conv => whnf
  exact ⟨congrArg Value.bool hX, by (first | exact Nat.le_refl _ | (simp only [addL_eq, addL_rec]; omega))⟩
theorem sum2_eq {s t u : Int} (hs : -1000000 ≤ s ∧ s ≤ 1000000) (ht : -3600 ≤ t ∧ t ≤ 3600) (htu : -3600 ≤ t + u ∧ t + u ≤ 3600) : wr .i64 (Int.add (wr .i64 (Int.add s t)) u) = s + (t + u) := by
  rw [show wr .i64 (Int.add s t) = s + t from sm (n := s + t) (by omega)]
  exact (sm (n := s + t + u) (by omega)).trans (Int.add_assoc _ _ _)
theorem c46 (F d : Nat) (hF : 100 < F) (W H x y w h : Nat) (o : Int) (a : Option Addr) (n c : Nat) (nf : Nat → Int) (hD : ∀ j, Dir (nf j)) (hs : Sure (grid nf W) W H) (hW : W ≤ 10) (hH : H ≤ 10) (hw : x + w < W) (hh : y + h < H) (hn : n = W * H) : ReadC (CL F (d + 2)) 46 [fld W H o a n c, bl x y w h] [(1000, roN a n c nf)] (2000 + 50) (i64 ((bsum (grid nf W) x y w h).tdiv 3600)) := by
  have hb1 : ∀ k, -((3600 : Nat) : Int) ≤ T (grid nf W (x + k) y) (grid nf W (x + k + 1) y) + T (grid nf W (x + k + 1) (y + h)) (grid nf W (x + k) (y + h)) ∧ T (grid nf W (x + k) y) (grid nf W (x + k + 1) y) + T (grid nf W (x + k + 1) (y + h)) (grid nf W (x + k) (y + h)) ≤ ((3600 : Nat) : Int) := fun k => by
    have := T_bd (grid nf W (x + k) y) (grid nf W (x + k + 1) y)
    have := T_bd (grid nf W (x + k + 1) (y + h)) (grid nf W (x + k) (y + h))
    omega
  have hb2 : ∀ k, -((3600 : Nat) : Int) ≤ T (grid nf W (x + w) (y + k)) (grid nf W (x + w) (y + k + 1)) + T (grid nf W x (y + k + 1)) (grid nf W x (y + k)) ∧ T (grid nf W (x + w) (y + k)) (grid nf W (x + w) (y + k + 1)) + T (grid nf W x (y + k + 1)) (grid nf W x (y + k)) ≤ ((3600 : Nat) : Int) := fun k => by
    have := T_bd (grid nf W (x + w) (y + k)) (grid nf W (x + w) (y + k + 1))
    have := T_bd (grid nf W x (y + k + 1)) (grid nf W x (y + k))
    omega
  have exw : wr .i64 (Int.add (x : Nat) (w : Nat)) = ((x + w : Nat) : Int) := wr_nat (i := x + w) (by omega)
  have eyh : wr .i64 (Int.add (y : Nat) (h : Nat)) = ((y + h : Nat) : Int) := wr_nat (i := y + h) (by omega)
  have hxw : ∀ i : Nat, iLt (Int.ofNat (x + i)) (wr .i64 (Int.add (x : Nat) (w : Nat))) = decide (i < w) := fun i => by rw [exw, iLt_eq]; refine decide_eq_decide.2 ?_; show ((x + i : Nat) : Int) < ((x + w : Nat) : Int) ↔ _; omega
  have hyh : ∀ i : Nat, iLt (Int.ofNat (y + i)) (wr .i64 (Int.add (y : Nat) (h : Nat))) = decide (i < h) := fun i => by rw [eyh, iLt_eq]; refine decide_eq_decide.2 ?_; show ((y + i : Nat) : Int) < ((y + h : Nat) : Int) ↔ _; omega
  intro R
  rw [show 2000 + 50 = (2000) + 50 from rfl, addL_eq, ← Nat.add_assoc, ← addL_eq _ 50]
  refine call_in (n := 100) Try.func46 rfl rfl rfl rfl rfl rfl rfl ?_
  repeat' ((conv => whnf); first
           | refine eqS_rfl ?_
           | refine eqA_rfl ?_
           | refine eqA_of (by assumption) ?_
           | refine eqS_of (by rfl) ?_
           | refine eqL_rfl ?_
           | refine eqJ_rfl ?_
           | refine flE_intro (fun _ _ => rfl) ?_
           | refine seS_rfl ?_
           | refine brS_tt ?_
           | refine brS_ff ?_
           | refine brS_not ?_
           | refine brS_t (iEq_self _) ?_
           | refine brS_t (by assumption) ?_
           | refine brS_f (by assumption) ?_
           | refine brS_intro (fun _ => ?_) (fun _ => ?_)
           | refine ltS_intro (by first | assumption | decide | exact Nat.le_of_ble_eq_true rfl | omega) ?_
           | refine ixS_of rfl (by first | assumption | decide | omega) ?_
           | refine okS_intro (by first | assumption | kernel_rfl) ?_
           | refine nzS_intro (by first | decide | assumption) ?_
           | intro _)
  rename_i bf bb
  conv => whnf
  refine loS_i (fun jj f mm R' ni => ∃ i : Nat, i ≤ w ∧ jj = w - i + 1 ∧ f = [(2, .ptr 0 bf 0), (3, .ptr 1 bb 0), (5, i64 (sumN (i) (fun k => T (grid nf W (x + k) y) (grid nf W (x + k + 1) y) + T (grid nf W (x + k + 1) (y + h)) (grid nf W (x + k) (y + h))))), (6, .int .i64 (Int.ofNat (x + i)))] ∧ mm = [(1, .own bb 38 [i64 x, i64 y, i64 w, i64 h]), (0, .own bf 31 [i64 W, i64 H, i64 o, .sl 1000 a n c]), (1000, roN a n c nf)] ∧ R' = addL (R + 1000 + 80 * (w - i)) 80 ∧ ni = 100) (w + 1) (by omega)
    ⟨[(2, .ptr 0 bf 0), (3, .ptr 1 bb 0), (5, i64 (sumN (0) (fun k => T (grid nf W (x + k) y) (grid nf W (x + k + 1) y) + T (grid nf W (x + k + 1) (y + h)) (grid nf W (x + k) (y + h))))), (6, .int .i64 (Int.ofNat (x + 0)))], [(1, .own bb 38 [i64 x, i64 y, i64 w, i64 h]), (0, .own bf 31 [i64 W, i64 H, i64 o, .sl 1000 a n c]), (1000, roN a n c nf)], addL (R + 1000 + 80 * (w - 0)) 80, 100, ⟨eqF_rfl _, eqF_rfl _, eqF_rfl _, eqF_rfl _, trivial⟩, WkM.refl _, by (first | exact Nat.le_refl _ | (simp only [addL_eq, addL_rec]; omega)), 0, by omega, by omega, rfl, rfl, rfl, rfl⟩ ?_
  rintro _ _ _ _ _ ⟨i, hi, rfl, rfl, rfl, rfl, rfl⟩
  have hsum := sumN_bd (n := i) fun k _ => hb1 k
  have hi3 : i * 3600 ≤ 10 * 3600 := Nat.mul_le_mul_right _ (by omega)
  have hbi := hb1 i
  by_cases hiw : i < w
  · have d1 := (hxw i).trans (decide_eq_true hiw)
    have ex1 : wr .i64 (Int.add (Int.ofNat (x + i)) 1) = ((x + i + 1 : Nat) : Int) := wr_nat (i := x + i + 1) (by omega)
    have r1 : RT (nf (y * W + (x + i))) (nf (y * W + (x + i + 1))) = T (grid nf W (x + i) y) (grid nf W (x + i + 1) y) := RT_eq (hs.1 (x + i) y (by omega) (by omega))
    have r2 : RT (nf ((y + h) * W + (x + i + 1))) (nf ((y + h) * W + (x + i))) = T (grid nf W (x + i + 1) (y + h)) (grid nf W (x + i) (y + h)) := RT_eq (fun e => hs.1 (x + i) (y + h) (by omega) (by omega) (T_neg' e))
    have t1 := T_bd (grid nf W (x + i) y) (grid nf W (x + i + 1) y)
    have e5 : wr .i64 (Int.add (wr .i64 (Int.add (sumN (i) (fun k => T (grid nf W (x + k) y) (grid nf W (x + k + 1) y) + T (grid nf W (x + k + 1) (y + h)) (grid nf W (x + k) (y + h)))) (RT (nf (y * W + (x + i))) (nf (y * W + (x + i + 1)))))) (RT (nf ((y + h) * W + (x + i + 1))) (nf ((y + h) * W + (x + i))))) = sumN (i + 1) (fun k => T (grid nf W (x + k) y) (grid nf W (x + k + 1) y) + T (grid nf W (x + k + 1) (y + h)) (grid nf W (x + k) (y + h))) := by
      rw [r1, r2]
      exact sum2_eq (by omega) (by omega) (by omega)
    repeat' ((conv => whnf); first
             | refine eqS_rfl ?_
             | refine eqA_rfl ?_
             | refine eqA_of (by assumption) ?_
             | refine eqS_of (by rfl) ?_
             | refine eqL_rfl ?_
             | refine eqJ_rfl ?_
             | refine flE_intro (fun _ _ => rfl) ?_
             | refine seS_rfl ?_
             | refine brS_tt ?_
             | refine brS_ff ?_
             | refine brS_not ?_
             | refine brS_t (iEq_self _) ?_
             | refine brS_t (by assumption) ?_
             | refine brS_f (by assumption) ?_
             | refine brS_intro (fun _ => ?_) (fun _ => ?_)
             | refine ltS_intro (by first | assumption | decide | exact Nat.le_of_ble_eq_true rfl | omega) ?_
             | refine ixS_of rfl (by first | assumption | decide | omega) ?_
             | refine okS_intro (by first | assumption | kernel_rfl) ?_
             | refine nzS_intro (by first | decide | assumption) ?_
             | refine call_read (c57 F _ W (x + i) (y) H o a n c nf (by omega) (by omega) (by omega) (by rw [hn]; exact idx_lt (by omega) (by omega))) (by rfl) (by exact SeesM.cons 1000 (sees_ro (i := 1000) (by rfl)) (SeesM.nil _) (fun _ _ _ _ _ _ x hx => by cases hx)) ?_
             | refine call_read (c57 F _ W (x + i + 1) (y) H o a n c nf (by omega) (by omega) (by omega) (by rw [hn]; exact idx_lt (by omega) (by omega))) (by exact congrArg (fun z => dens [fld W H o a n c, i64 z, i64 y]) ex1) (by exact SeesM.cons 1000 (sees_ro (i := 1000) (by rfl)) (SeesM.nil _) (fun _ _ _ _ _ _ x hx => by cases hx)) ?_
             | refine call_read (c57 F _ W (x + i + 1) (y + h) H o a n c nf (by omega) (by omega) (by omega) (by rw [hn]; exact idx_lt (by omega) (by omega))) (by exact cg2 (fun z v => dens [fld W H o a n c, i64 z, i64 v]) ex1 eyh) (by exact SeesM.cons 1000 (sees_ro (i := 1000) (by rfl)) (SeesM.nil _) (fun _ _ _ _ _ _ x hx => by cases hx)) ?_
             | refine call_read (c57 F _ W (x + i) (y + h) H o a n c nf (by omega) (by omega) (by omega) (by rw [hn]; exact idx_lt (by omega) (by omega))) (by exact congrArg (fun z => dens [fld W H o a n c, i64 (x + i : Nat), i64 z]) eyh) (by exact SeesM.cons 1000 (sees_ro (i := 1000) (by rfl)) (SeesM.nil _) (fun _ _ _ _ _ _ x hx => by cases hx)) ?_
             | refine call_pure (c39 F _ _ _ (hD _) (hD _)) ?_
             | intro _)
    conv => whnf
    exact ⟨w - (i + 1) + 1, [(2, .ptr 0 bf 0), (3, .ptr 1 bb 0), (5, i64 (sumN (i + 1) (fun k => T (grid nf W (x + k) y) (grid nf W (x + k + 1) y) + T (grid nf W (x + k + 1) (y + h)) (grid nf W (x + k) (y + h))))), (6, .int .i64 (Int.ofNat (x + (i + 1))))], _, addL (R + 1000 + 80 * (w - (i + 1))) 80, 100, by omega, ⟨eqF_rfl _, eqF_rfl _, ⟨congrArg (Value.int .i64) e5, rfl⟩, ⟨congrArg (Value.int .i64) (wr_nat (i := x + i + 1) (by omega)), rfl⟩, trivial⟩, WkM.refl _, by (first | exact Nat.le_refl _ | (simp only [addL_eq, addL_rec]; omega)), i + 1, by omega, rfl, rfl, rfl, rfl, rfl⟩
  · have d1 := (hxw i).trans (decide_eq_false hiw)
    have hiw2 : w = i := by omega
    subst hiw2
    repeat' ((conv => whnf); first
             | refine eqS_rfl ?_
             | refine eqA_rfl ?_
             | refine eqA_of (by assumption) ?_
             | refine eqS_of (by rfl) ?_
             | refine eqL_rfl ?_
             | refine eqJ_rfl ?_
             | refine flE_intro (fun _ _ => rfl) ?_
             | refine seS_rfl ?_
             | refine brS_tt ?_
             | refine brS_ff ?_
             | refine brS_not ?_
             | refine brS_t (iEq_self _) ?_
             | refine brS_t (by assumption) ?_
             | refine brS_f (by assumption) ?_
             | refine brS_intro (fun _ => ?_) (fun _ => ?_)
             | refine ltS_intro (by first | assumption | decide | exact Nat.le_of_ble_eq_true rfl | omega) ?_
             | refine ixS_of rfl (by first | assumption | decide | omega) ?_
             | refine okS_intro (by first | assumption | kernel_rfl) ?_
             | refine nzS_intro (by first | decide | assumption) ?_
             | intro _)
    conv => whnf
    obtain ⟨S, hS⟩ : ∃ S, S = sumN (w) (fun k => T (grid nf W (x + k) y) (grid nf W (x + k + 1) y) + T (grid nf W (x + k + 1) (y + h)) (grid nf W (x + k) (y + h))) := ⟨_, rfl⟩
    rw [← hS] at hsum
    refine loS_i (fun jj f mm R' ni => ∃ i : Nat, i ≤ h ∧ jj = h - i + 1 ∧ f = [(2, .ptr 0 bf 0), (3, .ptr 1 bb 0), (5, i64 (S + sumN (i) (fun k => T (grid nf W (x + w) (y + k)) (grid nf W (x + w) (y + k + 1)) + T (grid nf W x (y + k + 1)) (grid nf W x (y + k))))), (7, .int .i64 (Int.ofNat (y + i)))] ∧ mm = [(1, .own bb 38 [i64 x, i64 y, i64 w, i64 h]), (0, .own bf 31 [i64 W, i64 H, i64 o, .sl 1000 a n c]), (1000, roN a n c nf)] ∧ R' = addL (R + 80 * (h - i)) 80 ∧ ni = 100) (h + 1) (by omega)
      ⟨[(2, .ptr 0 bf 0), (3, .ptr 1 bb 0), (5, i64 (S + sumN (0) (fun k => T (grid nf W (x + w) (y + k)) (grid nf W (x + w) (y + k + 1)) + T (grid nf W x (y + k + 1)) (grid nf W x (y + k))))), (7, .int .i64 (Int.ofNat (y + 0)))], [(1, .own bb 38 [i64 x, i64 y, i64 w, i64 h]), (0, .own bf 31 [i64 W, i64 H, i64 o, .sl 1000 a n c]), (1000, roN a n c nf)], addL (R + 80 * (h - 0)) 80, 100, ⟨eqF_rfl _, eqF_rfl _, ⟨congrArg (Value.int .i64) (by rw [hS]; exact (Int.add_zero _).symm), rfl⟩, eqF_rfl _, trivial⟩, WkM.refl _, by (first | exact Nat.le_refl _ | (simp only [addL_eq, addL_rec]; omega)), 0, by omega, by omega, rfl, rfl, rfl, rfl⟩ ?_
    rintro _ _ _ _ _ ⟨i, hi, rfl, rfl, rfl, rfl, rfl⟩
    have hsum2 := sumN_bd (n := i) fun k _ => hb2 k
    have hi4 : i * 3600 ≤ 10 * 3600 := Nat.mul_le_mul_right _ (by omega)
    have hbi := hb2 i
    by_cases hih : i < h
    · have d1 := (hyh i).trans (decide_eq_true hih)
      have ey1 : wr .i64 (Int.add (Int.ofNat (y + i)) 1) = ((y + i + 1 : Nat) : Int) := wr_nat (i := y + i + 1) (by omega)
      have r1 : RT (nf ((y + i) * W + (x + w))) (nf ((y + i + 1) * W + (x + w))) = T (grid nf W (x + w) (y + i)) (grid nf W (x + w) (y + i + 1)) := RT_eq (hs.2 (x + w) (y + i) (by omega) (by omega))
      have r2 : RT (nf ((y + i + 1) * W + x)) (nf ((y + i) * W + x)) = T (grid nf W x (y + i + 1)) (grid nf W x (y + i)) := RT_eq (fun e => hs.2 x (y + i) (by omega) (by omega) (T_neg' e))
      have t1 := T_bd (grid nf W (x + w) (y + i)) (grid nf W (x + w) (y + i + 1))
      have e5 : wr .i64 (Int.add (wr .i64 (Int.add (S + sumN (i) (fun k => T (grid nf W (x + w) (y + k)) (grid nf W (x + w) (y + k + 1)) + T (grid nf W x (y + k + 1)) (grid nf W x (y + k)))) (RT (nf ((y + i) * W + (x + w))) (nf ((y + i + 1) * W + (x + w)))))) (RT (nf ((y + i + 1) * W + x)) (nf ((y + i) * W + x)))) = S + sumN (i + 1) (fun k => T (grid nf W (x + w) (y + k)) (grid nf W (x + w) (y + k + 1)) + T (grid nf W x (y + k + 1)) (grid nf W x (y + k))) := by
        rw [r1, r2]
        exact (sum2_eq (by omega) (by omega) (by omega)).trans (Int.add_assoc _ _ _)
      repeat' ((conv => whnf); first
               | refine eqS_rfl ?_
               | refine eqA_rfl ?_
               | refine eqA_of (by assumption) ?_
               | refine eqS_of (by rfl) ?_
               | refine eqL_rfl ?_
               | refine eqJ_rfl ?_
               | refine flE_intro (fun _ _ => rfl) ?_
               | refine seS_rfl ?_
               | refine brS_tt ?_
               | refine brS_ff ?_
               | refine brS_not ?_
               | refine brS_t (iEq_self _) ?_
               | refine brS_t (by assumption) ?_
               | refine brS_f (by assumption) ?_
               | refine brS_intro (fun _ => ?_) (fun _ => ?_)
               | refine ltS_intro (by first | assumption | decide | exact Nat.le_of_ble_eq_true rfl | omega) ?_
               | refine ixS_of rfl (by first | assumption | decide | omega) ?_
               | refine okS_intro (by first | assumption | kernel_rfl) ?_
               | refine nzS_intro (by first | decide | assumption) ?_
               | refine call_read (c57 F _ W (x + w) (y + i) H o a n c nf (by omega) (by omega) (by omega) (by rw [hn]; exact idx_lt (by omega) (by omega))) (by exact congrArg (fun z => dens [fld W H o a n c, i64 z, i64 (y + i : Nat)]) exw) (by exact SeesM.cons 1000 (sees_ro (i := 1000) (by rfl)) (SeesM.nil _) (fun _ _ _ _ _ _ x hx => by cases hx)) ?_
               | refine call_read (c57 F _ W (x + w) (y + i + 1) H o a n c nf (by omega) (by omega) (by omega) (by rw [hn]; exact idx_lt (by omega) (by omega))) (by exact cg2 (fun z v => dens [fld W H o a n c, i64 z, i64 v]) exw ey1) (by exact SeesM.cons 1000 (sees_ro (i := 1000) (by rfl)) (SeesM.nil _) (fun _ _ _ _ _ _ x hx => by cases hx)) ?_
               | refine call_read (c57 F _ W (x) (y + i + 1) H o a n c nf (by omega) (by omega) (by omega) (by rw [hn]; exact idx_lt (by omega) (by omega))) (by exact congrArg (fun z => dens [fld W H o a n c, i64 x, i64 z]) ey1) (by exact SeesM.cons 1000 (sees_ro (i := 1000) (by rfl)) (SeesM.nil _) (fun _ _ _ _ _ _ x hx => by cases hx)) ?_
               | refine call_read (c57 F _ W (x) (y + i) H o a n c nf (by omega) (by omega) (by omega) (by rw [hn]; exact idx_lt (by omega) (by omega))) (by rfl) (by exact SeesM.cons 1000 (sees_ro (i := 1000) (by rfl)) (SeesM.nil _) (fun _ _ _ _ _ _ x hx => by cases hx)) ?_
               | refine call_pure (c39 F _ _ _ (hD _) (hD _)) ?_
               | intro _)
      conv => whnf
      exact ⟨h - (i + 1) + 1, [(2, .ptr 0 bf 0), (3, .ptr 1 bb 0), (5, i64 (S + sumN (i + 1) (fun k => T (grid nf W (x + w) (y + k)) (grid nf W (x + w) (y + k + 1)) + T (grid nf W x (y + k + 1)) (grid nf W x (y + k))))), (7, .int .i64 (Int.ofNat (y + (i + 1))))], _, addL (R + 80 * (h - (i + 1))) 80, 100, by omega, ⟨eqF_rfl _, eqF_rfl _, ⟨congrArg (Value.int .i64) e5, rfl⟩, ⟨congrArg (Value.int .i64) (wr_nat (i := y + i + 1) (by omega)), rfl⟩, trivial⟩, WkM.refl _, by (first | exact Nat.le_refl _ | (simp only [addL_eq, addL_rec]; omega)), i + 1, by omega, rfl, rfl, rfl, rfl, rfl⟩
    · have d1 := (hyh i).trans (decide_eq_false hih)
      have hih2 : h = i := by omega
      subst hih2
      repeat' ((conv => whnf); first
               | refine eqS_rfl ?_
               | refine eqA_rfl ?_
               | refine eqA_of (by assumption) ?_
               | refine eqS_of (by rfl) ?_
               | refine eqL_rfl ?_
               | refine eqJ_rfl ?_
               | refine flE_intro (fun _ _ => rfl) ?_
               | refine seS_rfl ?_
               | refine brS_tt ?_
               | refine brS_ff ?_
               | refine brS_not ?_
               | refine brS_t (iEq_self _) ?_
               | refine brS_t (by assumption) ?_
               | refine brS_f (by assumption) ?_
               | refine brS_intro (fun _ => ?_) (fun _ => ?_)
               | refine ltS_intro (by first | assumption | decide | exact Nat.le_of_ble_eq_true rfl | omega) ?_
               | refine ixS_of rfl (by first | assumption | decide | omega) ?_
               | refine okS_intro (by first | assumption | kernel_rfl) ?_
               | refine nzS_intro (by first | decide | assumption) ?_
               | intro _)
      conv => whnf
      have e : S + sumN h (fun k => T (grid nf W (x + w) (y + k)) (grid nf W (x + w) (y + k + 1)) + T (grid nf W x (y + k + 1)) (grid nf W x (y + k))) = bsum (grid nf W) x y w h := by
        rw [hS, bsum_eq, sumN_add, sumN_add]; omega
      refine ⟨?_, by (first | exact Nat.le_refl _ | (simp only [addL_eq, addL_rec]; omega))⟩
      rw [e]
      exact congrArg (Value.int .i64) (idx_sm (grid nf W) x y w h (by omega)).1
end Go.Proofs.Ytbpdmbgkoijfbaa
namespace Go.Proofs.Ytbpdmbgkoijfbaa
open Go.Ab
attribute [local irreducible] aggOk drwOK
set_option maxRecDepth 100000
set_option maxHeartbeats 4000000
set_option linter.unusedVariables false
set_option linter.unusedSimpArgs false
theorem okE_symm (o a b : Int) : okE o a b = okE o b a := by
  unfold okE
  by_cases h : T a b = -1800
  · rw [h, T_neg' h]
  · rw [T_neg h]; refine decide_eq_decide.2 ?_; omega
theorem okB_0 (g : Grid) (o : Int) (x y : Nat) : okB g o x y 0 = okE o (g x y) (g (x + 1) y) := rfl
theorem okB_1 (g : Grid) (o : Int) (x y : Nat) : okB g o x y 1 = okE o (g (x + 1) y) (g (x + 1) (y + 1)) := rfl
theorem okB_2 (g : Grid) (o : Int) (x y : Nat) : okB g o x y 2 = okE o (g (x + 1) (y + 1)) (g x (y + 1)) := rfl
theorem okB_3 (g : Grid) (o : Int) (x y : Nat) : okB g o x y 3 = okE o (g x (y + 1)) (g x y) := rfl
/-- all turns of a field are certain -/
def Cert (g : Grid) (o : Int) (W H : Nat) : Prop := (∀ x y, x + 1 < W → y < H → okE o (g x y) (g (x + 1) y) = true) ∧ ∀ x y, x < W → y + 1 < H → okE o (g x y) (g x (y + 1)) = true
theorem certB_iff {g : Grid} {o : Int} {W H : Nat} (hW : 2 ≤ W) (hH : 2 ≤ H) : certB g o (W - 1) (H - 1) = true ↔ Cert g o W H := by
  unfold certB
  constructor
  · intro h
    have key : ∀ x y j, x + 1 < W → y + 1 < H → j < 4 → okB g o x y j = true := fun x y j hx hy hj => by
      obtain ⟨q1, q2, q3⟩ := cell_at (w := W - 1) (h := H - 1) (u := x) (v := y) (by omega) (by omega)
      have h1 := List.all_eq_true.1 (List.all_eq_true.1 h _ (List.mem_range.2 q1)) j (List.mem_range.2 hj)
      rw [q2, q3, Nat.zero_add, Nat.zero_add] at h1
      exact h1
    refine ⟨fun x y hx hy => ?_, fun x y hx hy => ?_⟩
    · by_cases e : y + 1 < H
      · rw [← okB_0]; exact key x y 0 hx e (by omega)
      · have h1 := key x (y - 1) 2 hx (by omega) (by omega)
        rw [okB_2, show y - 1 + 1 = y by omega, okE_symm] at h1
        exact h1
    · by_cases e : x + 1 < W
      · rw [okE_symm, ← okB_3]; exact key x y 3 e hy (by omega)
      · have h1 := key (x - 1) y 1 (by omega) hy (by omega)
        rw [okB_1, show x - 1 + 1 = x by omega] at h1
        exact h1
  · intro ⟨h1, h2⟩
    refine all_t fun k hk => all_t fun j hj => ?_
    have hW1 : 0 < W - 1 := by omega
    have hkx : k % (W - 1) < W - 1 := Nat.mod_lt _ hW1
    have hky : k / (W - 1) < H - 1 := by rw [Nat.div_lt_iff_lt_mul hW1, Nat.mul_comm]; exact hk
    rcases (by omega : j = 0 ∨ j = 1 ∨ j = 2 ∨ j = 3) with rfl | rfl | rfl | rfl
    · exact h1 (0 + k % (W - 1)) (0 + k / (W - 1)) (by omega) (by omega)
    · exact h2 (0 + k % (W - 1) + 1) (0 + k / (W - 1)) (by omega) (by omega)
    · rw [okB_2, okE_symm]; exact h1 (0 + k % (W - 1)) (0 + k / (W - 1) + 1) (by omega) (by omega)
    · rw [okB_3, okE_symm]; exact h2 (0 + k % (W - 1)) (0 + k / (W - 1)) (by omega) (by omega)
/-- a point, as the reference asks -/
def rok (g : Grid) (o : Int) (x y : Nat) : Bool := !((decide (0 < x) && !okE o (g (x - 1) y) (g x y)) || (decide (0 < y) && !okE o (g x (y - 1)) (g x y)))
def certR (g : Grid) (o : Int) (W H : Nat) : Bool := (List.range H).all fun y => (List.range W).all fun x => rok g o x y
theorem certR_iff {g : Grid} {o : Int} {W H : Nat} : certR g o W H = true ↔ Cert g o W H := by
  unfold certR
  constructor
  · intro h
    have key : ∀ x y, x < W → y < H → rok g o x y = true := fun x y hx hy => List.all_eq_true.1 (List.all_eq_true.1 h _ (List.mem_range.2 hy)) _ (List.mem_range.2 hx)
    refine ⟨fun x y hx hy => ?_, fun x y hx hy => ?_⟩
    · have h1 := key (x + 1) y hx hy
      unfold rok at h1
      cases e : okE o (g x y) (g (x + 1) y) with
      | true => rfl
      | false => rw [show x + 1 - 1 = x from rfl, e] at h1; simp at h1
    · have h1 := key x (y + 1) hx hy
      unfold rok at h1
      cases e : okE o (g x y) (g x (y + 1)) with
      | true => rfl
      | false => rw [show y + 1 - 1 = y from rfl, e] at h1; simp at h1
  · intro ⟨h1, h2⟩
    refine all_t fun y hy => all_t fun x hx => ?_
    unfold rok
    have e1 : (decide (0 < x) && !okE o (g (x - 1) y) (g x y)) = false := by
      by_cases h : 0 < x
      · have := h1 (x - 1) y (by omega) hy
        rw [show x - 1 + 1 = x by omega] at this
        rw [this]; simp
      · rw [decide_eq_false h]; rfl
    have e2 : (decide (0 < y) && !okE o (g x (y - 1)) (g x y)) = false := by
      by_cases h : 0 < y
      · have := h2 x (y - 1) hx (by omega)
        rw [show y - 1 + 1 = y by omega] at this
        rw [this]; simp
      · rw [decide_eq_false h]; rfl
    rw [e1, e2]; rfl
theorem cert_same {g : Grid} {o : Int} {W H : Nat} (hW : 2 ≤ W) (hH : 2 ≤ H) : certR g o W H = certB g o (W - 1) (H - 1) := Bool.eq_iff_iff.2 (certR_iff.trans (certB_iff hW hH).symm)
theorem Cert.sure {g : Grid} {o : Int} {W H : Nat} (h : Cert g o W H) (ho : 0 ≤ o) : Sure g W H := by
  have key : ∀ a b, okE o a b = true → T a b ≠ -1800 := fun a b h e => by
    have h := of_decide_eq_true h
    rw [e] at h
    omega
  exact ⟨fun x y hx hy => key _ _ (h.1 x y hx hy), fun x y hx hy => key _ _ (h.2 x y hx hy)⟩
theorem c18_1 (F d : Nat) (W H o : Int) (a : Option Addr) (n c : Nat) (hr : ¬ rangeP W H o) : PureC (CL F (d + 3)) 18 [fld W H o a n c] 10 (i64 1) := by
  have h3 : decide (2 ≤ W ∧ W ≤ 9) = false ∨ (decide (2 ≤ W ∧ W ≤ 9) = true ∧ decide (2 ≤ H ∧ H ≤ 9) = false) ∨ (decide (2 ≤ W ∧ W ≤ 9) = true ∧ decide (2 ≤ H ∧ H ≤ 9) = true ∧ decide (0 ≤ o ∧ o ≤ 400) = false) := by
    simp only [decide_eq_true_eq, decide_eq_false_iff_not]
    by_cases p1 : 2 ≤ W ∧ W ≤ 9
    · by_cases p2 : 2 ≤ H ∧ H ≤ 9
      · exact .inr (.inr ⟨p1, p2, fun p3 => hr ⟨p1, p2, p3⟩⟩)
      · exact .inr (.inl ⟨p1, p2⟩)
    · exact .inl p1
  rcases h3 with d1 | ⟨d1, d2⟩ | ⟨d1, d2, d3⟩
  · skip
    intro m R
    refine call_in (n := 83) Try.func18 rfl rfl rfl rfl rfl rfl rfl ?_
    repeat' ((conv => whnf); first
             | refine eqS_rfl ?_
             | refine eqA_rfl ?_
             | refine eqA_of (by assumption) ?_
             | refine eqS_of (by rfl) ?_
             | refine eqL_rfl ?_
             | refine eqJ_rfl ?_
             | refine flE_intro (fun _ _ => rfl) ?_
             | refine seS_rfl ?_
             | refine brS_tt ?_
             | refine brS_ff ?_
             | refine brS_not ?_
             | refine brS_t (iEq_self _) ?_
             | refine brS_t (by assumption) ?_
             | refine brS_f (by assumption) ?_
             | refine brS_intro (fun _ => ?_) (fun _ => ?_)
             | refine ltS_intro (by first | assumption | decide | exact Nat.le_of_ble_eq_true rfl | omega) ?_
             | refine ixS_of rfl (by first | assumption | decide | omega) ?_
             | refine okS_intro (by first | assumption | kernel_rfl) ?_
             | refine nzS_intro (by first | decide | assumption) ?_
             | refine call_pure (c38 F _ _ _ _) ?_
             | intro _)
    all_goals (conv => whnf)
    all_goals refine ⟨?_, by repeat' (first | exact WkM.refl _ | refine WkM.drop ?_), by repeat' (first | exact Nat.le_refl _ | refine Nat.le_succ_of_le ?_)⟩
    all_goals (rfl)

  · skip
    intro m R
    refine call_in (n := 83) Try.func18 rfl rfl rfl rfl rfl rfl rfl ?_
    repeat' ((conv => whnf); first
             | refine eqS_rfl ?_
             | refine eqA_rfl ?_
             | refine eqA_of (by assumption) ?_
             | refine eqS_of (by rfl) ?_
             | refine eqL_rfl ?_
             | refine eqJ_rfl ?_
             | refine flE_intro (fun _ _ => rfl) ?_
             | refine seS_rfl ?_
             | refine brS_tt ?_
             | refine brS_ff ?_
             | refine brS_not ?_
             | refine brS_t (iEq_self _) ?_
             | refine brS_t (by assumption) ?_
             | refine brS_f (by assumption) ?_
             | refine brS_intro (fun _ => ?_) (fun _ => ?_)
             | refine ltS_intro (by first | assumption | decide | exact Nat.le_of_ble_eq_true rfl | omega) ?_
             | refine ixS_of rfl (by first | assumption | decide | omega) ?_
             | refine okS_intro (by first | assumption | kernel_rfl) ?_
             | refine nzS_intro (by first | decide | assumption) ?_
             | refine call_pure (c38 F _ _ _ _) ?_
             | intro _)
    all_goals (conv => whnf)
    all_goals refine ⟨?_, by repeat' (first | exact WkM.refl _ | refine WkM.drop ?_), by repeat' (first | exact Nat.le_refl _ | refine Nat.le_succ_of_le ?_)⟩
    all_goals (rfl)

  · skip
    intro m R
    refine call_in (n := 83) Try.func18 rfl rfl rfl rfl rfl rfl rfl ?_
    repeat' ((conv => whnf); first
             | refine eqS_rfl ?_
             | refine eqA_rfl ?_
             | refine eqA_of (by assumption) ?_
             | refine eqS_of (by rfl) ?_
             | refine eqL_rfl ?_
             | refine eqJ_rfl ?_
             | refine flE_intro (fun _ _ => rfl) ?_
             | refine seS_rfl ?_
             | refine brS_tt ?_
             | refine brS_ff ?_
             | refine brS_not ?_
             | refine brS_t (iEq_self _) ?_
             | refine brS_t (by assumption) ?_
             | refine brS_f (by assumption) ?_
             | refine brS_intro (fun _ => ?_) (fun _ => ?_)
             | refine ltS_intro (by first | assumption | decide | exact Nat.le_of_ble_eq_true rfl | omega) ?_
             | refine ixS_of rfl (by first | assumption | decide | omega) ?_
             | refine okS_intro (by first | assumption | kernel_rfl) ?_
             | refine nzS_intro (by first | decide | assumption) ?_
             | refine call_pure (c38 F _ _ _ _) ?_
             | intro _)
    all_goals (conv => whnf)
    all_goals refine ⟨?_, by repeat' (first | exact WkM.refl _ | refine WkM.drop ?_), by repeat' (first | exact Nat.le_refl _ | refine Nat.le_succ_of_le ?_)⟩
    all_goals (rfl)

theorem c18_4 (F d : Nat) (W H o : Int) (a : Option Addr) (n c : Nat) (hr : rangeP W H o) (hn : (n : Int) ≠ W * H) : PureC (CL F (d + 3)) 18 [fld W H o a n c] 10 (i64 4) := by
  have d1 := decide_eq_true hr.1
  have d2 := decide_eq_true hr.2.1
  have d3 := decide_eq_true hr.2.2
  have d4 : iEq (Int.ofNat n) (wr .i64 (Int.mul W H)) = false := by
    have : W * H ≤ 9 * 9 := Int.mul_le_mul (by omega) (by omega) (by omega) (by omega)
    have : 0 ≤ W * H := Int.mul_nonneg (by omega) (by omega)
    rw [show wr .i64 (Int.mul W H) = W * H from sm (n := W * H) (by omega), iEq_eq]
    exact decide_eq_false hn
  intro m R
  refine call_in (n := 83) Try.func18 rfl rfl rfl rfl rfl rfl rfl ?_
  repeat' ((conv => whnf); first
           | refine eqS_rfl ?_
           | refine eqA_rfl ?_
           | refine eqA_of (by assumption) ?_
           | refine eqS_of (by rfl) ?_
           | refine eqL_rfl ?_
           | refine eqJ_rfl ?_
           | refine flE_intro (fun _ _ => rfl) ?_
           | refine seS_rfl ?_
           | refine brS_tt ?_
           | refine brS_ff ?_
           | refine brS_not ?_
           | refine brS_t (iEq_self _) ?_
           | refine brS_t (by assumption) ?_
           | refine brS_f (by assumption) ?_
           | refine brS_intro (fun _ => ?_) (fun _ => ?_)
           | refine ltS_intro (by first | assumption | decide | exact Nat.le_of_ble_eq_true rfl | omega) ?_
           | refine ixS_of rfl (by first | assumption | decide | omega) ?_
           | refine okS_intro (by first | assumption | kernel_rfl) ?_
           | refine nzS_intro (by first | decide | assumption) ?_
           | refine call_pure (c38 F _ _ _ _) ?_
           | intro _)
  all_goals (conv => whnf)
  all_goals refine ⟨?_, by repeat' (first | exact WkM.refl _ | refine WkM.drop ?_), by repeat' (first | exact Nat.le_refl _ | refine Nat.le_succ_of_le ?_)⟩
  all_goals (rfl)

theorem c18_n (F d : Nat) (hF : 100 < F) (W H : Nat) (o : Int) (a : Option Addr) (n c : Nat) (nf : Nat → Int) (hz : ∀ j, n ≤ j → nf j = 0) (hW : 2 ≤ W ∧ W ≤ 9) (hH : 2 ≤ H ∧ H ≤ 9) (ho : 0 ≤ o ∧ o ≤ 400) (hn : n = W * H) : ReadC (CL F (d + 3)) 18 [fld W H o a n c] [(1000, roN a n c nf)] (66000 + 100) (i64 (chkN W H o n nf)) := by
  have d1 : decide (2 ≤ (W : Int) ∧ (W : Int) ≤ 9) = true := decide_eq_true (by omega)
  have d2 : decide (2 ≤ (H : Int) ∧ (H : Int) ≤ 9) = true := decide_eq_true (by omega)
  have d3 := decide_eq_true ho
  have hWH : W * H ≤ 9 * 9 := Nat.mul_le_mul hW.2 hH.2
  have d4 : iEq (Int.ofNat n) (wr .i64 (Int.mul (W : Nat) (H : Nat))) = true := by
    rw [show wr .i64 (Int.mul (W : Nat) (H : Nat)) = ((W * H : Nat) : Int) from wr_nat (i := W * H) (by omega), hn, iEq_eq]
    exact decide_eq_true rfl
  intro R
  rw [show 66000 + 100 = (66000) + 100 from rfl, addL_eq, ← Nat.add_assoc, ← addL_eq _ 100]
  refine call_in (n := 83) Try.func18 rfl rfl rfl rfl rfl rfl rfl ?_
  repeat' ((conv => whnf); first
           | refine eqS_rfl ?_
           | refine eqA_rfl ?_
           | refine eqA_of (by assumption) ?_
           | refine eqS_of (by rfl) ?_
           | refine eqL_rfl ?_
           | refine eqJ_rfl ?_
           | refine flE_intro (fun _ _ => rfl) ?_
           | refine seS_rfl ?_
           | refine brS_tt ?_
           | refine brS_ff ?_
           | refine brS_not ?_
           | refine brS_t (iEq_self _) ?_
           | refine brS_t (by assumption) ?_
           | refine brS_f (by assumption) ?_
           | refine brS_intro (fun _ => ?_) (fun _ => ?_)
           | refine ltS_intro (by first | assumption | decide | exact Nat.le_of_ble_eq_true rfl | omega) ?_
           | refine ixS_of rfl (by first | assumption | decide | omega) ?_
           | refine okS_intro (by first | assumption | kernel_rfl) ?_
           | refine nzS_intro (by first | decide | assumption) ?_
           | refine call_pure (c38 F _ _ _ _) ?_
           | intro _)
  rename_i bf
  conv => whnf
  refine loS_i (fun jj f mm R' ni => ∃ i : Nat, i ≤ n ∧ jj = n - i + 1 ∧ (∀ q, q < i → decide (0 ≤ nf q ∧ nf q ≤ 3599) = true) ∧ f = [(1, .ptr 0 bf 0), (3, .int .i64 (Int.ofNat i))] ∧ mm = [(0, .own bf 31 [i64 W, i64 H, i64 o, .sl 1000 a n c]), (1000, roN a n c nf)] ∧ R' = addL (R + 66000) 50 ∧ ni = 100) (n + 1) (by omega)
    ⟨[(1, .ptr 0 bf 0), (3, .int .i64 (Int.ofNat 0))], [(0, .own bf 31 [i64 W, i64 H, i64 o, .sl 1000 a n c]), (1000, roN a n c nf)], addL (R + 66000) 50, 100, ⟨eqF_rfl _, eqF_rfl _, trivial⟩, WkM.refl _, by (first | exact Nat.le_refl _ | (simp only [addL_eq, addL_rec]; omega)), 0, by omega, by omega, fun q hq => absurd hq (Nat.not_lt_zero _), rfl, rfl, rfl, rfl⟩ ?_
  rintro _ _ _ _ _ ⟨i, hi, rfl, hok, rfl, rfl, rfl, rfl⟩
  by_cases hin : i < n
  · have dl : iLt (Int.ofNat i) (Int.ofNat n) = true := by rw [iLt_eq]; exact decide_eq_true (by show (i : Int) < n; omega)
    cases hb : decide (0 ≤ nf i ∧ nf i ≤ 3599) with
    | false =>
      repeat' ((conv => whnf); first
               | refine eqS_rfl ?_
               | refine eqA_rfl ?_
               | refine eqA_of (by assumption) ?_
               | refine eqS_of (by rfl) ?_
               | refine eqL_rfl ?_
               | refine eqJ_rfl ?_
               | refine flE_intro (fun _ _ => rfl) ?_
               | refine seS_rfl ?_
               | refine brS_tt ?_
               | refine brS_ff ?_
               | refine brS_not ?_
               | refine brS_t (iEq_self _) ?_
               | refine brS_t (by assumption) ?_
               | refine brS_f (by assumption) ?_
               | refine brS_intro (fun _ => ?_) (fun _ => ?_)
               | refine ltS_intro (by first | assumption | decide | exact Nat.le_of_ble_eq_true rfl | omega) ?_
               | refine ixS_of rfl (by first | assumption | decide | omega) ?_
               | refine okS_intro (by first | assumption | kernel_rfl) ?_
               | refine nzS_intro (by first | decide | assumption) ?_
               | refine ltS_intro (by have := lt_of_iLt ‹iLt (Int.ofNat _) (Int.ofNat _) = true›; omega) ?_
               | refine ixS_of rfl (by have := lt_of_iLt ‹iLt (Int.ofNat _) (Int.ofNat _) = true›; omega) ?_
               | refine call_pure (c38 F _ _ _ _) ?_
               | intro _)
      conv => whnf
      refine ⟨?_, by (first | exact Nat.le_refl _ | (simp only [addL_eq, addL_rec]; omega))⟩
      show Value.int .i64 1 = Value.int .i64 (chkN W H o n nf)
      unfold chkN; rw [show dirB n nf = false from all_f hin hb]; rfl
    | true =>
      repeat' ((conv => whnf); first
               | refine eqS_rfl ?_
               | refine eqA_rfl ?_
               | refine eqA_of (by assumption) ?_
               | refine eqS_of (by rfl) ?_
               | refine eqL_rfl ?_
               | refine eqJ_rfl ?_
               | refine flE_intro (fun _ _ => rfl) ?_
               | refine seS_rfl ?_
               | refine brS_tt ?_
               | refine brS_ff ?_
               | refine brS_not ?_
               | refine brS_t (iEq_self _) ?_
               | refine brS_t (by assumption) ?_
               | refine brS_f (by assumption) ?_
               | refine brS_intro (fun _ => ?_) (fun _ => ?_)
               | refine ltS_intro (by first | assumption | decide | exact Nat.le_of_ble_eq_true rfl | omega) ?_
               | refine ixS_of rfl (by first | assumption | decide | omega) ?_
               | refine okS_intro (by first | assumption | kernel_rfl) ?_
               | refine nzS_intro (by first | decide | assumption) ?_
               | refine ltS_intro (by have := lt_of_iLt ‹iLt (Int.ofNat _) (Int.ofNat _) = true›; omega) ?_
               | refine ixS_of rfl (by have := lt_of_iLt ‹iLt (Int.ofNat _) (Int.ofNat _) = true›; omega) ?_
               | refine call_pure (c38 F _ _ _ _) ?_
               | intro _)
      conv => whnf
      refine ⟨n - (i + 1) + 1, [(1, .ptr 0 bf 0), (3, .int .i64 (Int.ofNat (i + 1)))], _, addL (R + 66000) 50, 100, by omega, ⟨eqF_rfl _, ⟨congrArg (Value.int .i64) (wr_nat (i := i + 1) (by omega)), rfl⟩, trivial⟩, WkM.refl _, by (first | exact Nat.le_refl _ | (simp only [addL_eq, addL_rec]; omega)), i + 1, by omega, rfl, ?_, rfl, rfl, rfl, rfl⟩
      intro q hq
      by_cases e : q = i
      · rw [e]; exact hb
      · exact hok q (by omega)
  have dl : iLt (Int.ofNat i) (Int.ofNat n) = false := by rw [iLt_eq]; exact decide_eq_false (by show ¬ (i : Int) < n; omega)
  have e : n = i := by omega
  have g1 : dirB n nf = true := all_t (by rw [e]; exact hok)
  have g2 : ∀ j, Dir (nf j) := fun j => by
    by_cases h : j < i
    · have := of_decide_eq_true (hok j h); omega
    · rw [hz j (by omega)]; omega
  clear hok hin
  have hval : ∀ b, certR (grid nf W) o W H = b → chkN W H o n nf = bif b then 0 else 14 := fun b hb => by
    unfold chkN; rw [g1, ← cert_same hW.1 hH.1, hb]; rfl
  repeat' ((conv => whnf); first
           | refine eqS_rfl ?_
           | refine eqA_rfl ?_
           | refine eqA_of (by assumption) ?_
           | refine eqS_of (by rfl) ?_
           | refine eqL_rfl ?_
           | refine eqJ_rfl ?_
           | refine flE_intro (fun _ _ => rfl) ?_
           | refine seS_rfl ?_
           | refine brS_tt ?_
           | refine brS_ff ?_
           | refine brS_not ?_
           | refine brS_t (iEq_self _) ?_
           | refine brS_t (by assumption) ?_
           | refine brS_f (by assumption) ?_
           | refine brS_intro (fun _ => ?_) (fun _ => ?_)
           | refine ltS_intro (by first | assumption | decide | exact Nat.le_of_ble_eq_true rfl | omega) ?_
           | refine ixS_of rfl (by first | assumption | decide | omega) ?_
           | refine okS_intro (by first | assumption | kernel_rfl) ?_
           | refine nzS_intro (by first | decide | assumption) ?_
           | intro _)
  conv => whnf
  refine loS_i (fun jj f mm R' ni => ∃ v : Nat, v ≤ H ∧ jj = H - v + 1 ∧ (∀ q, q < v → ∀ p, p < W → rok (grid nf W) o p q = true) ∧ f = [(1, .ptr 0 bf 0), (4, .int .i64 (Int.ofNat v))] ∧ mm = [(0, .own bf 31 [i64 W, i64 H, i64 o, .sl 1000 a n c]), (1000, roN a n c nf)] ∧ R' = addL (R + 1000 * (10 - v)) 50 ∧ ni = 100) (H + 1) (by omega)
    ⟨[(1, .ptr 0 bf 0), (4, .int .i64 (Int.ofNat 0))], [(0, .own bf 31 [i64 W, i64 H, i64 o, .sl 1000 a n c]), (1000, roN a n c nf)], addL (R + 1000 * (10 - 0)) 50, 100, ⟨eqF_rfl _, eqF_rfl _, trivial⟩, WkM.refl _, by (first | exact Nat.le_refl _ | (simp only [addL_eq, addL_rec]; omega)), 0, by omega, by omega, fun q hq => absurd hq (Nat.not_lt_zero _), rfl, rfl, rfl, rfl⟩ ?_
  rintro _ _ _ _ _ ⟨v, hv, rfl, hokv, rfl, rfl, rfl, rfl⟩
  by_cases hvH : v < H
  · have dv : iLt (Int.ofNat v) (H : Nat) = true := by rw [iLt_eq]; exact decide_eq_true (by show (v : Int) < H; omega)
    repeat' ((conv => whnf); first
             | refine eqS_rfl ?_
             | refine eqA_rfl ?_
             | refine eqA_of (by assumption) ?_
             | refine eqS_of (by rfl) ?_
             | refine eqL_rfl ?_
             | refine eqJ_rfl ?_
             | refine flE_intro (fun _ _ => rfl) ?_
             | refine seS_rfl ?_
             | refine brS_tt ?_
             | refine brS_ff ?_
             | refine brS_not ?_
             | refine brS_t (iEq_self _) ?_
             | refine brS_t (by assumption) ?_
             | refine brS_f (by assumption) ?_
             | refine brS_intro (fun _ => ?_) (fun _ => ?_)
             | refine ltS_intro (by first | assumption | decide | exact Nat.le_of_ble_eq_true rfl | omega) ?_
             | refine ixS_of rfl (by first | assumption | decide | omega) ?_
             | refine okS_intro (by first | assumption | kernel_rfl) ?_
             | refine nzS_intro (by first | decide | assumption) ?_
             | intro _)
    conv => whnf
    refine loS_i (fun jj f mm R' ni => ∃ u : Nat, u ≤ W ∧ jj = W - u + 1 ∧ (∀ p, p < u → rok (grid nf W) o p v = true) ∧ f = [(1, .ptr 0 bf 0), (4, .int .i64 (Int.ofNat v)), (5, .int .i64 (Int.ofNat u))] ∧ mm = [(0, .own bf 31 [i64 W, i64 H, i64 o, .sl 1000 a n c]), (1000, roN a n c nf)] ∧ R' = addL (R + 1000 * (10 - (v + 1)) + 90 * (10 - u)) 90 ∧ ni = 100) (W + 1) (by omega)
      ⟨[(1, .ptr 0 bf 0), (4, .int .i64 (Int.ofNat v)), (5, .int .i64 (Int.ofNat 0))], [(0, .own bf 31 [i64 W, i64 H, i64 o, .sl 1000 a n c]), (1000, roN a n c nf)], addL (R + 1000 * (10 - (v + 1)) + 90 * (10 - 0)) 90, 100, ⟨eqF_rfl _, eqF_rfl _, eqF_rfl _, trivial⟩, WkM.refl _, by (first | exact Nat.le_refl _ | (simp only [addL_eq, addL_rec]; omega)), 0, by omega, by omega, fun q hq => absurd hq (Nat.not_lt_zero _), rfl, rfl, rfl, rfl⟩ ?_
    rintro _ _ _ _ _ ⟨u, hu, rfl, hoku, rfl, rfl, rfl, rfl⟩
    by_cases huW : u < W
    · have du : iLt (Int.ofNat u) (W : Nat) = true := by rw [iLt_eq]; exact decide_eq_true (by show (u : Int) < W; omega)
      have hnext : rok (grid nf W) o u v = true → ∀ p, p < u + 1 → rok (grid nf W) o p v = true := fun h p hp => by
        by_cases e : p = u
        · rw [e]; exact h
        · exact hoku p (by omega)
      have exu : 0 < u → wr .i64 (Int.sub (Int.ofNat u) 1) = ((u - 1 : Nat) : Int) := fun h => (sm (n := (u : Int) - 1) (by omega)).trans (by omega)
      have exv : 0 < v → wr .i64 (Int.sub (Int.ofNat v) 1) = ((v - 1 : Nat) : Int) := fun h => (sm (n := (v : Int) - 1) (by omega)).trans (by omega)
      by_cases hu0 : 0 < u
      · have du0 : iLt 0 (Int.ofNat u) = true := by rw [iLt_eq]; exact decide_eq_true (by show (0 : Int) < (u : Int); omega)
        cases e1 : okE o (grid nf W (u - 1) v) (grid nf W u v) with
        | false =>
          repeat' ((conv => whnf); first
                   | refine eqS_rfl ?_
                   | refine eqA_rfl ?_
                   | refine eqA_of (by assumption) ?_
                   | refine eqS_of (by rfl) ?_
                   | refine eqL_rfl ?_
                   | refine eqJ_rfl ?_
                   | refine flE_intro (fun _ _ => rfl) ?_
                   | refine seS_rfl ?_
                   | refine brS_tt ?_
                   | refine brS_ff ?_
                   | refine brS_not ?_
                   | refine brS_t (iEq_self _) ?_
                   | refine brS_t (by assumption) ?_
                   | refine brS_f (by assumption) ?_
                   | refine brS_intro (fun _ => ?_) (fun _ => ?_)
                   | refine ltS_intro (by first | assumption | decide | exact Nat.le_of_ble_eq_true rfl | omega) ?_
                   | refine ixS_of rfl (by first | assumption | decide | omega) ?_
                   | refine okS_intro (by first | assumption | kernel_rfl) ?_
                   | refine nzS_intro (by first | decide | assumption) ?_
                   | refine call_read (c42 F _ W H (u - 1) (v) (u) (v) o a n c nf g2 ho (by omega) (by omega) (by omega) (by omega) (by omega) (by omega) hn) (by exact congrArg (fun z => dens [fld W H o a n c, i64 z, i64 v, i64 u, i64 v]) (exu (by omega))) (by exact SeesM.cons 1000 (sees_ro (i := 1000) (by rfl)) (SeesM.nil _) (fun _ _ _ _ _ _ x hx => by cases hx)) ?_
                   | refine call_read (c42 F _ W H (u) (v - 1) (u) (v) o a n c nf g2 ho (by omega) (by omega) (by omega) (by omega) (by omega) (by omega) hn) (by exact congrArg (fun z => dens [fld W H o a n c, i64 u, i64 z, i64 u, i64 v]) (exv (by omega))) (by exact SeesM.cons 1000 (sees_ro (i := 1000) (by rfl)) (SeesM.nil _) (fun _ _ _ _ _ _ x hx => by cases hx)) ?_
                   | intro _)
          conv => whnf
          refine ⟨?_, by (first | exact Nat.le_refl _ | (simp only [addL_eq, addL_rec]; omega))⟩
          show Value.int .i64 14 = Value.int .i64 (chkN W H o n nf)
          rw [hval false (all_f hvH (all_f huW (by unfold rok; simp [*])))]; rfl
        | true =>
          by_cases hv0 : 0 < v
          · have dv0 : iLt 0 (Int.ofNat v) = true := by rw [iLt_eq]; exact decide_eq_true (by show (0 : Int) < (v : Int); omega)
            cases e2 : okE o (grid nf W u (v - 1)) (grid nf W u v) with
            | true =>
              repeat' ((conv => whnf); first
                       | refine eqS_rfl ?_
                       | refine eqA_rfl ?_
                       | refine eqA_of (by assumption) ?_
                       | refine eqS_of (by rfl) ?_
                       | refine eqL_rfl ?_
                       | refine eqJ_rfl ?_
                       | refine flE_intro (fun _ _ => rfl) ?_
                       | refine seS_rfl ?_
                       | refine brS_tt ?_
                       | refine brS_ff ?_
                       | refine brS_not ?_
                       | refine brS_t (iEq_self _) ?_
                       | refine brS_t (by assumption) ?_
                       | refine brS_f (by assumption) ?_
                       | refine brS_intro (fun _ => ?_) (fun _ => ?_)
                       | refine ltS_intro (by first | assumption | decide | exact Nat.le_of_ble_eq_true rfl | omega) ?_
                       | refine ixS_of rfl (by first | assumption | decide | omega) ?_
                       | refine okS_intro (by first | assumption | kernel_rfl) ?_
                       | refine nzS_intro (by first | decide | assumption) ?_
                       | refine call_read (c42 F _ W H (u - 1) (v) (u) (v) o a n c nf g2 ho (by omega) (by omega) (by omega) (by omega) (by omega) (by omega) hn) (by exact congrArg (fun z => dens [fld W H o a n c, i64 z, i64 v, i64 u, i64 v]) (exu (by omega))) (by exact SeesM.cons 1000 (sees_ro (i := 1000) (by rfl)) (SeesM.nil _) (fun _ _ _ _ _ _ x hx => by cases hx)) ?_
                       | refine call_read (c42 F _ W H (u) (v - 1) (u) (v) o a n c nf g2 ho (by omega) (by omega) (by omega) (by omega) (by omega) (by omega) hn) (by exact congrArg (fun z => dens [fld W H o a n c, i64 u, i64 z, i64 u, i64 v]) (exv (by omega))) (by exact SeesM.cons 1000 (sees_ro (i := 1000) (by rfl)) (SeesM.nil _) (fun _ _ _ _ _ _ x hx => by cases hx)) ?_
                       | intro _)
              conv => whnf
              exact ⟨W - (u + 1) + 1, [(1, .ptr 0 bf 0), (4, .int .i64 (Int.ofNat v)), (5, .int .i64 (Int.ofNat (u + 1)))], _, addL (R + 1000 * (10 - (v + 1)) + 90 * (10 - (u + 1))) 90, 100, by omega, ⟨eqF_rfl _, eqF_rfl _, ⟨congrArg (Value.int .i64) (wr_nat (i := u + 1) (by omega)), rfl⟩, trivial⟩, WkM.refl _, by (first | exact Nat.le_refl _ | (simp only [addL_eq, addL_rec]; omega)), u + 1, by omega, rfl, hnext (by unfold rok; simp [*]), rfl, rfl, rfl, rfl⟩
            | false =>
              repeat' ((conv => whnf); first
                       | refine eqS_rfl ?_
                       | refine eqA_rfl ?_
                       | refine eqA_of (by assumption) ?_
                       | refine eqS_of (by rfl) ?_
                       | refine eqL_rfl ?_
                       | refine eqJ_rfl ?_
                       | refine flE_intro (fun _ _ => rfl) ?_
                       | refine seS_rfl ?_
                       | refine brS_tt ?_
                       | refine brS_ff ?_
                       | refine brS_not ?_
                       | refine brS_t (iEq_self _) ?_
                       | refine brS_t (by assumption) ?_
                       | refine brS_f (by assumption) ?_
                       | refine brS_intro (fun _ => ?_) (fun _ => ?_)
                       | refine ltS_intro (by first | assumption | decide | exact Nat.le_of_ble_eq_true rfl | omega) ?_
                       | refine ixS_of rfl (by first | assumption | decide | omega) ?_
                       | refine okS_intro (by first | assumption | kernel_rfl) ?_
                       | refine nzS_intro (by first | decide | assumption) ?_
                       | refine call_read (c42 F _ W H (u - 1) (v) (u) (v) o a n c nf g2 ho (by omega) (by omega) (by omega) (by omega) (by omega) (by omega) hn) (by exact congrArg (fun z => dens [fld W H o a n c, i64 z, i64 v, i64 u, i64 v]) (exu (by omega))) (by exact SeesM.cons 1000 (sees_ro (i := 1000) (by rfl)) (SeesM.nil _) (fun _ _ _ _ _ _ x hx => by cases hx)) ?_
                       | refine call_read (c42 F _ W H (u) (v - 1) (u) (v) o a n c nf g2 ho (by omega) (by omega) (by omega) (by omega) (by omega) (by omega) hn) (by exact congrArg (fun z => dens [fld W H o a n c, i64 u, i64 z, i64 u, i64 v]) (exv (by omega))) (by exact SeesM.cons 1000 (sees_ro (i := 1000) (by rfl)) (SeesM.nil _) (fun _ _ _ _ _ _ x hx => by cases hx)) ?_
                       | intro _)
              conv => whnf
              refine ⟨?_, by (first | exact Nat.le_refl _ | (simp only [addL_eq, addL_rec]; omega))⟩
              show Value.int .i64 14 = Value.int .i64 (chkN W H o n nf)
              rw [hval false (all_f hvH (all_f huW (by unfold rok; simp [*])))]; rfl
          · have dv0 : iLt 0 (Int.ofNat v) = false := by rw [iLt_eq]; exact decide_eq_false (by show ¬ (0 : Int) < (v : Int); omega)
            repeat' ((conv => whnf); first
                     | refine eqS_rfl ?_
                     | refine eqA_rfl ?_
                     | refine eqA_of (by assumption) ?_
                     | refine eqS_of (by rfl) ?_
                     | refine eqL_rfl ?_
                     | refine eqJ_rfl ?_
                     | refine flE_intro (fun _ _ => rfl) ?_
                     | refine seS_rfl ?_
                     | refine brS_tt ?_
                     | refine brS_ff ?_
                     | refine brS_not ?_
                     | refine brS_t (iEq_self _) ?_
                     | refine brS_t (by assumption) ?_
                     | refine brS_f (by assumption) ?_
                     | refine brS_intro (fun _ => ?_) (fun _ => ?_)
                     | refine ltS_intro (by first | assumption | decide | exact Nat.le_of_ble_eq_true rfl | omega) ?_
                     | refine ixS_of rfl (by first | assumption | decide | omega) ?_
                     | refine okS_intro (by first | assumption | kernel_rfl) ?_
                     | refine nzS_intro (by first | decide | assumption) ?_
                     | refine call_read (c42 F _ W H (u - 1) (v) (u) (v) o a n c nf g2 ho (by omega) (by omega) (by omega) (by omega) (by omega) (by omega) hn) (by exact congrArg (fun z => dens [fld W H o a n c, i64 z, i64 v, i64 u, i64 v]) (exu (by omega))) (by exact SeesM.cons 1000 (sees_ro (i := 1000) (by rfl)) (SeesM.nil _) (fun _ _ _ _ _ _ x hx => by cases hx)) ?_
                     | refine call_read (c42 F _ W H (u) (v - 1) (u) (v) o a n c nf g2 ho (by omega) (by omega) (by omega) (by omega) (by omega) (by omega) hn) (by exact congrArg (fun z => dens [fld W H o a n c, i64 u, i64 z, i64 u, i64 v]) (exv (by omega))) (by exact SeesM.cons 1000 (sees_ro (i := 1000) (by rfl)) (SeesM.nil _) (fun _ _ _ _ _ _ x hx => by cases hx)) ?_
                     | intro _)
            conv => whnf
            exact ⟨W - (u + 1) + 1, [(1, .ptr 0 bf 0), (4, .int .i64 (Int.ofNat v)), (5, .int .i64 (Int.ofNat (u + 1)))], _, addL (R + 1000 * (10 - (v + 1)) + 90 * (10 - (u + 1))) 90, 100, by omega, ⟨eqF_rfl _, eqF_rfl _, ⟨congrArg (Value.int .i64) (wr_nat (i := u + 1) (by omega)), rfl⟩, trivial⟩, WkM.refl _, by (first | exact Nat.le_refl _ | (simp only [addL_eq, addL_rec]; omega)), u + 1, by omega, rfl, hnext (by unfold rok; simp [*]), rfl, rfl, rfl, rfl⟩
      · have du0 : iLt 0 (Int.ofNat u) = false := by rw [iLt_eq]; exact decide_eq_false (by show ¬ (0 : Int) < (u : Int); omega)
        by_cases hv0 : 0 < v
        · have dv0 : iLt 0 (Int.ofNat v) = true := by rw [iLt_eq]; exact decide_eq_true (by show (0 : Int) < (v : Int); omega)
          cases e2 : okE o (grid nf W u (v - 1)) (grid nf W u v) with
          | true =>
            repeat' ((conv => whnf); first
                     | refine eqS_rfl ?_
                     | refine eqA_rfl ?_
                     | refine eqA_of (by assumption) ?_
                     | refine eqS_of (by rfl) ?_
                     | refine eqL_rfl ?_
                     | refine eqJ_rfl ?_
                     | refine flE_intro (fun _ _ => rfl) ?_
                     | refine seS_rfl ?_
                     | refine brS_tt ?_
                     | refine brS_ff ?_
                     | refine brS_not ?_
                     | refine brS_t (iEq_self _) ?_
                     | refine brS_t (by assumption) ?_
                     | refine brS_f (by assumption) ?_
                     | refine brS_intro (fun _ => ?_) (fun _ => ?_)
                     | refine ltS_intro (by first | assumption | decide | exact Nat.le_of_ble_eq_true rfl | omega) ?_
                     | refine ixS_of rfl (by first | assumption | decide | omega) ?_
                     | refine okS_intro (by first | assumption | kernel_rfl) ?_
                     | refine nzS_intro (by first | decide | assumption) ?_
                     | refine call_read (c42 F _ W H (u - 1) (v) (u) (v) o a n c nf g2 ho (by omega) (by omega) (by omega) (by omega) (by omega) (by omega) hn) (by exact congrArg (fun z => dens [fld W H o a n c, i64 z, i64 v, i64 u, i64 v]) (exu (by omega))) (by exact SeesM.cons 1000 (sees_ro (i := 1000) (by rfl)) (SeesM.nil _) (fun _ _ _ _ _ _ x hx => by cases hx)) ?_
                     | refine call_read (c42 F _ W H (u) (v - 1) (u) (v) o a n c nf g2 ho (by omega) (by omega) (by omega) (by omega) (by omega) (by omega) hn) (by exact congrArg (fun z => dens [fld W H o a n c, i64 u, i64 z, i64 u, i64 v]) (exv (by omega))) (by exact SeesM.cons 1000 (sees_ro (i := 1000) (by rfl)) (SeesM.nil _) (fun _ _ _ _ _ _ x hx => by cases hx)) ?_
                     | intro _)
            conv => whnf
            exact ⟨W - (u + 1) + 1, [(1, .ptr 0 bf 0), (4, .int .i64 (Int.ofNat v)), (5, .int .i64 (Int.ofNat (u + 1)))], _, addL (R + 1000 * (10 - (v + 1)) + 90 * (10 - (u + 1))) 90, 100, by omega, ⟨eqF_rfl _, eqF_rfl _, ⟨congrArg (Value.int .i64) (wr_nat (i := u + 1) (by omega)), rfl⟩, trivial⟩, WkM.refl _, by (first | exact Nat.le_refl _ | (simp only [addL_eq, addL_rec]; omega)), u + 1, by omega, rfl, hnext (by unfold rok; simp [*]), rfl, rfl, rfl, rfl⟩
          | false =>
            repeat' ((conv => whnf); first
                     | refine eqS_rfl ?_
                     | refine eqA_rfl ?_
                     | refine eqA_of (by assumption) ?_
                     | refine eqS_of (by rfl) ?_
                     | refine eqL_rfl ?_
                     | refine eqJ_rfl ?_
                     | refine flE_intro (fun _ _ => rfl) ?_
                     | refine seS_rfl ?_
                     | refine brS_tt ?_
                     | refine brS_ff ?_
                     | refine brS_not ?_
                     | refine brS_t (iEq_self _) ?_
                     | refine brS_t (by assumption) ?_
                     | refine brS_f (by assumption) ?_
                     | refine brS_intro (fun _ => ?_) (fun _ => ?_)
                     | refine ltS_intro (by first | assumption | decide | exact Nat.le_of_ble_eq_true rfl | omega) ?_
                     | refine ixS_of rfl (by first | assumption | decide | omega) ?_
                     | refine okS_intro (by first | assumption | kernel_rfl) ?_
                     | refine nzS_intro (by first | decide | assumption) ?_
                     | refine call_read (c42 F _ W H (u - 1) (v) (u) (v) o a n c nf g2 ho (by omega) (by omega) (by omega) (by omega) (by omega) (by omega) hn) (by exact congrArg (fun z => dens [fld W H o a n c, i64 z, i64 v, i64 u, i64 v]) (exu (by omega))) (by exact SeesM.cons 1000 (sees_ro (i := 1000) (by rfl)) (SeesM.nil _) (fun _ _ _ _ _ _ x hx => by cases hx)) ?_
                     | refine call_read (c42 F _ W H (u) (v - 1) (u) (v) o a n c nf g2 ho (by omega) (by omega) (by omega) (by omega) (by omega) (by omega) hn) (by exact congrArg (fun z => dens [fld W H o a n c, i64 u, i64 z, i64 u, i64 v]) (exv (by omega))) (by exact SeesM.cons 1000 (sees_ro (i := 1000) (by rfl)) (SeesM.nil _) (fun _ _ _ _ _ _ x hx => by cases hx)) ?_
                     | intro _)
            conv => whnf
            refine ⟨?_, by (first | exact Nat.le_refl _ | (simp only [addL_eq, addL_rec]; omega))⟩
            show Value.int .i64 14 = Value.int .i64 (chkN W H o n nf)
            rw [hval false (all_f hvH (all_f huW (by unfold rok; simp [*])))]; rfl
        · have dv0 : iLt 0 (Int.ofNat v) = false := by rw [iLt_eq]; exact decide_eq_false (by show ¬ (0 : Int) < (v : Int); omega)
          repeat' ((conv => whnf); first
                   | refine eqS_rfl ?_
                   | refine eqA_rfl ?_
                   | refine eqA_of (by assumption) ?_
                   | refine eqS_of (by rfl) ?_
                   | refine eqL_rfl ?_
                   | refine eqJ_rfl ?_
                   | refine flE_intro (fun _ _ => rfl) ?_
                   | refine seS_rfl ?_
                   | refine brS_tt ?_
                   | refine brS_ff ?_
                   | refine brS_not ?_
                   | refine brS_t (iEq_self _) ?_
                   | refine brS_t (by assumption) ?_
                   | refine brS_f (by assumption) ?_
                   | refine brS_intro (fun _ => ?_) (fun _ => ?_)
                   | refine ltS_intro (by first | assumption | decide | exact Nat.le_of_ble_eq_true rfl | omega) ?_
                   | refine ixS_of rfl (by first | assumption | decide | omega) ?_
                   | refine okS_intro (by first | assumption | kernel_rfl) ?_
                   | refine nzS_intro (by first | decide | assumption) ?_
                   | refine call_read (c42 F _ W H (u - 1) (v) (u) (v) o a n c nf g2 ho (by omega) (by omega) (by omega) (by omega) (by omega) (by omega) hn) (by exact congrArg (fun z => dens [fld W H o a n c, i64 z, i64 v, i64 u, i64 v]) (exu (by omega))) (by exact SeesM.cons 1000 (sees_ro (i := 1000) (by rfl)) (SeesM.nil _) (fun _ _ _ _ _ _ x hx => by cases hx)) ?_
                   | refine call_read (c42 F _ W H (u) (v - 1) (u) (v) o a n c nf g2 ho (by omega) (by omega) (by omega) (by omega) (by omega) (by omega) hn) (by exact congrArg (fun z => dens [fld W H o a n c, i64 u, i64 z, i64 u, i64 v]) (exv (by omega))) (by exact SeesM.cons 1000 (sees_ro (i := 1000) (by rfl)) (SeesM.nil _) (fun _ _ _ _ _ _ x hx => by cases hx)) ?_
                   | intro _)
          conv => whnf
          exact ⟨W - (u + 1) + 1, [(1, .ptr 0 bf 0), (4, .int .i64 (Int.ofNat v)), (5, .int .i64 (Int.ofNat (u + 1)))], _, addL (R + 1000 * (10 - (v + 1)) + 90 * (10 - (u + 1))) 90, 100, by omega, ⟨eqF_rfl _, eqF_rfl _, ⟨congrArg (Value.int .i64) (wr_nat (i := u + 1) (by omega)), rfl⟩, trivial⟩, WkM.refl _, by (first | exact Nat.le_refl _ | (simp only [addL_eq, addL_rec]; omega)), u + 1, by omega, rfl, hnext (by unfold rok; simp [*]), rfl, rfl, rfl, rfl⟩
    · have du : iLt (Int.ofNat u) (W : Nat) = false := by rw [iLt_eq]; exact decide_eq_false (by show ¬ (u : Int) < W; omega)
      have huW2 : W = u := by omega
      repeat' ((conv => whnf); first
               | refine eqS_rfl ?_
               | refine eqA_rfl ?_
               | refine eqA_of (by assumption) ?_
               | refine eqS_of (by rfl) ?_
               | refine eqL_rfl ?_
               | refine eqJ_rfl ?_
               | refine flE_intro (fun _ _ => rfl) ?_
               | refine seS_rfl ?_
               | refine brS_tt ?_
               | refine brS_ff ?_
               | refine brS_not ?_
               | refine brS_t (iEq_self _) ?_
               | refine brS_t (by assumption) ?_
               | refine brS_f (by assumption) ?_
               | refine brS_intro (fun _ => ?_) (fun _ => ?_)
               | refine ltS_intro (by first | assumption | decide | exact Nat.le_of_ble_eq_true rfl | omega) ?_
               | refine ixS_of rfl (by first | assumption | decide | omega) ?_
               | refine okS_intro (by first | assumption | kernel_rfl) ?_
               | refine nzS_intro (by first | decide | assumption) ?_
               | intro _)
      conv => whnf
      refine ⟨H - (v + 1) + 1, [(1, .ptr 0 bf 0), (4, .int .i64 (Int.ofNat (v + 1)))], _, addL (R + 1000 * (10 - (v + 1))) 50, 100, by omega, ⟨eqF_rfl _, ⟨congrArg (Value.int .i64) (wr_nat (i := v + 1) (by omega)), rfl⟩, trivial⟩, WkM.refl _, by (first | exact Nat.le_refl _ | (simp only [addL_eq, addL_rec]; omega)), v + 1, by omega, rfl, ?_, rfl, rfl, rfl, rfl⟩
      intro q hq p hp
      by_cases e : q = v
      · rw [e]; exact hoku p (by omega)
      · exact hokv q (by omega) p hp
  · have dv : iLt (Int.ofNat v) (H : Nat) = false := by rw [iLt_eq]; exact decide_eq_false (by show ¬ (v : Int) < H; omega)
    repeat' ((conv => whnf); first
             | refine eqS_rfl ?_
             | refine eqA_rfl ?_
             | refine eqA_of (by assumption) ?_
             | refine eqS_of (by rfl) ?_
             | refine eqL_rfl ?_
             | refine eqJ_rfl ?_
             | refine flE_intro (fun _ _ => rfl) ?_
             | refine seS_rfl ?_
             | refine brS_tt ?_
             | refine brS_ff ?_
             | refine brS_not ?_
             | refine brS_t (iEq_self _) ?_
             | refine brS_t (by assumption) ?_
             | refine brS_f (by assumption) ?_
             | refine brS_intro (fun _ => ?_) (fun _ => ?_)
             | refine ltS_intro (by first | assumption | decide | exact Nat.le_of_ble_eq_true rfl | omega) ?_
             | refine ixS_of rfl (by first | assumption | decide | omega) ?_
             | refine okS_intro (by first | assumption | kernel_rfl) ?_
             | refine nzS_intro (by first | decide | assumption) ?_
             | intro _)
    conv => whnf
    refine ⟨?_, by (first | exact Nat.le_refl _ | (simp only [addL_eq, addL_rec]; omega))⟩
    show Value.int .i64 0 = Value.int .i64 (chkN W H o n nf)
    rw [hval true (all_t fun q hq => all_t fun p hp => hokv q (by omega) p hp)]; rfl
end Go.Proofs.Ytbpdmbgkoijfbaa
