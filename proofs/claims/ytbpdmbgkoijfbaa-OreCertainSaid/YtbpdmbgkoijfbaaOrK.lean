/- OreTurns. -/
import Derived.Test.YtbpdmbgkoijfbaaOrX
import Derived.Test.YtbpdmbgkoijfbaaOrY
import Derived.KernelRfl
namespace Go.Proofs.Ytbpdmbgkoijfbaa
open Go.Ab
attribute [local irreducible] aggOk drwOK
set_option maxRecDepth 100000
set_option maxHeartbeats 4000000
set_option linter.unusedVariables false
set_option linter.unusedSimpArgs false
/-- both Checks answer the same -/
theorem chk_both (F d : Nat) (hF : 100 < F) (W H o : Int) (a : Option Addr) (n c : Nat) (nf : Nat → Int) (hz : ∀ j, n ≤ j → nf j = 0) (hn2 : n ≤ 1000000) : ∃ e : Int, ReadC (CL F (d + 8)) 17 [fld W H o a n c] [(1000, roN a n c nf)] (66000 + 100) (i64 e) ∧ ReadC (CL F (d + 8)) 18 [fld W H o a n c] [(1000, roN a n c nf)] (66000 + 100) (i64 e) ∧ ((e = 1 ∨ e = 4 ∨ e = 14) ∨ (e = 0 ∧ ∃ W' H' : Nat, W = W' ∧ H = H' ∧ (2 ≤ W' ∧ W' ≤ 9) ∧ (2 ≤ H' ∧ H' ≤ 9) ∧ (0 ≤ o ∧ o ≤ 400) ∧ n = W' * H' ∧ (∀ j, Dir (nf j)) ∧ Cert (grid nf W') o W' H')) := by
  by_cases hr : rangeP W H o
  · by_cases hn : (n : Int) = W * H
    · obtain ⟨h1, h2, h3⟩ := hr
      obtain ⟨W', rfl⟩ := Int.eq_ofNat_of_zero_le (show 0 ≤ W by omega)
      obtain ⟨H', rfl⟩ := Int.eq_ofNat_of_zero_le (show 0 ≤ H by omega)
      have hn' : n = W' * H' := by rw [← Int.natCast_mul] at hn; omega
      refine ⟨chkN W' H' o n nf, c17_n F d hF W' H' o a n c nf hz (by omega) (by omega) h3 hn', c18_n F (d + 5) hF W' H' o a n c nf hz (by omega) (by omega) h3 hn', ?_⟩
      unfold chkN
      cases hd : dirB n nf with
      | false => exact .inl (.inl rfl)
      | true =>
        cases hc : certB (grid nf W') o (W' - 1) (H' - 1) with
        | false => exact .inl (.inr (.inr rfl))
        | true =>
          refine .inr ⟨rfl, W', H', rfl, rfl, by omega, by omega, h3, hn', fun j => ?_, (certB_iff (by omega) (by omega)).1 hc⟩
          by_cases h : j < n
          · have := of_decide_eq_true (List.all_eq_true.1 hd j (List.mem_range.2 h)); omega
          · rw [hz j (by omega)]; omega
    · exact ⟨4, ReadC.more ((c17_4 F (d + 6) W H o a n c hr hn hn2).read _) (by omega), ReadC.more ((c18_4 F (d + 5) W H o a n c hr hn).read _) (by omega), .inl (.inr (.inl rfl))⟩
  · exact ⟨1, ReadC.more ((c17_1 F (d + 6) W H o a n c hr).read _) (by omega), ReadC.more ((c18_1 F (d + 5) W H o a n c hr).read _) (by omega), .inl (.inl rfl)⟩
theorem turnV_is (a b : Int) : ∃ u v, turnV a b = .tup [i64 u, i64 v] := by
  unfold turnV
  split
  · split
    · exact ⟨_, _, rfl⟩
    · exact ⟨_, _, rfl⟩
  · exact ⟨_, _, rfl⟩
theorem c19 (F d : Nat) (W H o : Int) (a : Option Addr) (n c : Nat) : PureC (CL F (d + 1)) 19 [fld W H o a n c] 3 (fld W H o a n c) := by
  intro m R
  refine call_in (n := 4) Try.func19 rfl rfl rfl rfl rfl rfl rfl ?_
  repeat' ((conv => whnf); first
           | refine eqS_rfl ?_
           | refine eqA_rfl ?_
           | refine eqA_of (by assumption) ?_
           | refine eqS_of (by rfl) ?_
           | refine eqL_rfl ?_
           | refine eqJ_rfl ?_
           | refine flE_intro (fun _ _ => rfl) ?_
           | refine seS_rfl ?_
           | refine brS_tt ?_
           | refine brS_ff ?_
           | refine brS_not ?_
           | refine brS_t (iEq_self _) ?_
           | refine brS_t (by assumption) ?_
           | refine brS_f (by assumption) ?_
           | refine brS_intro (fun _ => ?_) (fun _ => ?_)
           | refine ltS_intro (by first | assumption | decide | exact Nat.le_of_ble_eq_true rfl | omega) ?_
           | refine ixS_of rfl (by first | assumption | decide | omega) ?_
           | refine okS_intro (by first | assumption | kernel_rfl) ?_
           | refine nzS_intro (by first | decide | assumption) ?_
           | intro _)
  all_goals (conv => whnf)
  all_goals refine ⟨?_, by repeat' (first | exact WkM.refl _ | refine WkM.drop ?_), by repeat' (first | exact Nat.le_refl _ | refine Nat.le_succ_of_le ?_)⟩
  all_goals (rfl)

theorem l3 (F d : Nat) (hF : 300 < F) (W H o : Int) (a : Option Addr) (n c : Nat) (nf : Nat → Int) (hz : ∀ j, n ≤ j → nf j = 0) (x y : Int) : ReadC (CL F (d + 9)) 3 [fld W H o a n c, i64 x, i64 y] [(1000, roN a n c nf)] (140000 + 100) (.bool true) := by
  intro R
  rw [show 140000 + 100 = (140000) + 100 from rfl, addL_eq, ← Nat.add_assoc, ← addL_eq _ 100]
  by_cases hn : n ≤ 200
  · have dn : iLt 200 (Int.ofNat n) = false := by rw [iLt_eq]; exact decide_eq_false (by show ¬ (200 : Int) < (n : Int); omega)
    obtain ⟨e, h17, h18, _⟩ := chk_both F d (by omega) W H o a n c nf hz (by omega)
    obtain ⟨u, v, huv⟩ := turnV_is x y
    have h15 := c15 F (d + 5) x y
    have h16 := c16 F (d + 5) x y
    rw [huv] at h15 h16
    refine call_in (n := 47) Try.func3 rfl rfl rfl rfl rfl rfl rfl ?_
    repeat' ((conv => whnf); first
             | refine eqS_rfl ?_
             | refine eqA_rfl ?_
             | refine eqA_of (by assumption) ?_
             | refine eqS_of (by rfl) ?_
             | refine eqL_rfl ?_
             | refine eqJ_rfl ?_
             | refine flE_intro (fun _ _ => rfl) ?_
             | refine seS_rfl ?_
             | refine brS_tt ?_
             | refine brS_ff ?_
             | refine brS_not ?_
             | refine brS_t (iEq_self _) ?_
             | refine brS_t (by assumption) ?_
             | refine brS_f (by assumption) ?_
             | refine brS_intro (fun _ => ?_) (fun _ => ?_)
             | refine ltS_intro (by first | assumption | decide | exact Nat.le_of_ble_eq_true rfl | omega) ?_
             | refine ixS_of rfl (by first | assumption | decide | omega) ?_
             | refine okS_intro (by first | assumption | kernel_rfl) ?_
             | refine nzS_intro (by first | decide | assumption) ?_
             | refine call_w rfl ?_
             | refine call_pure h15 ?_
             | refine call_pure h16 ?_
             | refine call_pure (c19 F _ W H o a n c) ?_
             | refine call_readL h17 (addL (R + 70000) 50) (by rfl) (by exact SeesM.cons 1000 (sees_ro (i := 1000) (by rfl)) (SeesM.nil _) (fun _ _ _ _ _ _ x hx => by cases hx)) (by (first | exact Nat.le_refl _ | (simp only [addL_eq, addL_rec]; omega))) ?_
             | refine call_readL h18 (addL R 50) (by rfl) (by exact SeesM.cons 1000 (sees_ro (i := 1000) (by rfl)) (SeesM.nil _) (fun _ _ _ _ _ _ x hx => by cases hx)) (by (first | exact Nat.le_refl _ | (simp only [addL_eq, addL_rec]; omega))) ?_
             | intro _)
    all_goals conv => whnf
    all_goals exact ⟨rfl, by (first | exact Nat.le_refl _ | (simp only [addL_eq, addL_rec]; omega))⟩
  · have dn : iLt 200 (Int.ofNat n) = true := by rw [iLt_eq]; exact decide_eq_true (by show (200 : Int) < (n : Int); omega)
    refine call_in (n := 47) Try.func3 rfl rfl rfl rfl rfl rfl rfl ?_
    repeat' ((conv => whnf); first
             | refine eqS_rfl ?_
             | refine eqA_rfl ?_
             | refine eqA_of (by assumption) ?_
             | refine eqS_of (by rfl) ?_
             | refine eqL_rfl ?_
             | refine eqJ_rfl ?_
             | refine flE_intro (fun _ _ => rfl) ?_
             | refine seS_rfl ?_
             | refine brS_tt ?_
             | refine brS_ff ?_
             | refine brS_not ?_
             | refine brS_t (iEq_self _) ?_
             | refine brS_t (by assumption) ?_
             | refine brS_f (by assumption) ?_
             | refine brS_intro (fun _ => ?_) (fun _ => ?_)
             | refine ltS_intro (by first | assumption | decide | exact Nat.le_of_ble_eq_true rfl | omega) ?_
             | refine ixS_of rfl (by first | assumption | decide | omega) ?_
             | refine okS_intro (by first | assumption | kernel_rfl) ?_
             | refine nzS_intro (by first | decide | assumption) ?_
             | refine call_w rfl ?_
             | intro _)
    conv => whnf
    exact ⟨rfl, by (first | exact Nat.le_refl _ | (simp only [addL_eq, addL_rec]; omega))⟩
end Go.Proofs.Ytbpdmbgkoijfbaa
