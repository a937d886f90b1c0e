/- Ore: Check and Index of fields with as many needles as points. -/
import Derived.Test.YtbpdmbgkoijfbaaOrF
import Derived.KernelRfl
namespace Go.Proofs.Ytbpdmbgkoijfbaa
open Go.Ab
attribute [local irreducible] aggOk drwOK
set_option maxRecDepth 100000
set_option maxHeartbeats 4000000
def dirB (n : Nat) (nf : Nat → Int) : Bool := (List.range n).all fun i => decide (0 ≤ nf i ∧ nf i ≤ 3599)
/-- what Check answers where there are as many needles as points -/
def chkN (W H : Nat) (o : Int) (n : Nat) (nf : Nat → Int) : Int := bif dirB n nf then (bif certB (grid nf W) o (W - 1) (H - 1) then 0 else 14) else 1
theorem c17_n (F d : Nat) (hF : 100 < F) (W H : Nat) (o : Int) (a : Option Addr) (n c : Nat) (nf : Nat → Int) (hz : ∀ j, n ≤ j → nf j = 0) (hW : 2 ≤ W ∧ W ≤ 9) (hH : 2 ≤ H ∧ H ≤ 9) (ho : 0 ≤ o ∧ o ≤ 400) (hn : n = W * H) : ReadC (CL F (d + 8)) 17 [fld W H o a n c] [(1000, roN a n c nf)] (66000 + 100) (i64 (chkN W H o n nf)) := by
  have d1 : decide (2 ≤ (W : Int) ∧ (W : Int) ≤ 9) = true := decide_eq_true (by omega)
  have d2 : decide (2 ≤ (H : Int) ∧ (H : Int) ≤ 9) = true := decide_eq_true (by omega)
  have d3 := decide_eq_true ho
  have hWH : W * H ≤ 9 * 9 := Nat.mul_le_mul hW.2 hH.2
  have hWH1 : (W - 1) * (H - 1) ≤ 8 * 8 := Nat.mul_le_mul (by omega) (by omega)
  have d4 : iEq (Int.ofNat n) (wr .i64 (Int.mul (W : Nat) (H : Nat))) = true := by
    rw [show wr .i64 (Int.mul (W : Nat) (H : Nat)) = ((W * H : Nat) : Int) from wr_nat (i := W * H) (by omega), hn, iEq_eq]
    exact decide_eq_true rfl
  intro R
  rw [show 66000 + 100 = (66000) + 100 from rfl, addL_eq, ← Nat.add_assoc, ← addL_eq _ 100]
  refine call_in (n := 44) Try.func17 rfl rfl rfl rfl rfl rfl rfl ?_
  repeat' ((conv => whnf); first
           | refine eqS_rfl ?_
           | refine eqA_rfl ?_
           | refine eqA_of (by assumption) ?_
           | refine eqS_of (by rfl) ?_
           | refine eqL_rfl ?_
           | refine eqJ_rfl ?_
           | refine flE_intro (fun _ _ => rfl) ?_
           | refine seS_rfl ?_
           | refine brS_tt ?_
           | refine brS_ff ?_
           | refine brS_not ?_
           | refine brS_t (iEq_self _) ?_
           | refine brS_t (by assumption) ?_
           | refine brS_f (by assumption) ?_
           | refine brS_intro (fun _ => ?_) (fun _ => ?_)
           | refine ltS_intro (by first | assumption | decide | exact Nat.le_of_ble_eq_true rfl | omega) ?_
           | refine ixS_of rfl (by first | assumption | decide | omega) ?_
           | refine okS_intro (by first | assumption | kernel_rfl) ?_
           | refine nzS_intro (by first | decide | assumption) ?_
           | refine call_pure (c40 F _ _ _ _) ?_
           | intro _)
  rename_i bf
  conv => whnf
  refine loS_i (fun jj f mm R' ni => ∃ i : Nat, i ≤ n ∧ jj = n - i + 1 ∧ (∀ q, q < i → decide (0 ≤ nf q ∧ nf q ≤ 3599) = true) ∧ f = [(1, .ptr 0 bf 0), (31, .sl 1000 a n c), (32, .int .i64 (Int.ofNat n)), (33, .int .i64 (Int.ofNat i))] ∧ mm = [(0, .own bf 24 [i64 W, i64 H, i64 o, .sl 1000 a n c]), (1000, roN a n c nf)] ∧ R' = addL (R + 66000) 50 ∧ ni = 100) (n + 1) (by omega)
    ⟨[(1, .ptr 0 bf 0), (31, .sl 1000 a n c), (32, .int .i64 (Int.ofNat n)), (33, .int .i64 (Int.ofNat 0))], [(0, .own bf 24 [i64 W, i64 H, i64 o, .sl 1000 a n c]), (1000, roN a n c nf)], addL (R + 66000) 50, 100, ⟨eqF_rfl _, eqF_rfl _, eqF_rfl _, eqF_rfl _, trivial⟩, WkM.refl _, by (first | exact Nat.le_refl _ | (simp only [addL_eq, addL_rec]; omega)), 0, by omega, by omega, fun q hq => absurd hq (Nat.not_lt_zero _), rfl, rfl, rfl, rfl⟩ ?_
  rintro _ _ _ _ _ ⟨i, hi, rfl, hok, rfl, rfl, rfl, rfl⟩
  have hcert : i = n → dirB n nf = true ∧ ∀ j, Dir (nf j) := fun e => by
    subst e
    refine ⟨all_t hok, fun j => ?_⟩
    by_cases h : j < i
    · have := of_decide_eq_true (hok j h); omega
    · rw [hz j (by omega)]; omega
  cases hb : decide (0 ≤ nf i ∧ nf i ≤ 3599) with
  | false =>
    repeat' ((conv => whnf); first
             | refine eqS_rfl ?_
             | refine eqA_rfl ?_
             | refine eqA_of (by assumption) ?_
             | refine eqS_of (by rfl) ?_
             | refine eqL_rfl ?_
             | refine eqJ_rfl ?_
             | refine flE_intro (fun _ _ => rfl) ?_
             | refine seS_rfl ?_
             | refine brS_tt ?_
             | refine brS_ff ?_
             | refine brS_not ?_
             | refine brS_t (iEq_self _) ?_
             | refine brS_t (by assumption) ?_
             | refine brS_f (by assumption) ?_
             | refine brS_intro (fun _ => ?_) (fun _ => ?_)
             | refine ltS_intro (by first | assumption | decide | exact Nat.le_of_ble_eq_true rfl | omega) ?_
             | refine ixS_of rfl (by first | assumption | decide | omega) ?_
             | refine okS_intro (by first | assumption | kernel_rfl) ?_
             | refine nzS_intro (by first | decide | assumption) ?_
             | refine ltS_intro (by have := lt_of_iLt ‹iLt (Int.ofNat _) (Int.ofNat _) = true›; omega) ?_
             | refine ixS_of rfl (by have := lt_of_iLt ‹iLt (Int.ofNat _) (Int.ofNat _) = true›; omega) ?_
             | refine call_pure (c36 F _ _) ?_
             | intro _)
    · conv => whnf
      have hlt := lt_of_iLt ‹iLt (Int.ofNat i) (Int.ofNat n) = true›
      refine ⟨?_, by (first | exact Nat.le_refl _ | (simp only [addL_eq, addL_rec]; omega))⟩
      show Value.int .i64 1 = Value.int .i64 (chkN W H o n nf)
      unfold chkN; rw [show dirB n nf = false from all_f hlt hb]; rfl
    · have hge := ge_of_iLt ‹iLt (Int.ofNat i) (Int.ofNat n) = false›
      have e : i = n := by omega
      obtain ⟨g1, g2⟩ := hcert e
      refine call_readL (c41 F d hF W H o a n c nf g2 hW hH ho hn) (addL R 20) (by rfl) (by exact SeesM.cons 1000 (sees_ro (i := 1000) (by rfl)) (SeesM.nil _) (fun _ _ _ _ _ _ x hx => by cases hx)) (by (first | exact Nat.le_refl _ | (simp only [addL_eq, addL_rec]; omega))) ?_
      cases hc : certB (grid nf W) o (W - 1) (H - 1) with
      | true =>
        repeat' ((conv => whnf); first
                 | refine eqS_rfl ?_
                 | refine eqA_rfl ?_
                 | refine eqA_of (by assumption) ?_
                 | refine eqS_of (by rfl) ?_
                 | refine eqL_rfl ?_
                 | refine eqJ_rfl ?_
                 | refine flE_intro (fun _ _ => rfl) ?_
                 | refine seS_rfl ?_
                 | refine brS_tt ?_
                 | refine brS_ff ?_
                 | refine brS_not ?_
                 | refine brS_t (iEq_self _) ?_
                 | refine brS_t (by assumption) ?_
                 | refine brS_f (by assumption) ?_
                 | refine brS_intro (fun _ => ?_) (fun _ => ?_)
                 | refine ltS_intro (by first | assumption | decide | exact Nat.le_of_ble_eq_true rfl | omega) ?_
                 | refine ixS_of rfl (by first | assumption | decide | omega) ?_
                 | refine okS_intro (by first | assumption | kernel_rfl) ?_
                 | refine nzS_intro (by first | decide | assumption) ?_
                 | intro _)
        conv => whnf
        exact ⟨by (show Value.int .i64 0 = Value.int .i64 (chkN W H o n nf); unfold chkN; rw [g1, hc]; rfl), by (first | exact Nat.le_refl _ | (simp only [addL_eq, addL_rec]; omega))⟩
      | false =>
        repeat' ((conv => whnf); first
                 | refine eqS_rfl ?_
                 | refine eqA_rfl ?_
                 | refine eqA_of (by assumption) ?_
                 | refine eqS_of (by rfl) ?_
                 | refine eqL_rfl ?_
                 | refine eqJ_rfl ?_
                 | refine flE_intro (fun _ _ => rfl) ?_
                 | refine seS_rfl ?_
                 | refine brS_tt ?_
                 | refine brS_ff ?_
                 | refine brS_not ?_
                 | refine brS_t (iEq_self _) ?_
                 | refine brS_t (by assumption) ?_
                 | refine brS_f (by assumption) ?_
                 | refine brS_intro (fun _ => ?_) (fun _ => ?_)
                 | refine ltS_intro (by first | assumption | decide | exact Nat.le_of_ble_eq_true rfl | omega) ?_
                 | refine ixS_of rfl (by first | assumption | decide | omega) ?_
                 | refine okS_intro (by first | assumption | kernel_rfl) ?_
                 | refine nzS_intro (by first | decide | assumption) ?_
                 | intro _)
        conv => whnf
        exact ⟨by (show Value.int .i64 14 = Value.int .i64 (chkN W H o n nf); unfold chkN; rw [g1, hc]; rfl), by (first | exact Nat.le_refl _ | (simp only [addL_eq, addL_rec]; omega))⟩
  | true =>
    repeat' ((conv => whnf); first
             | refine eqS_rfl ?_
             | refine eqA_rfl ?_
             | refine eqA_of (by assumption) ?_
             | refine eqS_of (by rfl) ?_
             | refine eqL_rfl ?_
             | refine eqJ_rfl ?_
             | refine flE_intro (fun _ _ => rfl) ?_
             | refine seS_rfl ?_
             | refine brS_tt ?_
             | refine brS_ff ?_
             | refine brS_not ?_
             | refine brS_t (iEq_self _) ?_
             | refine brS_t (by assumption) ?_
             | refine brS_f (by assumption) ?_
             | refine brS_intro (fun _ => ?_) (fun _ => ?_)
             | refine ltS_intro (by first | assumption | decide | exact Nat.le_of_ble_eq_true rfl | omega) ?_
             | refine ixS_of rfl (by first | assumption | decide | omega) ?_
             | refine okS_intro (by first | assumption | kernel_rfl) ?_
             | refine nzS_intro (by first | decide | assumption) ?_
             | refine ltS_intro (by have := lt_of_iLt ‹iLt (Int.ofNat _) (Int.ofNat _) = true›; omega) ?_
             | refine ixS_of rfl (by have := lt_of_iLt ‹iLt (Int.ofNat _) (Int.ofNat _) = true›; omega) ?_
             | refine call_pure (c36 F _ _) ?_
             | intro _)
    · conv => whnf
      have hlt := lt_of_iLt ‹iLt (Int.ofNat i) (Int.ofNat n) = true›
      refine ⟨n - (i + 1) + 1, [(1, .ptr 0 bf 0), (31, .sl 1000 a n c), (32, .int .i64 (Int.ofNat n)), (33, .int .i64 (Int.ofNat (i + 1)))], _, addL (R + 66000) 50, 100, by omega, ⟨eqF_rfl _, eqF_rfl _, eqF_rfl _, ⟨congrArg (Value.int .i64) (wr_nat (i := i + 1) (by omega)), rfl⟩, trivial⟩, WkM.refl _, by (first | exact Nat.le_refl _ | (simp only [addL_eq, addL_rec]; omega)), i + 1, by omega, rfl, ?_, rfl, rfl, rfl, rfl⟩
      intro q hq
      by_cases e : q = i
      · rw [e]; exact hb
      · exact hok q (by omega)
    · have hge := ge_of_iLt ‹iLt (Int.ofNat i) (Int.ofNat n) = false›
      have e : i = n := by omega
      obtain ⟨g1, g2⟩ := hcert e
      refine call_readL (c41 F d hF W H o a n c nf g2 hW hH ho hn) (addL R 20) (by rfl) (by exact SeesM.cons 1000 (sees_ro (i := 1000) (by rfl)) (SeesM.nil _) (fun _ _ _ _ _ _ x hx => by cases hx)) (by (first | exact Nat.le_refl _ | (simp only [addL_eq, addL_rec]; omega))) ?_
      cases hc : certB (grid nf W) o (W - 1) (H - 1) with
      | true =>
        repeat' ((conv => whnf); first
                 | refine eqS_rfl ?_
                 | refine eqA_rfl ?_
                 | refine eqA_of (by assumption) ?_
                 | refine eqS_of (by rfl) ?_
                 | refine eqL_rfl ?_
                 | refine eqJ_rfl ?_
                 | refine flE_intro (fun _ _ => rfl) ?_
                 | refine seS_rfl ?_
                 | refine brS_tt ?_
                 | refine brS_ff ?_
                 | refine brS_not ?_
                 | refine brS_t (iEq_self _) ?_
                 | refine brS_t (by assumption) ?_
                 | refine brS_f (by assumption) ?_
                 | refine brS_intro (fun _ => ?_) (fun _ => ?_)
                 | refine ltS_intro (by first | assumption | decide | exact Nat.le_of_ble_eq_true rfl | omega) ?_
                 | refine ixS_of rfl (by first | assumption | decide | omega) ?_
                 | refine okS_intro (by first | assumption | kernel_rfl) ?_
                 | refine nzS_intro (by first | decide | assumption) ?_
                 | intro _)
        conv => whnf
        exact ⟨by (show Value.int .i64 0 = Value.int .i64 (chkN W H o n nf); unfold chkN; rw [g1, hc]; rfl), by (first | exact Nat.le_refl _ | (simp only [addL_eq, addL_rec]; omega))⟩
      | false =>
        repeat' ((conv => whnf); first
                 | refine eqS_rfl ?_
                 | refine eqA_rfl ?_
                 | refine eqA_of (by assumption) ?_
                 | refine eqS_of (by rfl) ?_
                 | refine eqL_rfl ?_
                 | refine eqJ_rfl ?_
                 | refine flE_intro (fun _ _ => rfl) ?_
                 | refine seS_rfl ?_
                 | refine brS_tt ?_
                 | refine brS_ff ?_
                 | refine brS_not ?_
                 | refine brS_t (iEq_self _) ?_
                 | refine brS_t (by assumption) ?_
                 | refine brS_f (by assumption) ?_
                 | refine brS_intro (fun _ => ?_) (fun _ => ?_)
                 | refine ltS_intro (by first | assumption | decide | exact Nat.le_of_ble_eq_true rfl | omega) ?_
                 | refine ixS_of rfl (by first | assumption | decide | omega) ?_
                 | refine okS_intro (by first | assumption | kernel_rfl) ?_
                 | refine nzS_intro (by first | decide | assumption) ?_
                 | intro _)
        conv => whnf
        exact ⟨by (show Value.int .i64 14 = Value.int .i64 (chkN W H o n nf); unfold chkN; rw [g1, hc]; rfl), by (first | exact Nat.le_refl _ | (simp only [addL_eq, addL_rec]; omega))⟩
end Go.Proofs.Ytbpdmbgkoijfbaa
