/- Ore: the reference: needles and indices. -/
import Derived.Test.YtbpdmbgkoijfbaaOrG
import Derived.KernelRfl
namespace Go.Proofs.Ytbpdmbgkoijfbaa
open Go.Ab
attribute [local irreducible] aggOk drwOK
set_option maxRecDepth 100000
set_option maxHeartbeats 4000000
theorem c57 (F d : Nat) (w x y : Nat) (h o : Int) (a : Option Addr) (n c : Nat) (nf : Nat → Int) (hw : w ≤ 100) (hx : x ≤ 100) (hy : y ≤ 100) (hq : y * w + x < n) : ReadC (CL F (d + 1)) 57 [fld w h o a n c, i64 x, i64 y] [(1000, roN a n c nf)] 1 (i64 (nf (y * w + x))) := by
  intro R
  refine call_in (n := 17) Try.func57 rfl rfl rfl rfl rfl rfl rfl ?_
  repeat' ((conv => whnf); first
           | refine eqS_rfl ?_
           | refine eqA_rfl ?_
           | refine eqA_of (by assumption) ?_
           | refine eqS_of (by rfl) ?_
           | refine eqL_rfl ?_
           | refine eqJ_rfl ?_
           | refine flE_intro (fun _ _ => rfl) ?_
           | refine seS_rfl ?_
           | refine brS_tt ?_
           | refine brS_ff ?_
           | refine brS_not ?_
           | refine brS_t (iEq_self _) ?_
           | refine brS_t (by assumption) ?_
           | refine brS_f (by assumption) ?_
           | refine brS_intro (fun _ => ?_) (fun _ => ?_)
           | refine ltS_intro (by first | assumption | decide | exact Nat.le_of_ble_eq_true rfl | omega) ?_
           | refine ixS_of rfl (by first | assumption | decide | omega) ?_
           | refine okS_intro (by first | assumption | kernel_rfl) ?_
           | refine nzS_intro (by first | decide | assumption) ?_
           | refine ixS_of (at_eq hw hx hy) hq ?_
           | intro _)
  conv => whnf
  exact ⟨rfl, by (first | exact Nat.le_refl _ | (simp only [addL_eq, addL_rec]; omega))⟩
/-- is a turn the same in every truth? -/
def okE (o a b : Int) : Bool := decide (max (T a b) (-(T a b)) + 2 * o < 1800)
theorem okE_RT {o a b n : Int} (hn : n = RT a b) (ho : 0 ≤ o ∧ o ≤ 400) : iLt (wr .i64 (Int.add (bif iLt n (wr .i64 (Int.sub 0 n)) then wr .i64 (Int.sub 0 n) else n) (wr .i64 (Int.mul 2 o)))) 1800 = okE o a b := by
  have hb := T_bd a b
  have hb2 : -1800 ≤ n ∧ n ≤ 1800 := by rw [hn]; unfold RT; split <;> omega
  have e1 : wr .i64 (Int.sub 0 n) = -n := (sm (n := 0 - n) (by omega)).trans (by omega)
  have e2 : wr .i64 (Int.mul 2 o) = 2 * o := sm (n := 2 * o) (by omega)
  have e3 : (bif iLt n (-n) then -n else n) = max n (-n) := by
    rw [iLt_eq]
    by_cases h : n < -n
    · rw [decide_eq_true h]; show -n = _; omega
    · rw [decide_eq_false h]; show n = _; omega
  rw [e1, e2, e3, show wr .i64 (Int.add (max n (-n)) (2 * o)) = max n (-n) + 2 * o from sm (n := max n (-n) + 2 * o) (by omega), iLt_eq]
  unfold okE
  rw [hn]; unfold RT
  split
  · rename_i h; rw [h]; rfl
  · rfl
theorem c42 (F d : Nat) (W H x y u v : Nat) (o : Int) (a : Option Addr) (n c : Nat) (nf : Nat → Int) (hD : ∀ j, Dir (nf j)) (ho : 0 ≤ o ∧ o ≤ 400) (hW : W ≤ 10) (hH : H ≤ 10) (hx : x < W) (hy : y < H) (hu : u < W) (hv : v < H) (hn : n = W * H) : ReadC (CL F (d + 2)) 42 [fld W H o a n c, i64 x, i64 y, i64 u, i64 v] [(1000, roN a n c nf)] 30 (.bool (okE o (grid nf W x y) (grid nf W u v))) := by
  have hX := okE_RT (o := o) (a := grid nf W x y) (b := grid nf W u v) (n := RT (nf (y * W + x)) (nf (v * W + u))) rfl ho
  intro R
  refine call_in (n := 30) Try.func42 rfl rfl rfl rfl rfl rfl rfl ?_
  repeat' ((conv => whnf); first
           | refine eqS_rfl ?_
           | refine eqA_rfl ?_
           | refine eqA_of (by assumption) ?_
           | refine eqS_of (by rfl) ?_
           | refine eqL_rfl ?_
           | refine eqJ_rfl ?_
           | refine flE_intro (fun _ _ => rfl) ?_
           | refine seS_rfl ?_
           | refine brS_tt ?_
           | refine brS_ff ?_
           | refine brS_not ?_
           | refine brS_t (iEq_self _) ?_
           | refine brS_t (by assumption) ?_
           | refine brS_f (by assumption) ?_
           | refine brS_intro (fun _ => ?_) (fun _ => ?_)
           | refine ltS_intro (by first | assumption | decide | exact Nat.le_of_ble_eq_true rfl | omega) ?_
           | refine ixS_of rfl (by first | assumption | decide | omega) ?_
           | refine okS_intro (by first | assumption | kernel_rfl) ?_
           | refine nzS_intro (by first | decide | assumption) ?_
           | refine call_read (c57 F _ W (x) (y) H o a n c nf (by omega) (by omega) (by omega) (by rw [hn]; exact idx_lt (by omega) (by omega))) (by rfl) (by exact SeesM.cons 1000 (sees_ro (i := 1000) (by rfl)) (SeesM.nil _) (fun _ _ _ _ _ _ x hx => by cases hx)) ?_
           | refine call_read (c57 F _ W (u) (v) H o a n c nf (by omega) (by omega) (by omega) (by rw [hn]; exact idx_lt (by omega) (by omega))) (by rfl) (by exact SeesM.cons 1000 (sees_ro (i := 1000) (by rfl)) (SeesM.nil _) (fun _ _ _ _ _ _ x hx => by cases hx)) ?_
           | refine call_pure (c39 F _ _ _ (hD _) (hD _)) ?_
           | intro _)
  conv => whnf
  exact ⟨congrArg Value.bool hX, by (first | exact Nat.le_refl _ | (simp only [addL_eq, addL_rec]; omega))⟩
theorem sum2_eq {s t u : Int} (hs : -1000000 ≤ s ∧ s ≤ 1000000) (ht : -3600 ≤ t ∧ t ≤ 3600) (htu : -3600 ≤ t + u ∧ t + u ≤ 3600) : wr .i64 (Int.add (wr .i64 (Int.add s t)) u) = s + (t + u) := by
  rw [show wr .i64 (Int.add s t) = s + t from sm (n := s + t) (by omega)]
  exact (sm (n := s + t + u) (by omega)).trans (Int.add_assoc _ _ _)
theorem c46 (F d : Nat) (hF : 100 < F) (W H x y w h : Nat) (o : Int) (a : Option Addr) (n c : Nat) (nf : Nat → Int) (hD : ∀ j, Dir (nf j)) (hs : Sure (grid nf W) W H) (hW : W ≤ 10) (hH : H ≤ 10) (hw : x + w < W) (hh : y + h < H) (hn : n = W * H) : ReadC (CL F (d + 2)) 46 [fld W H o a n c, bl x y w h] [(1000, roN a n c nf)] (2000 + 50) (i64 ((bsum (grid nf W) x y w h).tdiv 3600)) := by
  have hb1 : ∀ k, -((3600 : Nat) : Int) ≤ T (grid nf W (x + k) y) (grid nf W (x + k + 1) y) + T (grid nf W (x + k + 1) (y + h)) (grid nf W (x + k) (y + h)) ∧ T (grid nf W (x + k) y) (grid nf W (x + k + 1) y) + T (grid nf W (x + k + 1) (y + h)) (grid nf W (x + k) (y + h)) ≤ ((3600 : Nat) : Int) := fun k => by
    have := T_bd (grid nf W (x + k) y) (grid nf W (x + k + 1) y)
    have := T_bd (grid nf W (x + k + 1) (y + h)) (grid nf W (x + k) (y + h))
    omega
  have hb2 : ∀ k, -((3600 : Nat) : Int) ≤ T (grid nf W (x + w) (y + k)) (grid nf W (x + w) (y + k + 1)) + T (grid nf W x (y + k + 1)) (grid nf W x (y + k)) ∧ T (grid nf W (x + w) (y + k)) (grid nf W (x + w) (y + k + 1)) + T (grid nf W x (y + k + 1)) (grid nf W x (y + k)) ≤ ((3600 : Nat) : Int) := fun k => by
    have := T_bd (grid nf W (x + w) (y + k)) (grid nf W (x + w) (y + k + 1))
    have := T_bd (grid nf W x (y + k + 1)) (grid nf W x (y + k))
    omega
  have exw : wr .i64 (Int.add (x : Nat) (w : Nat)) = ((x + w : Nat) : Int) := wr_nat (i := x + w) (by omega)
  have eyh : wr .i64 (Int.add (y : Nat) (h : Nat)) = ((y + h : Nat) : Int) := wr_nat (i := y + h) (by omega)
  have hxw : ∀ i : Nat, iLt (Int.ofNat (x + i)) (wr .i64 (Int.add (x : Nat) (w : Nat))) = decide (i < w) := fun i => by rw [exw, iLt_eq]; refine decide_eq_decide.2 ?_; show ((x + i : Nat) : Int) < ((x + w : Nat) : Int) ↔ _; omega
  have hyh : ∀ i : Nat, iLt (Int.ofNat (y + i)) (wr .i64 (Int.add (y : Nat) (h : Nat))) = decide (i < h) := fun i => by rw [eyh, iLt_eq]; refine decide_eq_decide.2 ?_; show ((y + i : Nat) : Int) < ((y + h : Nat) : Int) ↔ _; omega
  intro R
  rw [show 2000 + 50 = (2000) + 50 from rfl, addL_eq, ← Nat.add_assoc, ← addL_eq _ 50]
  refine call_in (n := 100) Try.func46 rfl rfl rfl rfl rfl rfl rfl ?_
  repeat' ((conv => whnf); first
           | refine eqS_rfl ?_
           | refine eqA_rfl ?_
           | refine eqA_of (by assumption) ?_
           | refine eqS_of (by rfl) ?_
           | refine eqL_rfl ?_
           | refine eqJ_rfl ?_
           | refine flE_intro (fun _ _ => rfl) ?_
           | refine seS_rfl ?_
           | refine brS_tt ?_
           | refine brS_ff ?_
           | refine brS_not ?_
           | refine brS_t (iEq_self _) ?_
           | refine brS_t (by assumption) ?_
           | refine brS_f (by assumption) ?_
           | refine brS_intro (fun _ => ?_) (fun _ => ?_)
           | refine ltS_intro (by first | assumption | decide | exact Nat.le_of_ble_eq_true rfl | omega) ?_
           | refine ixS_of rfl (by first | assumption | decide | omega) ?_
           | refine okS_intro (by first | assumption | kernel_rfl) ?_
           | refine nzS_intro (by first | decide | assumption) ?_
           | intro _)
  rename_i bf bb
  conv => whnf
  refine loS_i (fun jj f mm R' ni => ∃ i : Nat, i ≤ w ∧ jj = w - i + 1 ∧ f = [(2, .ptr 0 bf 0), (3, .ptr 1 bb 0), (5, i64 (sumN (i) (fun k => T (grid nf W (x + k) y) (grid nf W (x + k + 1) y) + T (grid nf W (x + k + 1) (y + h)) (grid nf W (x + k) (y + h))))), (6, .int .i64 (Int.ofNat (x + i)))] ∧ mm = [(1, .own bb 38 [i64 x, i64 y, i64 w, i64 h]), (0, .own bf 31 [i64 W, i64 H, i64 o, .sl 1000 a n c]), (1000, roN a n c nf)] ∧ R' = addL (R + 1000 + 80 * (w - i)) 80 ∧ ni = 100) (w + 1) (by omega)
    ⟨[(2, .ptr 0 bf 0), (3, .ptr 1 bb 0), (5, i64 (sumN (0) (fun k => T (grid nf W (x + k) y) (grid nf W (x + k + 1) y) + T (grid nf W (x + k + 1) (y + h)) (grid nf W (x + k) (y + h))))), (6, .int .i64 (Int.ofNat (x + 0)))], [(1, .own bb 38 [i64 x, i64 y, i64 w, i64 h]), (0, .own bf 31 [i64 W, i64 H, i64 o, .sl 1000 a n c]), (1000, roN a n c nf)], addL (R + 1000 + 80 * (w - 0)) 80, 100, ⟨eqF_rfl _, eqF_rfl _, eqF_rfl _, eqF_rfl _, trivial⟩, WkM.refl _, by (first | exact Nat.le_refl _ | (simp only [addL_eq, addL_rec]; omega)), 0, by omega, by omega, rfl, rfl, rfl, rfl⟩ ?_
  rintro _ _ _ _ _ ⟨i, hi, rfl, rfl, rfl, rfl, rfl⟩
  have hsum := sumN_bd (n := i) fun k _ => hb1 k
  have hi3 : i * 3600 ≤ 10 * 3600 := Nat.mul_le_mul_right _ (by omega)
  have hbi := hb1 i
  by_cases hiw : i < w
  · have d1 := (hxw i).trans (decide_eq_true hiw)
    have ex1 : wr .i64 (Int.add (Int.ofNat (x + i)) 1) = ((x + i + 1 : Nat) : Int) := wr_nat (i := x + i + 1) (by omega)
    have r1 : RT (nf (y * W + (x + i))) (nf (y * W + (x + i + 1))) = T (grid nf W (x + i) y) (grid nf W (x + i + 1) y) := RT_eq (hs.1 (x + i) y (by omega) (by omega))
    have r2 : RT (nf ((y + h) * W + (x + i + 1))) (nf ((y + h) * W + (x + i))) = T (grid nf W (x + i + 1) (y + h)) (grid nf W (x + i) (y + h)) := RT_eq (fun e => hs.1 (x + i) (y + h) (by omega) (by omega) (T_neg' e))
    have t1 := T_bd (grid nf W (x + i) y) (grid nf W (x + i + 1) y)
    have e5 : wr .i64 (Int.add (wr .i64 (Int.add (sumN (i) (fun k => T (grid nf W (x + k) y) (grid nf W (x + k + 1) y) + T (grid nf W (x + k + 1) (y + h)) (grid nf W (x + k) (y + h)))) (RT (nf (y * W + (x + i))) (nf (y * W + (x + i + 1)))))) (RT (nf ((y + h) * W + (x + i + 1))) (nf ((y + h) * W + (x + i))))) = sumN (i + 1) (fun k => T (grid nf W (x + k) y) (grid nf W (x + k + 1) y) + T (grid nf W (x + k + 1) (y + h)) (grid nf W (x + k) (y + h))) := by
      rw [r1, r2]
      exact sum2_eq (by omega) (by omega) (by omega)
    repeat' ((conv => whnf); first
             | refine eqS_rfl ?_
             | refine eqA_rfl ?_
             | refine eqA_of (by assumption) ?_
             | refine eqS_of (by rfl) ?_
             | refine eqL_rfl ?_
             | refine eqJ_rfl ?_
             | refine flE_intro (fun _ _ => rfl) ?_
             | refine seS_rfl ?_
             | refine brS_tt ?_
             | refine brS_ff ?_
             | refine brS_not ?_
             | refine brS_t (iEq_self _) ?_
             | refine brS_t (by assumption) ?_
             | refine brS_f (by assumption) ?_
             | refine brS_intro (fun _ => ?_) (fun _ => ?_)
             | refine ltS_intro (by first | assumption | decide | exact Nat.le_of_ble_eq_true rfl | omega) ?_
             | refine ixS_of rfl (by first | assumption | decide | omega) ?_
             | refine okS_intro (by first | assumption | kernel_rfl) ?_
             | refine nzS_intro (by first | decide | assumption) ?_
             | refine call_read (c57 F _ W (x + i) (y) H o a n c nf (by omega) (by omega) (by omega) (by rw [hn]; exact idx_lt (by omega) (by omega))) (by rfl) (by exact SeesM.cons 1000 (sees_ro (i := 1000) (by rfl)) (SeesM.nil _) (fun _ _ _ _ _ _ x hx => by cases hx)) ?_
             | refine call_read (c57 F _ W (x + i + 1) (y) H o a n c nf (by omega) (by omega) (by omega) (by rw [hn]; exact idx_lt (by omega) (by omega))) (by exact congrArg (fun z => dens [fld W H o a n c, i64 z, i64 y]) ex1) (by exact SeesM.cons 1000 (sees_ro (i := 1000) (by rfl)) (SeesM.nil _) (fun _ _ _ _ _ _ x hx => by cases hx)) ?_
             | refine call_read (c57 F _ W (x + i + 1) (y + h) H o a n c nf (by omega) (by omega) (by omega) (by rw [hn]; exact idx_lt (by omega) (by omega))) (by exact cg2 (fun z v => dens [fld W H o a n c, i64 z, i64 v]) ex1 eyh) (by exact SeesM.cons 1000 (sees_ro (i := 1000) (by rfl)) (SeesM.nil _) (fun _ _ _ _ _ _ x hx => by cases hx)) ?_
             | refine call_read (c57 F _ W (x + i) (y + h) H o a n c nf (by omega) (by omega) (by omega) (by rw [hn]; exact idx_lt (by omega) (by omega))) (by exact congrArg (fun z => dens [fld W H o a n c, i64 (x + i : Nat), i64 z]) eyh) (by exact SeesM.cons 1000 (sees_ro (i := 1000) (by rfl)) (SeesM.nil _) (fun _ _ _ _ _ _ x hx => by cases hx)) ?_
             | refine call_pure (c39 F _ _ _ (hD _) (hD _)) ?_
             | intro _)
    conv => whnf
    exact ⟨w - (i + 1) + 1, [(2, .ptr 0 bf 0), (3, .ptr 1 bb 0), (5, i64 (sumN (i + 1) (fun k => T (grid nf W (x + k) y) (grid nf W (x + k + 1) y) + T (grid nf W (x + k + 1) (y + h)) (grid nf W (x + k) (y + h))))), (6, .int .i64 (Int.ofNat (x + (i + 1))))], _, addL (R + 1000 + 80 * (w - (i + 1))) 80, 100, by omega, ⟨eqF_rfl _, eqF_rfl _, ⟨congrArg (Value.int .i64) e5, rfl⟩, ⟨congrArg (Value.int .i64) (wr_nat (i := x + i + 1) (by omega)), rfl⟩, trivial⟩, WkM.refl _, by (first | exact Nat.le_refl _ | (simp only [addL_eq, addL_rec]; omega)), i + 1, by omega, rfl, rfl, rfl, rfl, rfl⟩
  · have d1 := (hxw i).trans (decide_eq_false hiw)
    have hiw2 : w = i := by omega
    subst hiw2
    repeat' ((conv => whnf); first
             | refine eqS_rfl ?_
             | refine eqA_rfl ?_
             | refine eqA_of (by assumption) ?_
             | refine eqS_of (by rfl) ?_
             | refine eqL_rfl ?_
             | refine eqJ_rfl ?_
             | refine flE_intro (fun _ _ => rfl) ?_
             | refine seS_rfl ?_
             | refine brS_tt ?_
             | refine brS_ff ?_
             | refine brS_not ?_
             | refine brS_t (iEq_self _) ?_
             | refine brS_t (by assumption) ?_
             | refine brS_f (by assumption) ?_
             | refine brS_intro (fun _ => ?_) (fun _ => ?_)
             | refine ltS_intro (by first | assumption | decide | exact Nat.le_of_ble_eq_true rfl | omega) ?_
             | refine ixS_of rfl (by first | assumption | decide | omega) ?_
             | refine okS_intro (by first | assumption | kernel_rfl) ?_
             | refine nzS_intro (by first | decide | assumption) ?_
             | intro _)
    conv => whnf
    obtain ⟨S, hS⟩ : ∃ S, S = sumN (w) (fun k => T (grid nf W (x + k) y) (grid nf W (x + k + 1) y) + T (grid nf W (x + k + 1) (y + h)) (grid nf W (x + k) (y + h))) := ⟨_, rfl⟩
    rw [← hS] at hsum
    refine loS_i (fun jj f mm R' ni => ∃ i : Nat, i ≤ h ∧ jj = h - i + 1 ∧ f = [(2, .ptr 0 bf 0), (3, .ptr 1 bb 0), (5, i64 (S + sumN (i) (fun k => T (grid nf W (x + w) (y + k)) (grid nf W (x + w) (y + k + 1)) + T (grid nf W x (y + k + 1)) (grid nf W x (y + k))))), (7, .int .i64 (Int.ofNat (y + i)))] ∧ mm = [(1, .own bb 38 [i64 x, i64 y, i64 w, i64 h]), (0, .own bf 31 [i64 W, i64 H, i64 o, .sl 1000 a n c]), (1000, roN a n c nf)] ∧ R' = addL (R + 80 * (h - i)) 80 ∧ ni = 100) (h + 1) (by omega)
      ⟨[(2, .ptr 0 bf 0), (3, .ptr 1 bb 0), (5, i64 (S + sumN (0) (fun k => T (grid nf W (x + w) (y + k)) (grid nf W (x + w) (y + k + 1)) + T (grid nf W x (y + k + 1)) (grid nf W x (y + k))))), (7, .int .i64 (Int.ofNat (y + 0)))], [(1, .own bb 38 [i64 x, i64 y, i64 w, i64 h]), (0, .own bf 31 [i64 W, i64 H, i64 o, .sl 1000 a n c]), (1000, roN a n c nf)], addL (R + 80 * (h - 0)) 80, 100, ⟨eqF_rfl _, eqF_rfl _, ⟨congrArg (Value.int .i64) (by rw [hS]; exact (Int.add_zero _).symm), rfl⟩, eqF_rfl _, trivial⟩, WkM.refl _, by (first | exact Nat.le_refl _ | (simp only [addL_eq, addL_rec]; omega)), 0, by omega, by omega, rfl, rfl, rfl, rfl⟩ ?_
    rintro _ _ _ _ _ ⟨i, hi, rfl, rfl, rfl, rfl, rfl⟩
    have hsum2 := sumN_bd (n := i) fun k _ => hb2 k
    have hi4 : i * 3600 ≤ 10 * 3600 := Nat.mul_le_mul_right _ (by omega)
    have hbi := hb2 i
    by_cases hih : i < h
    · have d1 := (hyh i).trans (decide_eq_true hih)
      have ey1 : wr .i64 (Int.add (Int.ofNat (y + i)) 1) = ((y + i + 1 : Nat) : Int) := wr_nat (i := y + i + 1) (by omega)
      have r1 : RT (nf ((y + i) * W + (x + w))) (nf ((y + i + 1) * W + (x + w))) = T (grid nf W (x + w) (y + i)) (grid nf W (x + w) (y + i + 1)) := RT_eq (hs.2 (x + w) (y + i) (by omega) (by omega))
      have r2 : RT (nf ((y + i + 1) * W + x)) (nf ((y + i) * W + x)) = T (grid nf W x (y + i + 1)) (grid nf W x (y + i)) := RT_eq (fun e => hs.2 x (y + i) (by omega) (by omega) (T_neg' e))
      have t1 := T_bd (grid nf W (x + w) (y + i)) (grid nf W (x + w) (y + i + 1))
      have e5 : wr .i64 (Int.add (wr .i64 (Int.add (S + sumN (i) (fun k => T (grid nf W (x + w) (y + k)) (grid nf W (x + w) (y + k + 1)) + T (grid nf W x (y + k + 1)) (grid nf W x (y + k)))) (RT (nf ((y + i) * W + (x + w))) (nf ((y + i + 1) * W + (x + w)))))) (RT (nf ((y + i + 1) * W + x)) (nf ((y + i) * W + x)))) = S + sumN (i + 1) (fun k => T (grid nf W (x + w) (y + k)) (grid nf W (x + w) (y + k + 1)) + T (grid nf W x (y + k + 1)) (grid nf W x (y + k))) := by
        rw [r1, r2]
        exact (sum2_eq (by omega) (by omega) (by omega)).trans (Int.add_assoc _ _ _)
      repeat' ((conv => whnf); first
               | refine eqS_rfl ?_
               | refine eqA_rfl ?_
               | refine eqA_of (by assumption) ?_
               | refine eqS_of (by rfl) ?_
               | refine eqL_rfl ?_
               | refine eqJ_rfl ?_
               | refine flE_intro (fun _ _ => rfl) ?_
               | refine seS_rfl ?_
               | refine brS_tt ?_
               | refine brS_ff ?_
               | refine brS_not ?_
               | refine brS_t (iEq_self _) ?_
               | refine brS_t (by assumption) ?_
               | refine brS_f (by assumption) ?_
               | refine brS_intro (fun _ => ?_) (fun _ => ?_)
               | refine ltS_intro (by first | assumption | decide | exact Nat.le_of_ble_eq_true rfl | omega) ?_
               | refine ixS_of rfl (by first | assumption | decide | omega) ?_
               | refine okS_intro (by first | assumption | kernel_rfl) ?_
               | refine nzS_intro (by first | decide | assumption) ?_
               | refine call_read (c57 F _ W (x + w) (y + i) H o a n c nf (by omega) (by omega) (by omega) (by rw [hn]; exact idx_lt (by omega) (by omega))) (by exact congrArg (fun z => dens [fld W H o a n c, i64 z, i64 (y + i : Nat)]) exw) (by exact SeesM.cons 1000 (sees_ro (i := 1000) (by rfl)) (SeesM.nil _) (fun _ _ _ _ _ _ x hx => by cases hx)) ?_
               | refine call_read (c57 F _ W (x + w) (y + i + 1) H o a n c nf (by omega) (by omega) (by omega) (by rw [hn]; exact idx_lt (by omega) (by omega))) (by exact cg2 (fun z v => dens [fld W H o a n c, i64 z, i64 v]) exw ey1) (by exact SeesM.cons 1000 (sees_ro (i := 1000) (by rfl)) (SeesM.nil _) (fun _ _ _ _ _ _ x hx => by cases hx)) ?_
               | refine call_read (c57 F _ W (x) (y + i + 1) H o a n c nf (by omega) (by omega) (by omega) (by rw [hn]; exact idx_lt (by omega) (by omega))) (by exact congrArg (fun z => dens [fld W H o a n c, i64 x, i64 z]) ey1) (by exact SeesM.cons 1000 (sees_ro (i := 1000) (by rfl)) (SeesM.nil _) (fun _ _ _ _ _ _ x hx => by cases hx)) ?_
               | refine call_read (c57 F _ W (x) (y + i) H o a n c nf (by omega) (by omega) (by omega) (by rw [hn]; exact idx_lt (by omega) (by omega))) (by rfl) (by exact SeesM.cons 1000 (sees_ro (i := 1000) (by rfl)) (SeesM.nil _) (fun _ _ _ _ _ _ x hx => by cases hx)) ?_
               | refine call_pure (c39 F _ _ _ (hD _) (hD _)) ?_
               | intro _)
      conv => whnf
      exact ⟨h - (i + 1) + 1, [(2, .ptr 0 bf 0), (3, .ptr 1 bb 0), (5, i64 (S + sumN (i + 1) (fun k => T (grid nf W (x + w) (y + k)) (grid nf W (x + w) (y + k + 1)) + T (grid nf W x (y + k + 1)) (grid nf W x (y + k))))), (7, .int .i64 (Int.ofNat (y + (i + 1))))], _, addL (R + 80 * (h - (i + 1))) 80, 100, by omega, ⟨eqF_rfl _, eqF_rfl _, ⟨congrArg (Value.int .i64) e5, rfl⟩, ⟨congrArg (Value.int .i64) (wr_nat (i := y + i + 1) (by omega)), rfl⟩, trivial⟩, WkM.refl _, by (first | exact Nat.le_refl _ | (simp only [addL_eq, addL_rec]; omega)), i + 1, by omega, rfl, rfl, rfl, rfl, rfl⟩
    · have d1 := (hyh i).trans (decide_eq_false hih)
      have hih2 : h = i := by omega
      subst hih2
      repeat' ((conv => whnf); first
               | refine eqS_rfl ?_
               | refine eqA_rfl ?_
               | refine eqA_of (by assumption) ?_
               | refine eqS_of (by rfl) ?_
               | refine eqL_rfl ?_
               | refine eqJ_rfl ?_
               | refine flE_intro (fun _ _ => rfl) ?_
               | refine seS_rfl ?_
               | refine brS_tt ?_
               | refine brS_ff ?_
               | refine brS_not ?_
               | refine brS_t (iEq_self _) ?_
               | refine brS_t (by assumption) ?_
               | refine brS_f (by assumption) ?_
               | refine brS_intro (fun _ => ?_) (fun _ => ?_)
               | refine ltS_intro (by first | assumption | decide | exact Nat.le_of_ble_eq_true rfl | omega) ?_
               | refine ixS_of rfl (by first | assumption | decide | omega) ?_
               | refine okS_intro (by first | assumption | kernel_rfl) ?_
               | refine nzS_intro (by first | decide | assumption) ?_
               | intro _)
      conv => whnf
      have e : S + sumN h (fun k => T (grid nf W (x + w) (y + k)) (grid nf W (x + w) (y + k + 1)) + T (grid nf W x (y + k + 1)) (grid nf W x (y + k))) = bsum (grid nf W) x y w h := by
        rw [hS, bsum_eq, sumN_add, sumN_add]; omega
      refine ⟨?_, by (first | exact Nat.le_refl _ | (simp only [addL_eq, addL_rec]; omega))⟩
      rw [e]
      exact congrArg (Value.int .i64) (idx_sm (grid nf W) x y w h (by omega)).1
end Go.Proofs.Ytbpdmbgkoijfbaa
