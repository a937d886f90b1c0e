/- Ore: the index of a block. -/
import Derived.Test.YtbpdmbgkoijfbaaOrC
import Derived.KernelRfl
namespace Go.Proofs.Ytbpdmbgkoijfbaa
open Go.Ab
attribute [local irreducible] aggOk drwOK
set_option maxRecDepth 100000
set_option maxHeartbeats 4000000
/-- needles as a grid -/
def grid (nf : Nat → Int) (W : Nat) : Grid := fun x y => nf (y * W + x)
theorem bpx_le (x w h k : Nat) : bpx x w h k ≤ x + w := by unfold bpx; (repeat' split) <;> omega
theorem bpy_le (y w h k : Nat) : bpy y w h k ≤ y + h := by unfold bpy; (repeat' split) <;> omega
theorem idx_lt {x y W H : Nat} (hx : x < W) (hy : y < H) : y * W + x < W * H := (cell_at hx hy).1
theorem sum_sm (g : Grid) (x y w h : Nat) {k : Nat} (hk : k ≤ 100) : -180000 ≤ sumN k (btn g x y w h) ∧ sumN k (btn g x y w h) ≤ 180000 := by
  have h1 := sumN_bd (f := btn g x y w h) (B := 1800) (n := k) fun j _ => by
    have := T_bd (g (bpx x w h j) (bpy y w h j)) (g (bpx x w h (j + 1)) (bpy y w h (j + 1)))
    unfold btn; omega
  have h2 : k * 1800 ≤ 100 * 1800 := Nat.mul_le_mul_right _ hk
  omega
theorem idx_sm (g : Grid) (x y w h : Nat) (hk : 2 * w + 2 * h ≤ 100) : wr .i64 ((bsum g x y w h).tdiv 3600) = (bsum g x y w h).tdiv 3600 ∧ 3600 * (bsum g x y w h).tdiv 3600 = bsum g x y w h ∧ -100 ≤ (bsum g x y w h).tdiv 3600 ∧ (bsum g x y w h).tdiv 3600 ≤ 100 := by
  have h1 : -180000 ≤ bsum g x y w h ∧ bsum g x y w h ≤ 180000 := sum_sm g x y w h hk
  obtain ⟨q, hq⟩ := bsum_mod g x y w h
  have e : (bsum g x y w h).tdiv 3600 = q := by rw [hq, Int.mul_tdiv_cancel_left _ (by decide)]
  rw [e]
  exact ⟨sm (by omega), hq.symm, by omega, by omega⟩
theorem c44 (F d : Nat) (hF : 100 < F) (W H x y w h : Nat) (o : Int) (a : Option Addr) (n c : Nat) (nf : Nat → Int) (hD : ∀ j, Dir (nf j)) (hW : W ≤ 10) (hH : H ≤ 10) (hw : x + w < W) (hh : y + h < H) (hn : n = W * H) : ReadC (CL F (d + 5)) 44 [fld W H o a n c, bl x y w h] [(1000, roN a n c nf)] ((2 * w + 2 * h) * 110 + 700) (i64 ((bsum (grid nf W) x y w h).tdiv 3600)) := by
  intro R
  rw [show (2 * w + 2 * h) * 110 + 700 = ((2 * w + 2 * h) * 110 + 500) + 200 by omega, addL_eq, ← Nat.add_assoc, ← addL_eq _ 200]
  refine call_in (n := 20) Try.func44 rfl rfl rfl rfl rfl rfl rfl ?_
  repeat' ((conv => whnf); first
           | refine eqS_rfl ?_
           | refine eqA_rfl ?_
           | refine eqA_of (by assumption) ?_
           | refine eqS_of (by rfl) ?_
           | refine eqL_rfl ?_
           | refine eqJ_rfl ?_
           | refine flE_intro (fun _ _ => rfl) ?_
           | refine seS_rfl ?_
           | refine brS_tt ?_
           | refine brS_ff ?_
           | refine brS_not ?_
           | refine brS_t (iEq_self _) ?_
           | refine brS_t (by assumption) ?_
           | refine brS_f (by assumption) ?_
           | refine brS_intro (fun _ => ?_) (fun _ => ?_)
           | refine ltS_intro (by first | assumption | decide | exact Nat.le_of_ble_eq_true rfl | omega) ?_
           | refine ixS_of rfl (by first | assumption | decide | omega) ?_
           | refine okS_intro (by first | assumption | kernel_rfl) ?_
           | refine nzS_intro (by first | decide | assumption) ?_
           | refine call_in (n := 4) Try.func55 rfl rfl rfl rfl rfl rfl rfl ?_
           | intro _)
  rename_i bf bb bs bq b1 b2
  refine call_iter (c60 F (d + 2) 60 hF bq x y w h (by omega) (by omega)) (fun k m => m = [(4, lopF Try.f44 0 b2 .ready none 20 [(5, .ptr 2 bs 0), (2, .ptr 0 bf 0)] b1), (dfN, .dfr [b1]), (2, .own bs 3 [i64 (sumN k (btn (grid nf W) x y w h))]), (0, .own bf 24 [i64 W, i64 H, i64 o, .sl 1000 a n c]), (1000, roN a n c nf)]) (fun _ => False) [(4, lopF Try.f44 0 b2 .ready none 20 [(5, .ptr 2 bs 0), (2, .ptr 0 bf 0)] b1), (dfN, .dfr [b1]), (2, .own bs 3 [i64 (0)]), (0, .own bf 24 [i64 W, i64 H, i64 o, .sl 1000 a n c]), (1000, roN a n c nf)] (addL R 100) (by rfl) (by exact (WkM.lop (i := 4) (j := 4) (f' := [(5, .ptr 2 bs 0), (2, .ptr 0 bf 0)]) ⟨eqF_rfl _, eqF_rfl _, trivial⟩ (WkM.refl _)).trans (by refine Sel.wk ?_; (try simp only [List.cons_append, List.nil_append]); repeat' (first | exact Sel.nil | exact Sel.all | exact Sel.left | refine Sel.cons Pick.here ?_ | refine Sel.cons (Pick.there Pick.here) ?_ | refine Sel.cons (Pick.there (Pick.there Pick.here)) ?_ | refine Sel.cons (Pick.there (Pick.there (Pick.there Pick.here))) ?_ | refine Sel.cons (Pick.there (Pick.there (Pick.there (Pick.there Pick.here)))) ?_ | refine Sel.cons (Pick.there (Pick.there (Pick.there (Pick.there (Pick.there Pick.here))))) ?_ | refine Sel.cons (Pick.there (Pick.there (Pick.there (Pick.there (Pick.there (Pick.there Pick.here)))))) ?_ | refine Sel.cons (Pick.there (Pick.there (Pick.there (Pick.there (Pick.there (Pick.there (Pick.there Pick.here))))))) ?_ | refine Sel.cons (Pick.there (Pick.there (Pick.there (Pick.there (Pick.there (Pick.there (Pick.there (Pick.there Pick.here)))))))) ?_ | refine Sel.cons (Pick.there (Pick.there (Pick.there (Pick.there (Pick.there (Pick.there (Pick.there (Pick.there (Pick.there Pick.here))))))))) ?_ | refine Sel.cons (Pick.there (Pick.there (Pick.there (Pick.there (Pick.there (Pick.there (Pick.there (Pick.there (Pick.there (Pick.there Pick.here)))))))))) ?_ | refine Sel.cons (Pick.there (Pick.there (Pick.there (Pick.there (Pick.there (Pick.there (Pick.there (Pick.there (Pick.there (Pick.there (Pick.there Pick.here))))))))))) ?_ | refine Sel.snoc Pick.here ?_ | refine Sel.snoc (Pick.there Pick.here) ?_ | refine Sel.snoc (Pick.there (Pick.there Pick.here)) ?_ | refine Sel.snoc (Pick.there (Pick.there (Pick.there Pick.here))) ?_ | refine Sel.snoc (Pick.there (Pick.there (Pick.there (Pick.there Pick.here)))) ?_ | refine Sel.snoc (Pick.there (Pick.there (Pick.there (Pick.there (Pick.there Pick.here))))) ?_ | refine Sel.snoc (Pick.there (Pick.there (Pick.there (Pick.there (Pick.there (Pick.there Pick.here)))))) ?_ | refine Sel.snoc (Pick.there (Pick.there (Pick.there (Pick.there (Pick.there (Pick.there (Pick.there Pick.here))))))) ?_ | refine Sel.snoc (Pick.there (Pick.there (Pick.there (Pick.there (Pick.there (Pick.there (Pick.there (Pick.there Pick.here)))))))) ?_ | refine Sel.snoc (Pick.there (Pick.there (Pick.there (Pick.there (Pick.there (Pick.there (Pick.there (Pick.there (Pick.there Pick.here))))))))) ?_ | refine Sel.snoc (Pick.there (Pick.there (Pick.there (Pick.there (Pick.there (Pick.there (Pick.there (Pick.there (Pick.there (Pick.there Pick.here)))))))))) ?_ | refine Sel.snoc (Pick.there (Pick.there (Pick.there (Pick.there (Pick.there (Pick.there (Pick.there (Pick.there (Pick.there (Pick.there (Pick.there Pick.here))))))))))) ?_ | refine Sel.drop ?_))) rfl ?_ (by (first | exact Nat.le_refl _ | (simp only [addL_eq, addL_rec]; omega))) ?_
  · rintro k hk _ rfl me' R
    have h1 := bpx_le x w h k
    have h2 := bpy_le y w h k
    have h3 := bpx_le x w h (k + 1)
    have h4 := bpy_le y w h (k + 1)
    refine call_yield ?_
    repeat' ((conv => whnf); first
             | refine eqS_rfl ?_
             | refine eqA_rfl ?_
             | refine eqA_of (by assumption) ?_
             | refine eqS_of (by rfl) ?_
             | refine eqL_rfl ?_
             | refine eqJ_rfl ?_
             | refine flE_intro (fun _ _ => rfl) ?_
             | refine seS_rfl ?_
             | refine brS_tt ?_
             | refine brS_ff ?_
             | refine brS_not ?_
             | refine brS_t (iEq_self _) ?_
             | refine brS_t (by assumption) ?_
             | refine brS_f (by assumption) ?_
             | refine brS_intro (fun _ => ?_) (fun _ => ?_)
             | refine ltS_intro (by first | assumption | decide | exact Nat.le_of_ble_eq_true rfl | omega) ?_
             | refine ixS_of rfl (by first | assumption | decide | omega) ?_
             | refine okS_intro (by first | assumption | kernel_rfl) ?_
             | refine nzS_intro (by first | decide | assumption) ?_
             | refine call_read (c56 F d W (bpx x w h k) (bpy y w h k) (bpx x w h (k + 1)) (bpy y w h (k + 1)) H o a n c nf hD (by omega) (by omega) (by omega) (by rw [hn]; exact idx_lt (by omega) (by omega)) (by omega) (by omega) (by rw [hn]; exact idx_lt (by omega) (by omega))) (by rfl) (by exact SeesM.cons 1000 (sees_ro (i := 1000) (by rfl)) (SeesM.nil _) (fun _ _ _ _ _ _ x hx => by cases hx)) ?_
             | intro _)
    conv => whnf
    refine ⟨by (first | exact Nat.le_refl _ | (simp only [addL_eq, addL_rec]; omega)), [(4, lopF Try.f44 0 b2 .ready none 20 [(5, .ptr 2 bs 0), (2, .ptr 0 bf 0)] b1), (dfN, .dfr [b1]), (2, .own bs 3 [i64 (sumN (k + 1) (btn (grid nf W) x y w h))]), (0, .own bf 24 [i64 W, i64 H, i64 o, .sl 1000 a n c]), (1000, roN a n c nf)], ?_, .inl ⟨rfl, rfl⟩⟩
    have hs := sum_sm (grid nf W) x y w h (k := k) (by omega)
    have hb := T_bd (nf (bpy y w h k * W + bpx x w h k)) (nf (bpy y w h (k + 1) * W + bpx x w h (k + 1)))
    rw [show sumN (k + 1) (btn (grid nf W) x y w h) = wr .i64 (Int.add (sumN k (btn (grid nf W) x y w h)) (T (nf (bpy y w h k * W + bpx x w h k)) (nf (bpy y w h (k + 1) * W + bpx x w h (k + 1))))) from (sm (n := sumN k (btn (grid nf W) x y w h) + T (nf (bpy y w h k * W + bpx x w h k)) (nf (bpy y w h (k + 1) * W + bpx x w h (k + 1)))) (by omega)).symm]
    exact (by refine Sel.wk ?_; (try simp only [List.cons_append, List.nil_append]); repeat' (first | exact Sel.nil | exact Sel.all | exact Sel.left | refine Sel.cons Pick.here ?_ | refine Sel.cons (Pick.there Pick.here) ?_ | refine Sel.cons (Pick.there (Pick.there Pick.here)) ?_ | refine Sel.cons (Pick.there (Pick.there (Pick.there Pick.here))) ?_ | refine Sel.cons (Pick.there (Pick.there (Pick.there (Pick.there Pick.here)))) ?_ | refine Sel.cons (Pick.there (Pick.there (Pick.there (Pick.there (Pick.there Pick.here))))) ?_ | refine Sel.cons (Pick.there (Pick.there (Pick.there (Pick.there (Pick.there (Pick.there Pick.here)))))) ?_ | refine Sel.cons (Pick.there (Pick.there (Pick.there (Pick.there (Pick.there (Pick.there (Pick.there Pick.here))))))) ?_ | refine Sel.cons (Pick.there (Pick.there (Pick.there (Pick.there (Pick.there (Pick.there (Pick.there (Pick.there Pick.here)))))))) ?_ | refine Sel.cons (Pick.there (Pick.there (Pick.there (Pick.there (Pick.there (Pick.there (Pick.there (Pick.there (Pick.there Pick.here))))))))) ?_ | refine Sel.cons (Pick.there (Pick.there (Pick.there (Pick.there (Pick.there (Pick.there (Pick.there (Pick.there (Pick.there (Pick.there Pick.here)))))))))) ?_ | refine Sel.cons (Pick.there (Pick.there (Pick.there (Pick.there (Pick.there (Pick.there (Pick.there (Pick.there (Pick.there (Pick.there (Pick.there Pick.here))))))))))) ?_ | refine Sel.snoc Pick.here ?_ | refine Sel.snoc (Pick.there Pick.here) ?_ | refine Sel.snoc (Pick.there (Pick.there Pick.here)) ?_ | refine Sel.snoc (Pick.there (Pick.there (Pick.there Pick.here))) ?_ | refine Sel.snoc (Pick.there (Pick.there (Pick.there (Pick.there Pick.here)))) ?_ | refine Sel.snoc (Pick.there (Pick.there (Pick.there (Pick.there (Pick.there Pick.here))))) ?_ | refine Sel.snoc (Pick.there (Pick.there (Pick.there (Pick.there (Pick.there (Pick.there Pick.here)))))) ?_ | refine Sel.snoc (Pick.there (Pick.there (Pick.there (Pick.there (Pick.there (Pick.there (Pick.there Pick.here))))))) ?_ | refine Sel.snoc (Pick.there (Pick.there (Pick.there (Pick.there (Pick.there (Pick.there (Pick.there (Pick.there Pick.here)))))))) ?_ | refine Sel.snoc (Pick.there (Pick.there (Pick.there (Pick.there (Pick.there (Pick.there (Pick.there (Pick.there (Pick.there Pick.here))))))))) ?_ | refine Sel.snoc (Pick.there (Pick.there (Pick.there (Pick.there (Pick.there (Pick.there (Pick.there (Pick.there (Pick.there (Pick.there Pick.here)))))))))) ?_ | refine Sel.snoc (Pick.there (Pick.there (Pick.there (Pick.there (Pick.there (Pick.there (Pick.there (Pick.there (Pick.there (Pick.there (Pick.there Pick.here))))))))))) ?_ | refine Sel.drop ?_))
  · rintro _ _ (rfl | h)
    · repeat' ((conv => whnf); first
             | refine eqS_rfl ?_
             | refine eqA_rfl ?_
             | refine eqA_of (by assumption) ?_
             | refine eqS_of (by rfl) ?_
             | refine eqL_rfl ?_
             | refine eqJ_rfl ?_
             | refine flE_intro (fun _ _ => rfl) ?_
             | refine seS_rfl ?_
             | refine brS_tt ?_
             | refine brS_ff ?_
             | refine brS_not ?_
             | refine brS_t (iEq_self _) ?_
             | refine brS_t (by assumption) ?_
             | refine brS_f (by assumption) ?_
             | refine brS_intro (fun _ => ?_) (fun _ => ?_)
             | refine ltS_intro (by first | assumption | decide | exact Nat.le_of_ble_eq_true rfl | omega) ?_
             | refine ixS_of rfl (by first | assumption | decide | omega) ?_
             | refine okS_intro (by first | assumption | kernel_rfl) ?_
             | refine nzS_intro (by first | decide | assumption) ?_
             | intro _)
      conv => whnf
      exact ⟨congrArg (Value.int .i64) (idx_sm (grid nf W) x y w h (by omega)).1, by (first | exact Nat.le_refl _ | (simp only [addL_eq, addL_rec]; omega))⟩
    · exact h.elim
end Go.Proofs.Ytbpdmbgkoijfbaa
