/- Ore: is a field certain? -/
import Derived.Test.YtbpdmbgkoijfbaaOrD
import Derived.KernelRfl
namespace Go.Proofs.Ytbpdmbgkoijfbaa
open Go.Ab
attribute [local irreducible] aggOk drwOK
set_option maxRecDepth 100000
set_option maxHeartbeats 4000000
/-- a turn that stays the same in every truth -/
def okB (g : Grid) (o : Int) (x y j : Nat) : Bool := decide (max (btn g x y 1 1 j) (-(btn g x y 1 1 j)) + 2 * o < 1800)
def certB (g : Grid) (o : Int) (W H : Nat) : Bool := (List.range (W * H)).all fun k => (List.range 4).all fun j => okB g o (0 + k % W) (0 + k / W) j
theorem c47 (F d : Nat) (W H : Nat) (o : Int) (a : Option Addr) (n c : Nat) (hW : 1 ≤ W ∧ W ≤ 100) (hH : 1 ≤ H ∧ H ≤ 100) : PureC (CL F (d + 1)) 47 [fld W H o a n c] 4 (bl 0 0 (W - 1 : Nat) (H - 1 : Nat)) := by
  have e1 : wr .i64 (Int.sub (W : Nat) 1) = ((W - 1 : Nat) : Int) := (sm (n := (W : Int) - 1) (by omega)).trans (by omega)
  have e2 : wr .i64 (Int.sub (H : Nat) 1) = ((H - 1 : Nat) : Int) := (sm (n := (H : Int) - 1) (by omega)).trans (by omega)
  intro m R
  refine call_in (n := 10) Try.func47 rfl rfl rfl rfl rfl rfl rfl ?_
  repeat' ((conv => whnf); first
           | refine eqS_rfl ?_
           | refine eqA_rfl ?_
           | refine eqA_of (by assumption) ?_
           | refine eqS_of (by rfl) ?_
           | refine eqL_rfl ?_
           | refine eqJ_rfl ?_
           | refine flE_intro (fun _ _ => rfl) ?_
           | refine seS_rfl ?_
           | refine brS_tt ?_
           | refine brS_ff ?_
           | refine brS_not ?_
           | refine brS_t (iEq_self _) ?_
           | refine brS_t (by assumption) ?_
           | refine brS_f (by assumption) ?_
           | refine brS_intro (fun _ => ?_) (fun _ => ?_)
           | refine ltS_intro (by first | assumption | decide | exact Nat.le_of_ble_eq_true rfl | omega) ?_
           | refine ixS_of rfl (by first | assumption | decide | omega) ?_
           | refine okS_intro (by first | assumption | kernel_rfl) ?_
           | refine nzS_intro (by first | decide | assumption) ?_
           | intro _)
  all_goals (conv => whnf)
  all_goals refine ⟨?_, by repeat' (first | exact WkM.refl _ | refine WkM.drop ?_), by repeat' (first | exact Nat.le_refl _ | refine Nat.le_succ_of_le ?_)⟩
  all_goals (exact cg2 (fun u v => den (bl 0 0 u v)) e1 e2)

theorem all_t {n : Nat} {p : Nat → Bool} (h : ∀ k, k < n → p k = true) : (List.range n).all p = true := List.all_eq_true.2 fun k hk => h k (List.mem_range.1 hk)
theorem all_f {n : Nat} {p : Nat → Bool} {k : Nat} (hk : k < n) (h : p k = false) : (List.range n).all p = false := by
  cases e : (List.range n).all p with
  | false => rfl
  | true => rw [List.all_eq_true.1 e k (List.mem_range.2 hk)] at h; cases h
theorem ok_iff {g : Grid} {o : Int} {x y j : Nat} {n : Int} (hn : btn g x y 1 1 j = n) (ho : 0 ≤ o ∧ o ≤ 400) (hb : -1800 ≤ n ∧ n < 1800) : iLt (wr .i64 (Int.add (bif iLt n (wr .i64 (Int.sub 0 n)) then wr .i64 (Int.sub 0 n) else n) (wr .i64 (Int.mul 2 o)))) 1800 = okB g o x y j := by
  have e1 : wr .i64 (Int.sub 0 n) = -n := (sm (n := 0 - n) (by omega)).trans (by omega)
  have e2 : wr .i64 (Int.mul 2 o) = 2 * o := sm (n := 2 * o) (by omega)
  have e3 : (bif iLt n (-n) then -n else n) = max n (-n) := by
    rw [iLt_eq]
    by_cases h : n < -n
    · rw [decide_eq_true h]; show -n = _; omega
    · rw [decide_eq_false h]; show n = _; omega
  rw [e1, e2, e3, show wr .i64 (Int.add (max n (-n)) (2 * o)) = max n (-n) + 2 * o from sm (n := max n (-n) + 2 * o) (by omega), iLt_eq]
  unfold okB; rw [hn]
theorem c41 (F d : Nat) (hF : 100 < F) (W H : Nat) (o : Int) (a : Option Addr) (n c : Nat) (nf : Nat → Int) (hD : ∀ j, Dir (nf j)) (hW : 2 ≤ W ∧ W ≤ 9) (hH : 2 ≤ H ∧ H ≤ 9) (ho : 0 ≤ o ∧ o ≤ 400) (hn : n = W * H) : ReadC (CL F (d + 7)) 41 [fld W H o a n c] [(1000, roN a n c nf)] (1000 * ((W - 1) * (H - 1)) + 1000) (.bool (certB (grid nf W) o (W - 1) (H - 1))) := by
  intro R
  rw [show 1000 * ((W - 1) * (H - 1)) + 1000 = (1000 * ((W - 1) * (H - 1)) + 800) + 200 by omega, addL_eq, ← Nat.add_assoc, ← addL_eq _ 200]
  refine call_in (n := 28) Try.func41 rfl rfl rfl rfl rfl rfl rfl ?_
  repeat' ((conv => whnf); first
           | refine eqS_rfl ?_
           | refine eqA_rfl ?_
           | refine eqA_of (by assumption) ?_
           | refine eqS_of (by rfl) ?_
           | refine eqL_rfl ?_
           | refine eqJ_rfl ?_
           | refine flE_intro (fun _ _ => rfl) ?_
           | refine seS_rfl ?_
           | refine brS_tt ?_
           | refine brS_ff ?_
           | refine brS_not ?_
           | refine brS_t (iEq_self _) ?_
           | refine brS_t (by assumption) ?_
           | refine brS_f (by assumption) ?_
           | refine brS_intro (fun _ => ?_) (fun _ => ?_)
           | refine ltS_intro (by first | assumption | decide | exact Nat.le_of_ble_eq_true rfl | omega) ?_
           | refine ixS_of rfl (by first | assumption | decide | omega) ?_
           | refine okS_intro (by first | assumption | kernel_rfl) ?_
           | refine nzS_intro (by first | decide | assumption) ?_
           | refine call_pure (c47 F _ W H o a n c (by omega) (by omega)) ?_
           | refine call_in (n := 4) Try.func48 rfl rfl rfl rfl rfl rfl rfl ?_
           | intro _)
  rename_i bf br bq b1 b2
  refine call_iter (c58 F (d + 4) 900 hF bq 0 0 (W - 1) (H - 1) (by omega) (by omega)) (fun k m => m = [(3, lopF Try.f41 0 b2 .ready none 28 [(1, .ptr 0 bf 0), (2, .ptr 1 br 0)] b1), (dfN, .dfr [b1]), (1, .own br 4 [.bool false]), (0, .own bf 24 [i64 W, i64 H, i64 o, .sl 1000 a n c]), (1000, roN a n c nf)] ∧ ∀ q, q < k → ∀ j, j < 4 → okB (grid nf W) o (0 + q % (W - 1)) (0 + q / (W - 1)) j = true) (fun m => m = [(3, lopF Try.f41 0 b2 .done (some .ret) 28 [(1, .ptr 0 bf 0), (2, .ptr 1 br 0)] b1), (dfN, .dfr [b1]), (1, .own br 4 [.bool false]), (0, .own bf 24 [i64 W, i64 H, i64 o, .sl 1000 a n c]), (1000, roN a n c nf)] ∧ ∃ q, q < (W - 1) * (H - 1) ∧ ∃ j, j < 4 ∧ okB (grid nf W) o (0 + q % (W - 1)) (0 + q / (W - 1)) j = false) [(3, lopF Try.f41 0 b2 .ready none 28 [(1, .ptr 0 bf 0), (2, .ptr 1 br 0)] b1), (dfN, .dfr [b1]), (1, .own br 4 [.bool false]), (0, .own bf 24 [i64 W, i64 H, i64 o, .sl 1000 a n c]), (1000, roN a n c nf)] (addL R 100) (by rfl) (by exact (WkM.lop (i := 3) (j := 3) (f' := [(1, .ptr 0 bf 0), (2, .ptr 1 br 0)]) ⟨eqF_rfl _, eqF_rfl _, trivial⟩ (WkM.refl _)).trans (by refine Sel.wk ?_; (try simp only [List.cons_append, List.nil_append]); repeat' (first | exact Sel.nil | exact Sel.all | exact Sel.left | refine Sel.cons Pick.here ?_ | refine Sel.cons (Pick.there Pick.here) ?_ | refine Sel.cons (Pick.there (Pick.there Pick.here)) ?_ | refine Sel.cons (Pick.there (Pick.there (Pick.there Pick.here))) ?_ | refine Sel.cons (Pick.there (Pick.there (Pick.there (Pick.there Pick.here)))) ?_ | refine Sel.cons (Pick.there (Pick.there (Pick.there (Pick.there (Pick.there Pick.here))))) ?_ | refine Sel.cons (Pick.there (Pick.there (Pick.there (Pick.there (Pick.there (Pick.there Pick.here)))))) ?_ | refine Sel.cons (Pick.there (Pick.there (Pick.there (Pick.there (Pick.there (Pick.there (Pick.there Pick.here))))))) ?_ | refine Sel.cons (Pick.there (Pick.there (Pick.there (Pick.there (Pick.there (Pick.there (Pick.there (Pick.there Pick.here)))))))) ?_ | refine Sel.cons (Pick.there (Pick.there (Pick.there (Pick.there (Pick.there (Pick.there (Pick.there (Pick.there (Pick.there Pick.here))))))))) ?_ | refine Sel.cons (Pick.there (Pick.there (Pick.there (Pick.there (Pick.there (Pick.there (Pick.there (Pick.there (Pick.there (Pick.there Pick.here)))))))))) ?_ | refine Sel.cons (Pick.there (Pick.there (Pick.there (Pick.there (Pick.there (Pick.there (Pick.there (Pick.there (Pick.there (Pick.there (Pick.there Pick.here))))))))))) ?_ | refine Sel.snoc Pick.here ?_ | refine Sel.snoc (Pick.there Pick.here) ?_ | refine Sel.snoc (Pick.there (Pick.there Pick.here)) ?_ | refine Sel.snoc (Pick.there (Pick.there (Pick.there Pick.here))) ?_ | refine Sel.snoc (Pick.there (Pick.there (Pick.there (Pick.there Pick.here)))) ?_ | refine Sel.snoc (Pick.there (Pick.there (Pick.there (Pick.there (Pick.there Pick.here))))) ?_ | refine Sel.snoc (Pick.there (Pick.there (Pick.there (Pick.there (Pick.there (Pick.there Pick.here)))))) ?_ | refine Sel.snoc (Pick.there (Pick.there (Pick.there (Pick.there (Pick.there (Pick.there (Pick.there Pick.here))))))) ?_ | refine Sel.snoc (Pick.there (Pick.there (Pick.there (Pick.there (Pick.there (Pick.there (Pick.there (Pick.there Pick.here)))))))) ?_ | refine Sel.snoc (Pick.there (Pick.there (Pick.there (Pick.there (Pick.there (Pick.there (Pick.there (Pick.there (Pick.there Pick.here))))))))) ?_ | refine Sel.snoc (Pick.there (Pick.there (Pick.there (Pick.there (Pick.there (Pick.there (Pick.there (Pick.there (Pick.there (Pick.there Pick.here)))))))))) ?_ | refine Sel.snoc (Pick.there (Pick.there (Pick.there (Pick.there (Pick.there (Pick.there (Pick.there (Pick.there (Pick.there (Pick.there (Pick.there Pick.here))))))))))) ?_ | refine Sel.drop ?_))) ⟨rfl, fun q hq => absurd hq (Nat.not_lt_zero _)⟩ ?_ (by (first | exact Nat.le_refl _ | (simp only [addL_eq, addL_rec]; omega))) ?_
  · rintro k hk _ ⟨rfl, hok⟩ me' R
    have hW1 : 0 < W - 1 := by omega
    have hkx : k % (W - 1) < W - 1 := Nat.mod_lt _ hW1
    have hky : k / (W - 1) < H - 1 := by rw [Nat.div_lt_iff_lt_mul hW1, Nat.mul_comm]; exact hk
    refine call_yield ?_
    repeat' ((conv => whnf); first
             | refine eqS_rfl ?_
             | refine eqA_rfl ?_
             | refine eqA_of (by assumption) ?_
             | refine eqS_of (by rfl) ?_
             | refine eqL_rfl ?_
             | refine eqJ_rfl ?_
             | refine flE_intro (fun _ _ => rfl) ?_
             | refine seS_rfl ?_
             | refine brS_tt ?_
             | refine brS_ff ?_
             | refine brS_not ?_
             | refine brS_t (iEq_self _) ?_
             | refine brS_t (by assumption) ?_
             | refine brS_f (by assumption) ?_
             | refine brS_intro (fun _ => ?_) (fun _ => ?_)
             | refine ltS_intro (by first | assumption | decide | exact Nat.le_of_ble_eq_true rfl | omega) ?_
             | refine ixS_of rfl (by first | assumption | decide | omega) ?_
             | refine okS_intro (by first | assumption | kernel_rfl) ?_
             | refine nzS_intro (by first | decide | assumption) ?_
             | refine call_in (n := 4) Try.func55 rfl rfl rfl rfl rfl rfl rfl ?_
             | intro _)
    rename_i b3 b5 b4
    refine call_iter (c60 F (d + 2) 60 hF b5 (0 + k % (W - 1)) (0 + k / (W - 1)) 1 1 (by omega) (by omega)) (fun j m => m = ([(502, lopF Try.f41 1 b4 .ready none 28 [(1, .ptr 0 bf 0), (2, .ptr 1 br 0)] b1), (3, lopF Try.f41 0 b2 .busy none 28 [(1, .ptr 0 bf 0), (2, .ptr 1 br 0)] b1), (dfN, .dfr [b1]), (1, .own br 4 [.bool false]), (0, .own bf 24 [i64 W, i64 H, i64 o, .sl 1000 a n c]), (1000, roN a n c nf)] ++ me') ∧ ∀ q, q < j → okB (grid nf W) o (0 + k % (W - 1)) (0 + k / (W - 1)) q = true) (fun m => m = ([(502, lopF Try.f41 1 b4 .done (some .ret) 28 [(1, .ptr 0 bf 0), (2, .ptr 1 br 0)] b1), (3, lopF Try.f41 0 b2 .busy none 28 [(1, .ptr 0 bf 0), (2, .ptr 1 br 0)] b1), (dfN, .dfr [b1]), (1, .own br 4 [.bool false]), (0, .own bf 24 [i64 W, i64 H, i64 o, .sl 1000 a n c]), (1000, roN a n c nf)] ++ me') ∧ ∃ j, j < 4 ∧ okB (grid nf W) o (0 + k % (W - 1)) (0 + k / (W - 1)) j = false) ([(502, lopF Try.f41 1 b4 .ready none 28 [(1, .ptr 0 bf 0), (2, .ptr 1 br 0)] b1), (3, lopF Try.f41 0 b2 .busy none 28 [(1, .ptr 0 bf 0), (2, .ptr 1 br 0)] b1), (dfN, .dfr [b1]), (1, .own br 4 [.bool false]), (0, .own bf 24 [i64 W, i64 H, i64 o, .sl 1000 a n c]), (1000, roN a n c nf)] ++ me') (addL R 30) (by rfl) (by exact (WkM.lop (i := 502) (j := 502) (f' := [(1, .ptr 0 bf 0), (2, .ptr 1 br 0)]) ⟨eqF_rfl _, eqF_rfl _, trivial⟩ (WkM.refl _)).trans (by refine Sel.wk ?_; (try simp only [List.cons_append, List.nil_append]); repeat' (first | exact Sel.nil | exact Sel.all | exact Sel.left | refine Sel.cons Pick.here ?_ | refine Sel.cons (Pick.there Pick.here) ?_ | refine Sel.cons (Pick.there (Pick.there Pick.here)) ?_ | refine Sel.cons (Pick.there (Pick.there (Pick.there Pick.here))) ?_ | refine Sel.cons (Pick.there (Pick.there (Pick.there (Pick.there Pick.here)))) ?_ | refine Sel.cons (Pick.there (Pick.there (Pick.there (Pick.there (Pick.there Pick.here))))) ?_ | refine Sel.cons (Pick.there (Pick.there (Pick.there (Pick.there (Pick.there (Pick.there Pick.here)))))) ?_ | refine Sel.cons (Pick.there (Pick.there (Pick.there (Pick.there (Pick.there (Pick.there (Pick.there Pick.here))))))) ?_ | refine Sel.cons (Pick.there (Pick.there (Pick.there (Pick.there (Pick.there (Pick.there (Pick.there (Pick.there Pick.here)))))))) ?_ | refine Sel.cons (Pick.there (Pick.there (Pick.there (Pick.there (Pick.there (Pick.there (Pick.there (Pick.there (Pick.there Pick.here))))))))) ?_ | refine Sel.cons (Pick.there (Pick.there (Pick.there (Pick.there (Pick.there (Pick.there (Pick.there (Pick.there (Pick.there (Pick.there Pick.here)))))))))) ?_ | refine Sel.cons (Pick.there (Pick.there (Pick.there (Pick.there (Pick.there (Pick.there (Pick.there (Pick.there (Pick.there (Pick.there (Pick.there Pick.here))))))))))) ?_ | refine Sel.snoc Pick.here ?_ | refine Sel.snoc (Pick.there Pick.here) ?_ | refine Sel.snoc (Pick.there (Pick.there Pick.here)) ?_ | refine Sel.snoc (Pick.there (Pick.there (Pick.there Pick.here))) ?_ | refine Sel.snoc (Pick.there (Pick.there (Pick.there (Pick.there Pick.here)))) ?_ | refine Sel.snoc (Pick.there (Pick.there (Pick.there (Pick.there (Pick.there Pick.here))))) ?_ | refine Sel.snoc (Pick.there (Pick.there (Pick.there (Pick.there (Pick.there (Pick.there Pick.here)))))) ?_ | refine Sel.snoc (Pick.there (Pick.there (Pick.there (Pick.there (Pick.there (Pick.there (Pick.there Pick.here))))))) ?_ | refine Sel.snoc (Pick.there (Pick.there (Pick.there (Pick.there (Pick.there (Pick.there (Pick.there (Pick.there Pick.here)))))))) ?_ | refine Sel.snoc (Pick.there (Pick.there (Pick.there (Pick.there (Pick.there (Pick.there (Pick.there (Pick.there (Pick.there Pick.here))))))))) ?_ | refine Sel.snoc (Pick.there (Pick.there (Pick.there (Pick.there (Pick.there (Pick.there (Pick.there (Pick.there (Pick.there (Pick.there Pick.here)))))))))) ?_ | refine Sel.snoc (Pick.there (Pick.there (Pick.there (Pick.there (Pick.there (Pick.there (Pick.there (Pick.there (Pick.there (Pick.there (Pick.there Pick.here))))))))))) ?_ | refine Sel.drop ?_))) ⟨rfl, fun q hq => absurd hq (Nat.not_lt_zero _)⟩ ?_ (by (first | exact Nat.le_refl _ | (simp only [addL_eq, addL_rec]; omega))) ?_
    · rintro j hj _ ⟨rfl, hok2⟩ me2 R
      have h1 := bpx_le (0 + k % (W - 1)) 1 1 j
      have h2 := bpy_le (0 + k / (W - 1)) 1 1 j
      have h3 := bpx_le (0 + k % (W - 1)) 1 1 (j + 1)
      have h4 := bpy_le (0 + k / (W - 1)) 1 1 (j + 1)
      have hX := ok_iff (g := grid nf W) (o := o) (x := (0 + k % (W - 1))) (y := (0 + k / (W - 1))) (j := j) (n := T (nf ((bpy (0 + k / (W - 1)) 1 1 j) * W + (bpx (0 + k % (W - 1)) 1 1 j))) (nf ((bpy (0 + k / (W - 1)) 1 1 (j + 1)) * W + (bpx (0 + k % (W - 1)) 1 1 (j + 1))))) rfl ho (T_bd _ _)
      have hnext : okB (grid nf W) o (0 + k % (W - 1)) (0 + k / (W - 1)) j = true → ∀ q, q < j + 1 → okB (grid nf W) o (0 + k % (W - 1)) (0 + k / (W - 1)) q = true := fun h q hq => by
        by_cases e : q = j
        · rw [e]; exact h
        · exact hok2 q (by omega)
      refine callS.ni 800 ?_
      refine call_yield ?_
      cases hb : okB (grid nf W) o (0 + k % (W - 1)) (0 + k / (W - 1)) j with
      | true =>
        rw [hb] at hX
        repeat' ((conv => whnf); first
                 | refine eqS_rfl ?_
                 | refine eqA_rfl ?_
                 | refine eqA_of (by assumption) ?_
                 | refine eqS_of (by rfl) ?_
                 | refine eqL_rfl ?_
                 | refine eqJ_rfl ?_
                 | refine flE_intro (fun _ _ => rfl) ?_
                 | refine seS_rfl ?_
                 | refine brS_tt ?_
                 | refine brS_ff ?_
                 | refine brS_not ?_
                 | refine brS_t (iEq_self _) ?_
                 | refine brS_t (by assumption) ?_
                 | refine brS_f (by assumption) ?_
                 | refine brS_intro (fun _ => ?_) (fun _ => ?_)
                 | refine ltS_intro (by first | assumption | decide | exact Nat.le_of_ble_eq_true rfl | omega) ?_
                 | refine ixS_of rfl (by first | assumption | decide | omega) ?_
                 | refine okS_intro (by first | assumption | kernel_rfl) ?_
                 | refine nzS_intro (by first | decide | assumption) ?_
                 | refine call_read (c56 F d W (bpx (0 + k % (W - 1)) 1 1 j) (bpy (0 + k / (W - 1)) 1 1 j) (bpx (0 + k % (W - 1)) 1 1 (j + 1)) (bpy (0 + k / (W - 1)) 1 1 (j + 1)) H o a n c nf hD (by omega) (by omega) (by omega) (by rw [hn]; exact idx_lt (by omega) (by omega)) (by omega) (by omega) (by rw [hn]; exact idx_lt (by omega) (by omega))) (by rfl) (by exact SeesM.cons 1000 (sees_ro (i := 1000) (by rfl)) (SeesM.nil _) (fun _ _ _ _ _ _ x hx => by cases hx)) ?_
                 | intro _)
        conv => whnf
        exact ⟨by (first | exact Nat.le_refl _ | (simp only [addL_eq, addL_rec]; omega)), ([(502, lopF Try.f41 1 b4 .ready none 28 [(1, .ptr 0 bf 0), (2, .ptr 1 br 0)] b1), (3, lopF Try.f41 0 b2 .busy none 28 [(1, .ptr 0 bf 0), (2, .ptr 1 br 0)] b1), (dfN, .dfr [b1]), (1, .own br 4 [.bool false]), (0, .own bf 24 [i64 W, i64 H, i64 o, .sl 1000 a n c]), (1000, roN a n c nf)] ++ me'), (by refine Sel.wk ?_; (try simp only [List.cons_append, List.nil_append]); repeat' (first | exact Sel.nil | exact Sel.all | exact Sel.left | refine Sel.cons Pick.here ?_ | refine Sel.cons (Pick.there Pick.here) ?_ | refine Sel.cons (Pick.there (Pick.there Pick.here)) ?_ | refine Sel.cons (Pick.there (Pick.there (Pick.there Pick.here))) ?_ | refine Sel.cons (Pick.there (Pick.there (Pick.there (Pick.there Pick.here)))) ?_ | refine Sel.cons (Pick.there (Pick.there (Pick.there (Pick.there (Pick.there Pick.here))))) ?_ | refine Sel.cons (Pick.there (Pick.there (Pick.there (Pick.there (Pick.there (Pick.there Pick.here)))))) ?_ | refine Sel.cons (Pick.there (Pick.there (Pick.there (Pick.there (Pick.there (Pick.there (Pick.there Pick.here))))))) ?_ | refine Sel.cons (Pick.there (Pick.there (Pick.there (Pick.there (Pick.there (Pick.there (Pick.there (Pick.there Pick.here)))))))) ?_ | refine Sel.cons (Pick.there (Pick.there (Pick.there (Pick.there (Pick.there (Pick.there (Pick.there (Pick.there (Pick.there Pick.here))))))))) ?_ | refine Sel.cons (Pick.there (Pick.there (Pick.there (Pick.there (Pick.there (Pick.there (Pick.there (Pick.there (Pick.there (Pick.there Pick.here)))))))))) ?_ | refine Sel.cons (Pick.there (Pick.there (Pick.there (Pick.there (Pick.there (Pick.there (Pick.there (Pick.there (Pick.there (Pick.there (Pick.there Pick.here))))))))))) ?_ | refine Sel.snoc Pick.here ?_ | refine Sel.snoc (Pick.there Pick.here) ?_ | refine Sel.snoc (Pick.there (Pick.there Pick.here)) ?_ | refine Sel.snoc (Pick.there (Pick.there (Pick.there Pick.here))) ?_ | refine Sel.snoc (Pick.there (Pick.there (Pick.there (Pick.there Pick.here)))) ?_ | refine Sel.snoc (Pick.there (Pick.there (Pick.there (Pick.there (Pick.there Pick.here))))) ?_ | refine Sel.snoc (Pick.there (Pick.there (Pick.there (Pick.there (Pick.there (Pick.there Pick.here)))))) ?_ | refine Sel.snoc (Pick.there (Pick.there (Pick.there (Pick.there (Pick.there (Pick.there (Pick.there Pick.here))))))) ?_ | refine Sel.snoc (Pick.there (Pick.there (Pick.there (Pick.there (Pick.there (Pick.there (Pick.there (Pick.there Pick.here)))))))) ?_ | refine Sel.snoc (Pick.there (Pick.there (Pick.there (Pick.there (Pick.there (Pick.there (Pick.there (Pick.there (Pick.there Pick.here))))))))) ?_ | refine Sel.snoc (Pick.there (Pick.there (Pick.there (Pick.there (Pick.there (Pick.there (Pick.there (Pick.there (Pick.there (Pick.there Pick.here)))))))))) ?_ | refine Sel.snoc (Pick.there (Pick.there (Pick.there (Pick.there (Pick.there (Pick.there (Pick.there (Pick.there (Pick.there (Pick.there (Pick.there Pick.here))))))))))) ?_ | refine Sel.drop ?_)), .inl ⟨rfl, rfl, hnext hb⟩⟩
      | false =>
        rw [hb] at hX
        repeat' ((conv => whnf); first
                 | refine eqS_rfl ?_
                 | refine eqA_rfl ?_
                 | refine eqA_of (by assumption) ?_
                 | refine eqS_of (by rfl) ?_
                 | refine eqL_rfl ?_
                 | refine eqJ_rfl ?_
                 | refine flE_intro (fun _ _ => rfl) ?_
                 | refine seS_rfl ?_
                 | refine brS_tt ?_
                 | refine brS_ff ?_
                 | refine brS_not ?_
                 | refine brS_t (iEq_self _) ?_
                 | refine brS_t (by assumption) ?_
                 | refine brS_f (by assumption) ?_
                 | refine brS_intro (fun _ => ?_) (fun _ => ?_)
                 | refine ltS_intro (by first | assumption | decide | exact Nat.le_of_ble_eq_true rfl | omega) ?_
                 | refine ixS_of rfl (by first | assumption | decide | omega) ?_
                 | refine okS_intro (by first | assumption | kernel_rfl) ?_
                 | refine nzS_intro (by first | decide | assumption) ?_
                 | refine call_read (c56 F d W (bpx (0 + k % (W - 1)) 1 1 j) (bpy (0 + k / (W - 1)) 1 1 j) (bpx (0 + k % (W - 1)) 1 1 (j + 1)) (bpy (0 + k / (W - 1)) 1 1 (j + 1)) H o a n c nf hD (by omega) (by omega) (by omega) (by rw [hn]; exact idx_lt (by omega) (by omega)) (by omega) (by omega) (by rw [hn]; exact idx_lt (by omega) (by omega))) (by rfl) (by exact SeesM.cons 1000 (sees_ro (i := 1000) (by rfl)) (SeesM.nil _) (fun _ _ _ _ _ _ x hx => by cases hx)) ?_
                 | intro _)
        conv => whnf
        exact ⟨by (first | exact Nat.le_refl _ | (simp only [addL_eq, addL_rec]; omega)), ([(502, lopF Try.f41 1 b4 .done (some .ret) 28 [(1, .ptr 0 bf 0), (2, .ptr 1 br 0)] b1), (3, lopF Try.f41 0 b2 .busy none 28 [(1, .ptr 0 bf 0), (2, .ptr 1 br 0)] b1), (dfN, .dfr [b1]), (1, .own br 4 [.bool false]), (0, .own bf 24 [i64 W, i64 H, i64 o, .sl 1000 a n c]), (1000, roN a n c nf)] ++ me'), (by refine Sel.wk ?_; (try simp only [List.cons_append, List.nil_append]); repeat' (first | exact Sel.nil | exact Sel.all | exact Sel.left | refine Sel.cons Pick.here ?_ | refine Sel.cons (Pick.there Pick.here) ?_ | refine Sel.cons (Pick.there (Pick.there Pick.here)) ?_ | refine Sel.cons (Pick.there (Pick.there (Pick.there Pick.here))) ?_ | refine Sel.cons (Pick.there (Pick.there (Pick.there (Pick.there Pick.here)))) ?_ | refine Sel.cons (Pick.there (Pick.there (Pick.there (Pick.there (Pick.there Pick.here))))) ?_ | refine Sel.cons (Pick.there (Pick.there (Pick.there (Pick.there (Pick.there (Pick.there Pick.here)))))) ?_ | refine Sel.cons (Pick.there (Pick.there (Pick.there (Pick.there (Pick.there (Pick.there (Pick.there Pick.here))))))) ?_ | refine Sel.cons (Pick.there (Pick.there (Pick.there (Pick.there (Pick.there (Pick.there (Pick.there (Pick.there Pick.here)))))))) ?_ | refine Sel.cons (Pick.there (Pick.there (Pick.there (Pick.there (Pick.there (Pick.there (Pick.there (Pick.there (Pick.there Pick.here))))))))) ?_ | refine Sel.cons (Pick.there (Pick.there (Pick.there (Pick.there (Pick.there (Pick.there (Pick.there (Pick.there (Pick.there (Pick.there Pick.here)))))))))) ?_ | refine Sel.cons (Pick.there (Pick.there (Pick.there (Pick.there (Pick.there (Pick.there (Pick.there (Pick.there (Pick.there (Pick.there (Pick.there Pick.here))))))))))) ?_ | refine Sel.snoc Pick.here ?_ | refine Sel.snoc (Pick.there Pick.here) ?_ | refine Sel.snoc (Pick.there (Pick.there Pick.here)) ?_ | refine Sel.snoc (Pick.there (Pick.there (Pick.there Pick.here))) ?_ | refine Sel.snoc (Pick.there (Pick.there (Pick.there (Pick.there Pick.here)))) ?_ | refine Sel.snoc (Pick.there (Pick.there (Pick.there (Pick.there (Pick.there Pick.here))))) ?_ | refine Sel.snoc (Pick.there (Pick.there (Pick.there (Pick.there (Pick.there (Pick.there Pick.here)))))) ?_ | refine Sel.snoc (Pick.there (Pick.there (Pick.there (Pick.there (Pick.there (Pick.there (Pick.there Pick.here))))))) ?_ | refine Sel.snoc (Pick.there (Pick.there (Pick.there (Pick.there (Pick.there (Pick.there (Pick.there (Pick.there Pick.here)))))))) ?_ | refine Sel.snoc (Pick.there (Pick.there (Pick.there (Pick.there (Pick.there (Pick.there (Pick.there (Pick.there (Pick.there Pick.here))))))))) ?_ | refine Sel.snoc (Pick.there (Pick.there (Pick.there (Pick.there (Pick.there (Pick.there (Pick.there (Pick.there (Pick.there (Pick.there Pick.here)))))))))) ?_ | refine Sel.snoc (Pick.there (Pick.there (Pick.there (Pick.there (Pick.there (Pick.there (Pick.there (Pick.there (Pick.there (Pick.there (Pick.there Pick.here))))))))))) ?_ | refine Sel.drop ?_)), .inr ⟨rfl, rfl, j, hj, hb⟩⟩
    · rintro _ _ (⟨rfl, h⟩ | ⟨rfl, j, hj, h⟩)
      · conv => whnf
        refine eqS_rfl ?_
        conv => whnf
        refine eqS_rfl ?_
        conv => whnf
        refine ⟨by (first | exact Nat.le_refl _ | (simp only [addL_eq, addL_rec]; omega)), [(3, lopF Try.f41 0 b2 .ready none 28 [(1, .ptr 0 bf 0), (2, .ptr 1 br 0)] b1), (dfN, .dfr [b1]), (1, .own br 4 [.bool false]), (0, .own bf 24 [i64 W, i64 H, i64 o, .sl 1000 a n c]), (1000, roN a n c nf)], (by refine Sel.wk ?_; (try simp only [List.cons_append, List.nil_append]); repeat' (first | exact Sel.nil | exact Sel.all | exact Sel.left | refine Sel.cons Pick.here ?_ | refine Sel.cons (Pick.there Pick.here) ?_ | refine Sel.cons (Pick.there (Pick.there Pick.here)) ?_ | refine Sel.cons (Pick.there (Pick.there (Pick.there Pick.here))) ?_ | refine Sel.cons (Pick.there (Pick.there (Pick.there (Pick.there Pick.here)))) ?_ | refine Sel.cons (Pick.there (Pick.there (Pick.there (Pick.there (Pick.there Pick.here))))) ?_ | refine Sel.cons (Pick.there (Pick.there (Pick.there (Pick.there (Pick.there (Pick.there Pick.here)))))) ?_ | refine Sel.cons (Pick.there (Pick.there (Pick.there (Pick.there (Pick.there (Pick.there (Pick.there Pick.here))))))) ?_ | refine Sel.cons (Pick.there (Pick.there (Pick.there (Pick.there (Pick.there (Pick.there (Pick.there (Pick.there Pick.here)))))))) ?_ | refine Sel.cons (Pick.there (Pick.there (Pick.there (Pick.there (Pick.there (Pick.there (Pick.there (Pick.there (Pick.there Pick.here))))))))) ?_ | refine Sel.cons (Pick.there (Pick.there (Pick.there (Pick.there (Pick.there (Pick.there (Pick.there (Pick.there (Pick.there (Pick.there Pick.here)))))))))) ?_ | refine Sel.cons (Pick.there (Pick.there (Pick.there (Pick.there (Pick.there (Pick.there (Pick.there (Pick.there (Pick.there (Pick.there (Pick.there Pick.here))))))))))) ?_ | refine Sel.snoc Pick.here ?_ | refine Sel.snoc (Pick.there Pick.here) ?_ | refine Sel.snoc (Pick.there (Pick.there Pick.here)) ?_ | refine Sel.snoc (Pick.there (Pick.there (Pick.there Pick.here))) ?_ | refine Sel.snoc (Pick.there (Pick.there (Pick.there (Pick.there Pick.here)))) ?_ | refine Sel.snoc (Pick.there (Pick.there (Pick.there (Pick.there (Pick.there Pick.here))))) ?_ | refine Sel.snoc (Pick.there (Pick.there (Pick.there (Pick.there (Pick.there (Pick.there Pick.here)))))) ?_ | refine Sel.snoc (Pick.there (Pick.there (Pick.there (Pick.there (Pick.there (Pick.there (Pick.there Pick.here))))))) ?_ | refine Sel.snoc (Pick.there (Pick.there (Pick.there (Pick.there (Pick.there (Pick.there (Pick.there (Pick.there Pick.here)))))))) ?_ | refine Sel.snoc (Pick.there (Pick.there (Pick.there (Pick.there (Pick.there (Pick.there (Pick.there (Pick.there (Pick.there Pick.here))))))))) ?_ | refine Sel.snoc (Pick.there (Pick.there (Pick.there (Pick.there (Pick.there (Pick.there (Pick.there (Pick.there (Pick.there (Pick.there Pick.here)))))))))) ?_ | refine Sel.snoc (Pick.there (Pick.there (Pick.there (Pick.there (Pick.there (Pick.there (Pick.there (Pick.there (Pick.there (Pick.there (Pick.there Pick.here))))))))))) ?_ | refine Sel.drop ?_)), .inl ⟨rfl, rfl, fun q hq => ?_⟩⟩
        by_cases e : q = k
        · rw [e]; exact h
        · exact hok q (by omega)
      · conv => whnf
        refine eqS_rfl ?_
        conv => whnf
        refine eqS_rfl ?_
        conv => whnf
        exact ⟨by (first | exact Nat.le_refl _ | (simp only [addL_eq, addL_rec]; omega)), [(3, lopF Try.f41 0 b2 .done (some .ret) 28 [(1, .ptr 0 bf 0), (2, .ptr 1 br 0)] b1), (dfN, .dfr [b1]), (1, .own br 4 [.bool false]), (0, .own bf 24 [i64 W, i64 H, i64 o, .sl 1000 a n c]), (1000, roN a n c nf)], (by refine Sel.wk ?_; (try simp only [List.cons_append, List.nil_append]); repeat' (first | exact Sel.nil | exact Sel.all | exact Sel.left | refine Sel.cons Pick.here ?_ | refine Sel.cons (Pick.there Pick.here) ?_ | refine Sel.cons (Pick.there (Pick.there Pick.here)) ?_ | refine Sel.cons (Pick.there (Pick.there (Pick.there Pick.here))) ?_ | refine Sel.cons (Pick.there (Pick.there (Pick.there (Pick.there Pick.here)))) ?_ | refine Sel.cons (Pick.there (Pick.there (Pick.there (Pick.there (Pick.there Pick.here))))) ?_ | refine Sel.cons (Pick.there (Pick.there (Pick.there (Pick.there (Pick.there (Pick.there Pick.here)))))) ?_ | refine Sel.cons (Pick.there (Pick.there (Pick.there (Pick.there (Pick.there (Pick.there (Pick.there Pick.here))))))) ?_ | refine Sel.cons (Pick.there (Pick.there (Pick.there (Pick.there (Pick.there (Pick.there (Pick.there (Pick.there Pick.here)))))))) ?_ | refine Sel.cons (Pick.there (Pick.there (Pick.there (Pick.there (Pick.there (Pick.there (Pick.there (Pick.there (Pick.there Pick.here))))))))) ?_ | refine Sel.cons (Pick.there (Pick.there (Pick.there (Pick.there (Pick.there (Pick.there (Pick.there (Pick.there (Pick.there (Pick.there Pick.here)))))))))) ?_ | refine Sel.cons (Pick.there (Pick.there (Pick.there (Pick.there (Pick.there (Pick.there (Pick.there (Pick.there (Pick.there (Pick.there (Pick.there Pick.here))))))))))) ?_ | refine Sel.snoc Pick.here ?_ | refine Sel.snoc (Pick.there Pick.here) ?_ | refine Sel.snoc (Pick.there (Pick.there Pick.here)) ?_ | refine Sel.snoc (Pick.there (Pick.there (Pick.there Pick.here))) ?_ | refine Sel.snoc (Pick.there (Pick.there (Pick.there (Pick.there Pick.here)))) ?_ | refine Sel.snoc (Pick.there (Pick.there (Pick.there (Pick.there (Pick.there Pick.here))))) ?_ | refine Sel.snoc (Pick.there (Pick.there (Pick.there (Pick.there (Pick.there (Pick.there Pick.here)))))) ?_ | refine Sel.snoc (Pick.there (Pick.there (Pick.there (Pick.there (Pick.there (Pick.there (Pick.there Pick.here))))))) ?_ | refine Sel.snoc (Pick.there (Pick.there (Pick.there (Pick.there (Pick.there (Pick.there (Pick.there (Pick.there Pick.here)))))))) ?_ | refine Sel.snoc (Pick.there (Pick.there (Pick.there (Pick.there (Pick.there (Pick.there (Pick.there (Pick.there (Pick.there Pick.here))))))))) ?_ | refine Sel.snoc (Pick.there (Pick.there (Pick.there (Pick.there (Pick.there (Pick.there (Pick.there (Pick.there (Pick.there (Pick.there Pick.here)))))))))) ?_ | refine Sel.snoc (Pick.there (Pick.there (Pick.there (Pick.there (Pick.there (Pick.there (Pick.there (Pick.there (Pick.there (Pick.there (Pick.there Pick.here))))))))))) ?_ | refine Sel.drop ?_)), .inr ⟨rfl, rfl, k, hk, j, hj, h⟩⟩
  · rintro _ _ (⟨rfl, h⟩ | ⟨rfl, k, hk, j, hj, h⟩)
    · repeat' ((conv => whnf); first
               | refine eqS_rfl ?_
               | refine eqA_rfl ?_
               | refine eqA_of (by assumption) ?_
               | refine eqS_of (by rfl) ?_
               | refine eqL_rfl ?_
               | refine eqJ_rfl ?_
               | refine flE_intro (fun _ _ => rfl) ?_
               | refine seS_rfl ?_
               | refine brS_tt ?_
               | refine brS_ff ?_
               | refine brS_not ?_
               | refine brS_t (iEq_self _) ?_
               | refine brS_t (by assumption) ?_
               | refine brS_f (by assumption) ?_
               | refine brS_intro (fun _ => ?_) (fun _ => ?_)
               | refine ltS_intro (by first | assumption | decide | exact Nat.le_of_ble_eq_true rfl | omega) ?_
               | refine ixS_of rfl (by first | assumption | decide | omega) ?_
               | refine okS_intro (by first | assumption | kernel_rfl) ?_
               | refine nzS_intro (by first | decide | assumption) ?_
               | intro _)
      conv => whnf
      exact ⟨congrArg Value.bool (all_t fun k hk => all_t fun j hj => h k hk j hj).symm, by (first | exact Nat.le_refl _ | (simp only [addL_eq, addL_rec]; omega))⟩
    · repeat' ((conv => whnf); first
               | refine eqS_rfl ?_
               | refine eqA_rfl ?_
               | refine eqA_of (by assumption) ?_
               | refine eqS_of (by rfl) ?_
               | refine eqL_rfl ?_
               | refine eqJ_rfl ?_
               | refine flE_intro (fun _ _ => rfl) ?_
               | refine seS_rfl ?_
               | refine brS_tt ?_
               | refine brS_ff ?_
               | refine brS_not ?_
               | refine brS_t (iEq_self _) ?_
               | refine brS_t (by assumption) ?_
               | refine brS_f (by assumption) ?_
               | refine brS_intro (fun _ => ?_) (fun _ => ?_)
               | refine ltS_intro (by first | assumption | decide | exact Nat.le_of_ble_eq_true rfl | omega) ?_
               | refine ixS_of rfl (by first | assumption | decide | omega) ?_
               | refine okS_intro (by first | assumption | kernel_rfl) ?_
               | refine nzS_intro (by first | decide | assumption) ?_
               | intro _)
      conv => whnf
      exact ⟨congrArg Value.bool (all_f hk (all_f hj h)).symm, by (first | exact Nat.le_refl _ | (simp only [addL_eq, addL_rec]; omega))⟩
end Go.Proofs.Ytbpdmbgkoijfbaa
