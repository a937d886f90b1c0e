/- Ore: Index and Ore of both, and OreIndices. -/
import Derived.Test.YtbpdmbgkoijfbaaOrK
import Derived.KernelRfl
namespace Go.Proofs.Ytbpdmbgkoijfbaa
open Go.Ab
attribute [local irreducible] aggOk drwOK
set_option maxRecDepth 100000
set_option maxHeartbeats 4000000
set_option linter.unusedVariables false
set_option linter.unusedSimpArgs false
theorem c20_e (F d : Nat) (e : Int) (he : e ≠ 0) (W H o : Int) (a : Option Addr) (n c : Nat) (nf : Nat → Int) (x y w h : Int) (h17 : ReadC (CL F (d + 8)) 17 [fld W H o a n c] [(1000, roN a n c nf)] (66000 + 100) (i64 e)) : ReadC (CL F (d + 9)) 20 [fld W H o a n c, bl x y w h] [(1000, roN a n c nf)] (75000 + 100) (.tup [i64 0, i64 e]) := by
  have de : iEq e 0 = false := by rw [iEq_eq]; exact decide_eq_false he
  intro R
  rw [show 75000 + 100 = (75000) + 100 from rfl, addL_eq, ← Nat.add_assoc, ← addL_eq _ 100]
  refine call_in (n := 19) Try.func20 rfl rfl rfl rfl rfl rfl rfl ?_
  repeat' ((conv => whnf); first
           | refine eqS_rfl ?_
           | refine eqA_rfl ?_
           | refine eqA_of (by assumption) ?_
           | refine eqS_of (by rfl) ?_
           | refine eqL_rfl ?_
           | refine eqJ_rfl ?_
           | refine flE_intro (fun _ _ => rfl) ?_
           | refine seS_rfl ?_
           | refine brS_tt ?_
           | refine brS_ff ?_
           | refine brS_not ?_
           | refine brS_t (iEq_self _) ?_
           | refine brS_t (by assumption) ?_
           | refine brS_f (by assumption) ?_
           | refine brS_intro (fun _ => ?_) (fun _ => ?_)
           | refine ltS_intro (by first | assumption | decide | exact Nat.le_of_ble_eq_true rfl | omega) ?_
           | refine ixS_of rfl (by first | assumption | decide | omega) ?_
           | refine okS_intro (by first | assumption | kernel_rfl) ?_
           | refine nzS_intro (by first | decide | assumption) ?_
           | refine call_readL h17 (addL R 50) (by rfl) (by exact SeesM.cons 1000 (sees_ro (i := 1000) (by rfl)) (SeesM.nil _) (fun _ _ _ _ _ _ x hx => by cases hx)) (by (first | exact Nat.le_refl _ | (simp only [addL_eq, addL_rec]; omega))) ?_
           | intro _)
  conv => whnf
  exact ⟨rfl, by (first | exact Nat.le_refl _ | (simp only [addL_eq, addL_rec]; omega))⟩
theorem c20_ok (F d : Nat) (hF : 100 < F) (W H : Nat) (o : Int) (a : Option Addr) (n c : Nat) (nf : Nat → Int) (x y w h : Nat) (hD : ∀ j, Dir (nf j)) (hW : W ≤ 9) (hH : H ≤ 9) (hn : n = W * H) (hx : x + w < W) (hy : y + h < H) (hw : 1 ≤ w) (hh : 1 ≤ h) (h17 : ReadC (CL F (d + 8)) 17 [fld W H o a n c] [(1000, roN a n c nf)] (66000 + 100) (i64 0)) : ReadC (CL F (d + 9)) 20 [fld W H o a n c, bl x y w h] [(1000, roN a n c nf)] (75000 + 100) (.tup [i64 ((bsum (grid nf W) x y w h).tdiv 3600), i64 0]) := by
  have dg : decide (goodP W H x y w h) = true := decide_eq_true ⟨by omega, by omega, by omega, by omega⟩
  intro R
  rw [show 75000 + 100 = (75000) + 100 from rfl, addL_eq, ← Nat.add_assoc, ← addL_eq _ 100]
  refine call_in (n := 19) Try.func20 rfl rfl rfl rfl rfl rfl rfl ?_
  repeat' ((conv => whnf); first
           | refine eqS_rfl ?_
           | refine eqA_rfl ?_
           | refine eqA_of (by assumption) ?_
           | refine eqS_of (by rfl) ?_
           | refine eqL_rfl ?_
           | refine eqJ_rfl ?_
           | refine flE_intro (fun _ _ => rfl) ?_
           | refine seS_rfl ?_
           | refine brS_tt ?_
           | refine brS_ff ?_
           | refine brS_not ?_
           | refine brS_t (iEq_self _) ?_
           | refine brS_t (by assumption) ?_
           | refine brS_f (by assumption) ?_
           | refine brS_intro (fun _ => ?_) (fun _ => ?_)
           | refine ltS_intro (by first | assumption | decide | exact Nat.le_of_ble_eq_true rfl | omega) ?_
           | refine ixS_of rfl (by first | assumption | decide | omega) ?_
           | refine okS_intro (by first | assumption | kernel_rfl) ?_
           | refine nzS_intro (by first | decide | assumption) ?_
           | refine call_readL h17 (addL (R + 8000) 50) (by rfl) (by exact SeesM.cons 1000 (sees_ro (i := 1000) (by rfl)) (SeesM.nil _) (fun _ _ _ _ _ _ x hx => by cases hx)) (by (first | exact Nat.le_refl _ | (simp only [addL_eq, addL_rec]; omega))) ?_
           | refine call_pure (c43 F _ W H o a n c x y w h (by omega) (by omega)) ?_
           | refine call_readL (c44 F (d + 3) hF W H x y w h o a n c nf hD (by omega) (by omega) hx hy hn) (addL R 10) (by rfl) (by exact SeesM.cons 1000 (sees_ro (i := 1000) (by rfl)) (SeesM.nil _) (fun _ _ _ _ _ _ x hx => by cases hx)) (by (first | exact Nat.le_refl _ | (simp only [addL_eq, addL_rec]; omega))) ?_
           | intro _)
  conv => whnf
  exact ⟨rfl, by (first | exact Nat.le_refl _ | (simp only [addL_eq, addL_rec]; omega))⟩
theorem c20_r (F d : Nat) (W H : Nat) (o : Int) (a : Option Addr) (n c : Nat) (nf : Nat → Int) (x y w h : Int) (hW : W ≤ 9) (hH : H ≤ 9) (hg : ¬ goodP W H x y w h) (h17 : ReadC (CL F (d + 8)) 17 [fld W H o a n c] [(1000, roN a n c nf)] (66000 + 100) (i64 0)) : ReadC (CL F (d + 9)) 20 [fld W H o a n c, bl x y w h] [(1000, roN a n c nf)] (75000 + 100) (.tup [i64 0, i64 1]) := by
  have dg : decide (goodP W H x y w h) = false := decide_eq_false hg
  intro R
  rw [show 75000 + 100 = (75000) + 100 from rfl, addL_eq, ← Nat.add_assoc, ← addL_eq _ 100]
  refine call_in (n := 19) Try.func20 rfl rfl rfl rfl rfl rfl rfl ?_
  repeat' ((conv => whnf); first
           | refine eqS_rfl ?_
           | refine eqA_rfl ?_
           | refine eqA_of (by assumption) ?_
           | refine eqS_of (by rfl) ?_
           | refine eqL_rfl ?_
           | refine eqJ_rfl ?_
           | refine flE_intro (fun _ _ => rfl) ?_
           | refine seS_rfl ?_
           | refine brS_tt ?_
           | refine brS_ff ?_
           | refine brS_not ?_
           | refine brS_t (iEq_self _) ?_
           | refine brS_t (by assumption) ?_
           | refine brS_f (by assumption) ?_
           | refine brS_intro (fun _ => ?_) (fun _ => ?_)
           | refine ltS_intro (by first | assumption | decide | exact Nat.le_of_ble_eq_true rfl | omega) ?_
           | refine ixS_of rfl (by first | assumption | decide | omega) ?_
           | refine okS_intro (by first | assumption | kernel_rfl) ?_
           | refine nzS_intro (by first | decide | assumption) ?_
           | refine call_readL h17 (addL (R + 8000) 50) (by rfl) (by exact SeesM.cons 1000 (sees_ro (i := 1000) (by rfl)) (SeesM.nil _) (fun _ _ _ _ _ _ x hx => by cases hx)) (by (first | exact Nat.le_refl _ | (simp only [addL_eq, addL_rec]; omega))) ?_
           | refine call_pure (c43 F _ W H o a n c x y w h (by omega) (by omega)) ?_
           | intro _)
  conv => whnf
  exact ⟨rfl, by (first | exact Nat.le_refl _ | (simp only [addL_eq, addL_rec]; omega))⟩
theorem c21_e (F d : Nat) (e : Int) (he : e ≠ 0) (W H o : Int) (a : Option Addr) (n c : Nat) (nf : Nat → Int) (x y w h : Int) (h18 : ReadC (CL F (d + 8)) 18 [fld W H o a n c] [(1000, roN a n c nf)] (66000 + 100) (i64 e)) : ReadC (CL F (d + 9)) 21 [fld W H o a n c, bl x y w h] [(1000, roN a n c nf)] (75000 + 100) (.tup [i64 0, i64 e]) := by
  have de : iEq e 0 = false := by rw [iEq_eq]; exact decide_eq_false he
  intro R
  rw [show 75000 + 100 = (75000) + 100 from rfl, addL_eq, ← Nat.add_assoc, ← addL_eq _ 100]
  refine call_in (n := 23) Try.func21 rfl rfl rfl rfl rfl rfl rfl ?_
  repeat' ((conv => whnf); first
           | refine eqS_rfl ?_
           | refine eqA_rfl ?_
           | refine eqA_of (by assumption) ?_
           | refine eqS_of (by rfl) ?_
           | refine eqL_rfl ?_
           | refine eqJ_rfl ?_
           | refine flE_intro (fun _ _ => rfl) ?_
           | refine seS_rfl ?_
           | refine brS_tt ?_
           | refine brS_ff ?_
           | refine brS_not ?_
           | refine brS_t (iEq_self _) ?_
           | refine brS_t (by assumption) ?_
           | refine brS_f (by assumption) ?_
           | refine brS_intro (fun _ => ?_) (fun _ => ?_)
           | refine ltS_intro (by first | assumption | decide | exact Nat.le_of_ble_eq_true rfl | omega) ?_
           | refine ixS_of rfl (by first | assumption | decide | omega) ?_
           | refine okS_intro (by first | assumption | kernel_rfl) ?_
           | refine nzS_intro (by first | decide | assumption) ?_
           | refine call_readL h18 (addL R 50) (by rfl) (by exact SeesM.cons 1000 (sees_ro (i := 1000) (by rfl)) (SeesM.nil _) (fun _ _ _ _ _ _ x hx => by cases hx)) (by (first | exact Nat.le_refl _ | (simp only [addL_eq, addL_rec]; omega))) ?_
           | intro _)
  conv => whnf
  exact ⟨rfl, by (first | exact Nat.le_refl _ | (simp only [addL_eq, addL_rec]; omega))⟩
theorem c21_ok (F d : Nat) (hF : 100 < F) (W H : Nat) (o : Int) (a : Option Addr) (n c : Nat) (nf : Nat → Int) (x y w h : Nat) (hD : ∀ j, Dir (nf j)) (hs : Sure (grid nf W) W H) (hW : W ≤ 9) (hH : H ≤ 9) (hn : n = W * H) (hx : x + w < W) (hy : y + h < H) (hw : 1 ≤ w) (hh : 1 ≤ h) (h18 : ReadC (CL F (d + 8)) 18 [fld W H o a n c] [(1000, roN a n c nf)] (66000 + 100) (i64 0)) : ReadC (CL F (d + 9)) 21 [fld W H o a n c, bl x y w h] [(1000, roN a n c nf)] (75000 + 100) (.tup [i64 ((bsum (grid nf W) x y w h).tdiv 3600), i64 0]) := by
  have dg : decide (goodP W H x y w h) = true := decide_eq_true ⟨by omega, by omega, by omega, by omega⟩
  intro R
  rw [show 75000 + 100 = (75000) + 100 from rfl, addL_eq, ← Nat.add_assoc, ← addL_eq _ 100]
  refine call_in (n := 23) Try.func21 rfl rfl rfl rfl rfl rfl rfl ?_
  repeat' ((conv => whnf); first
           | refine eqS_rfl ?_
           | refine eqA_rfl ?_
           | refine eqA_of (by assumption) ?_
           | refine eqS_of (by rfl) ?_
           | refine eqL_rfl ?_
           | refine eqJ_rfl ?_
           | refine flE_intro (fun _ _ => rfl) ?_
           | refine seS_rfl ?_
           | refine brS_tt ?_
           | refine brS_ff ?_
           | refine brS_not ?_
           | refine brS_t (iEq_self _) ?_
           | refine brS_t (by assumption) ?_
           | refine brS_f (by assumption) ?_
           | refine brS_intro (fun _ => ?_) (fun _ => ?_)
           | refine ltS_intro (by first | assumption | decide | exact Nat.le_of_ble_eq_true rfl | omega) ?_
           | refine ixS_of rfl (by first | assumption | decide | omega) ?_
           | refine okS_intro (by first | assumption | kernel_rfl) ?_
           | refine nzS_intro (by first | decide | assumption) ?_
           | refine call_readL h18 (addL (R + 8000) 50) (by rfl) (by exact SeesM.cons 1000 (sees_ro (i := 1000) (by rfl)) (SeesM.nil _) (fun _ _ _ _ _ _ x hx => by cases hx)) (by (first | exact Nat.le_refl _ | (simp only [addL_eq, addL_rec]; omega))) ?_
           | refine call_pure (c45 F _ W H o a n c x y w h (by omega) (by omega)) ?_
           | refine call_readL (c46 F (d + 6) hF W H x y w h o a n c nf hD hs (by omega) (by omega) hx hy hn) (addL R 10) (by rfl) (by exact SeesM.cons 1000 (sees_ro (i := 1000) (by rfl)) (SeesM.nil _) (fun _ _ _ _ _ _ x hx => by cases hx)) (by (first | exact Nat.le_refl _ | (simp only [addL_eq, addL_rec]; omega))) ?_
           | intro _)
  conv => whnf
  exact ⟨rfl, by (first | exact Nat.le_refl _ | (simp only [addL_eq, addL_rec]; omega))⟩
theorem c21_r (F d : Nat) (W H : Nat) (o : Int) (a : Option Addr) (n c : Nat) (nf : Nat → Int) (x y w h : Int) (hW : W ≤ 9) (hH : H ≤ 9) (hg : ¬ goodP W H x y w h) (h18 : ReadC (CL F (d + 8)) 18 [fld W H o a n c] [(1000, roN a n c nf)] (66000 + 100) (i64 0)) : ReadC (CL F (d + 9)) 21 [fld W H o a n c, bl x y w h] [(1000, roN a n c nf)] (75000 + 100) (.tup [i64 0, i64 1]) := by
  have dg : decide (goodP W H x y w h) = false := decide_eq_false hg
  intro R
  rw [show 75000 + 100 = (75000) + 100 from rfl, addL_eq, ← Nat.add_assoc, ← addL_eq _ 100]
  refine call_in (n := 23) Try.func21 rfl rfl rfl rfl rfl rfl rfl ?_
  repeat' ((conv => whnf); first
           | refine eqS_rfl ?_
           | refine eqA_rfl ?_
           | refine eqA_of (by assumption) ?_
           | refine eqS_of (by rfl) ?_
           | refine eqL_rfl ?_
           | refine eqJ_rfl ?_
           | refine flE_intro (fun _ _ => rfl) ?_
           | refine seS_rfl ?_
           | refine brS_tt ?_
           | refine brS_ff ?_
           | refine brS_not ?_
           | refine brS_t (iEq_self _) ?_
           | refine brS_t (by assumption) ?_
           | refine brS_f (by assumption) ?_
           | refine brS_intro (fun _ => ?_) (fun _ => ?_)
           | refine ltS_intro (by first | assumption | decide | exact Nat.le_of_ble_eq_true rfl | omega) ?_
           | refine ixS_of rfl (by first | assumption | decide | omega) ?_
           | refine okS_intro (by first | assumption | kernel_rfl) ?_
           | refine nzS_intro (by first | decide | assumption) ?_
           | refine call_readL h18 (addL (R + 8000) 50) (by rfl) (by exact SeesM.cons 1000 (sees_ro (i := 1000) (by rfl)) (SeesM.nil _) (fun _ _ _ _ _ _ x hx => by cases hx)) (by (first | exact Nat.le_refl _ | (simp only [addL_eq, addL_rec]; omega))) ?_
           | refine call_pure (c45 F _ W H o a n c x y w h (by omega) (by omega)) ?_
           | intro _)
  conv => whnf
  exact ⟨rfl, by (first | exact Nat.le_refl _ | (simp only [addL_eq, addL_rec]; omega))⟩
end Go.Proofs.Ytbpdmbgkoijfbaa
namespace Go.Proofs.Ytbpdmbgkoijfbaa
open Go.Ab
attribute [local irreducible] aggOk drwOK
set_option maxRecDepth 100000
set_option maxHeartbeats 4000000
set_option linter.unusedVariables false
set_option linter.unusedSimpArgs false
/-- the index of the k-th cell -/
def ixk (g : Grid) (W1 k : Nat) : Int := (bsum g (0 + k % W1) (0 + k / W1) 1 1).tdiv 3600
def hits (g : Grid) (W1 k : Nat) : List Nat := (List.range k).filter fun q => decide (ixk g W1 q ≠ 0)
def cl22 (W1 k : Nat) : List SV := [i64 (0 + k % W1 : Nat), i64 (0 + k / W1 : Nat), i64 1, i64 1]
theorem hits_t {g : Grid} {W1 k : Nat} (h : ixk g W1 k ≠ 0) : hits g W1 (k + 1) = hits g W1 k ++ [k] := by
  unfold hits; rw [List.range_succ, List.filter_append, List.filter_cons, decide_eq_true h]; rfl
theorem hits_f {g : Grid} {W1 k : Nat} (h : ixk g W1 k = 0) : hits g W1 (k + 1) = hits g W1 k := by
  unfold hits; rw [List.range_succ, List.filter_append, List.filter_cons, decide_eq_false (fun e => e h)]; exact List.append_nil _
theorem hits_len (g : Grid) (W1 k : Nat) : (hits g W1 k).length ≤ k := by
  have := List.length_filter_le (fun q => decide (ixk g W1 q ≠ 0)) (List.range k)
  rw [List.length_range] at this; exact this
theorem grow_snoc {F1 : Nat → List SV} {sz n k : Nat} {l : List Nat} (hn : n = l.length) (h : (F1 k).length = sz) : ∀ j, j < n + 1 → grow n sz (fun j => F1 (l.getD j 0)) (F1 k) j = F1 ((l ++ [k]).getD j 0) := fun j hj => by
  subst hn
  unfold grow
  by_cases hjn : j < l.length
  · rw [blt_of hjn, cond_true]
    show F1 (l.getD j 0) = _
    rw [List.getD_eq_getElem?_getD, List.getD_eq_getElem?_getD, List.getElem?_append_left hjn]
  · have e : j = l.length := by omega
    subst e
    have hb : Nat.blt l.length l.length = false := by
      cases hh : Nat.blt l.length l.length with
      | false => rfl
      | true => have := blt_true hh; omega
    rw [hb, cond_false]
    show List.take sz (List.drop ((l.length - l.length) * sz) (F1 k)) = _
    rw [Nat.sub_self, Nat.zero_mul, List.drop_zero, ← h, List.take_length]
    simp [List.getD_eq_getElem?_getD]
abbrev fC (W1 : Nat) (l : List Nat) : Nat → List SV := fun j => cl22 W1 (l.getD j 0)
abbrev fX (g : Grid) (W1 : Nat) (l : List Nat) : Nat → List SV := fun j => [i64 (ixk g W1 (l.getD j 0))]
/-- what Ore gives: two lists of its own -/
def Q22 (i e : Nat) (g : Grid) (W1 : Nat) (l : List Nat) (w0 : SV) (mf : Mem) : Prop := ∃ a1 a2, w0 = .tup [.sl i a1 l.length l.length, .sl (i + 1) a2 l.length l.length, i64 0] ∧ mf = [(i, .gr a1 l.length e 4 (fC W1 l)), (i + 1, .gr a2 l.length 3 1 (fX g W1 l))]
theorem c22_e (F d : Nat) (e : Int) (he : e ≠ 0) (W H o : Int) (a : Option Addr) (n c : Nat) (nf : Nat → Int) (h17 : ReadC (CL F (d + 8)) 17 [fld W H o a n c] [(1000, roN a n c nf)] (66000 + 100) (i64 e)) : ReadC (CL F (d + 9)) 22 [fld W H o a n c] [(1000, roN a n c nf)] (75000 + 100) (.tup [.val (.slice none 0 0), .val (.slice none 0 0), i64 e]) := by
  have de : iEq e 0 = false := by rw [iEq_eq]; exact decide_eq_false he
  intro R
  rw [show 75000 + 100 = (75000) + 100 from rfl, addL_eq, ← Nat.add_assoc, ← addL_eq _ 100]
  refine call_in (n := 34) Try.func22 rfl rfl rfl rfl rfl rfl rfl ?_
  repeat' ((conv => whnf); first
           | refine eqS_rfl ?_
           | refine eqA_rfl ?_
           | refine eqA_of (by assumption) ?_
           | refine eqS_of (by rfl) ?_
           | refine eqL_rfl ?_
           | refine eqJ_rfl ?_
           | refine flE_intro (fun _ _ => rfl) ?_
           | refine seS_rfl ?_
           | refine brS_tt ?_
           | refine brS_ff ?_
           | refine brS_not ?_
           | refine brS_t (iEq_self _) ?_
           | refine brS_t (by assumption) ?_
           | refine brS_f (by assumption) ?_
           | refine brS_intro (fun _ => ?_) (fun _ => ?_)
           | refine ltS_intro (by first | assumption | decide | exact Nat.le_of_ble_eq_true rfl | omega) ?_
           | refine ixS_of rfl (by first | assumption | decide | omega) ?_
           | refine okS_intro (by first | assumption | kernel_rfl) ?_
           | refine nzS_intro (by first | decide | assumption) ?_
           | refine call_readL h17 (addL R 50) (by rfl) (by exact SeesM.cons 1000 (sees_ro (i := 1000) (by rfl)) (SeesM.nil _) (fun _ _ _ _ _ _ x hx => by cases hx)) (by (first | exact Nat.le_refl _ | (simp only [addL_eq, addL_rec]; omega))) ?_
           | intro _)
  conv => whnf
  exact ⟨rfl, by (first | exact Nat.le_refl _ | (simp only [addL_eq, addL_rec]; omega))⟩
theorem c22_ok (F d : Nat) (hF : 100 < F) (i : Nat) (W H : Nat) (o : Int) (a : Option Addr) (n c : Nat) (nf : Nat → Int) (hD : ∀ j, Dir (nf j)) (hW : 2 ≤ W ∧ W ≤ 9) (hH : 2 ≤ H ∧ H ≤ 9) (hn : n = W * H) (h17 : ReadC (CL F (d + 8)) 17 [fld W H o a n c] [(1000, roN a n c nf)] (66000 + 100) (i64 0)) (R : Nat) :
    callS (CL F (d + 9)) (.fn 22 [] []) [fld W H o a n c] [(1000, roN a n c nf)] (addL R (180000 + 100)) 0 fun w m' R' _ => (∃ w0 mf, Q22 i 35 (grid nf W) (W - 1) (hits (grid nf W) (W - 1) ((W - 1) * (H - 1))) w0 mf ∧ den w = den w0 ∧ WkM m' mf) ∧ R ≤ R' := by
  have hWH1 : (W - 1) * (H - 1) ≤ 8 * 8 := Nat.mul_le_mul (by omega) (by omega)
  rw [show 180000 + 100 = (180000) + 100 from rfl, addL_eq, ← Nat.add_assoc, ← addL_eq _ 100]
  refine call_in (n := 34) Try.func22 rfl rfl rfl rfl rfl rfl rfl ?_
  repeat' ((conv => whnf); first
           | refine eqS_rfl ?_
           | refine eqA_rfl ?_
           | refine eqA_of (by assumption) ?_
           | refine eqS_of (by rfl) ?_
           | refine eqL_rfl ?_
           | refine eqJ_rfl ?_
           | refine flE_intro (fun _ _ => rfl) ?_
           | refine seS_rfl ?_
           | refine brS_tt ?_
           | refine brS_ff ?_
           | refine brS_not ?_
           | refine brS_t (iEq_self _) ?_
           | refine brS_t (by assumption) ?_
           | refine brS_f (by assumption) ?_
           | refine brS_intro (fun _ => ?_) (fun _ => ?_)
           | refine ltS_intro (by first | assumption | decide | exact Nat.le_of_ble_eq_true rfl | omega) ?_
           | refine ixS_of rfl (by first | assumption | decide | omega) ?_
           | refine okS_intro (by first | assumption | kernel_rfl) ?_
           | refine nzS_intro (by first | decide | assumption) ?_
           | refine call_readL h17 (addL (R + 100000) 50) (by rfl) (by exact SeesM.cons 1000 (sees_ro (i := 1000) (by rfl)) (SeesM.nil _) (fun _ _ _ _ _ _ x hx => by cases hx)) (by (first | exact Nat.le_refl _ | (simp only [addL_eq, addL_rec]; omega))) ?_
           | refine call_pure (c47 F _ W H o a n c (by omega) (by omega)) ?_
           | refine call_in (n := 4) Try.func48 rfl rfl rfl rfl rfl rfl rfl ?_
           | intro _)
  rename_i bf bo bi bq b1 b2
  refine call_iter (c58 F (d + 6) 1500 hF bq 0 0 (W - 1) (H - 1) (by omega) (by omega)) (fun k m => ∃ (l : List Nat) (a1 a2 : Option Addr), l = hits (grid nf W) (W - 1) k ∧ ∃ n2 : Nat, n2 = l.length ∧ m = [(4, lopF Try.f22 0 b2 .ready none 34 [(1, .ptr 0 bf 0), (6, .ptr 1 bo 0), (7, .ptr 2 bi 0)] b1), (dfN, .dfr [b1]), (1, .own bo 39 [.sl 600 a1 n2 n2]), (2, .own bi 22 [.sl 601 a2 n2 n2]), (0, .own bf 24 [i64 W, i64 H, i64 o, .sl 1000 a n c]), (600, .gr a1 n2 35 4 (fun j => cl22 (W - 1) ((l).getD j 0))), (601, .gr a2 n2 3 1 (fun j => [i64 (ixk (grid nf W) (W - 1) ((l).getD j 0))])), (1000, roN a n c nf)]) (fun _ => False) [(4, lopF Try.f22 0 b2 .ready none 34 [(1, .ptr 0 bf 0), (6, .ptr 1 bo 0), (7, .ptr 2 bi 0)] b1), (dfN, .dfr [b1]), (1, .own bo 39 [.sl 600 none 0 0]), (2, .own bi 22 [.sl 601 none 0 0]), (0, .own bf 24 [i64 W, i64 H, i64 o, .sl 1000 a n c]), (600, .gr none 0 35 4 (fun j => cl22 (W - 1) (([]).getD j 0))), (601, .gr none 0 3 1 (fun j => [i64 (ixk (grid nf W) (W - 1) (([]).getD j 0))])), (1000, roN a n c nf)] (addL R 200) (by rfl) (by exact WkM.trans (m2 := [(4, lopF Try.f22 0 b2 .ready none 34 [(1, .ptr 0 bf 0), (6, .ptr 1 bo 0), (7, .ptr 2 bi 0)] b1), (dfN, .dfr [b1]), (1, .own bo 39 [.val (.slice none 0 0)]), (2, .own bi 22 [.val (.slice none 0 0)]), (0, .own bf 24 [i64 W, i64 H, i64 o, .sl 1000 a n c]), (1000, roN a n c nf), (900, .own bq 35 [i64 (0 : Nat), i64 (0 : Nat), i64 (W - 1 : Nat), i64 (H - 1 : Nat)])]) ((WkM.lop (i := 4) (j := 4) (f' := [(1, .ptr 0 bf 0), (6, .ptr 1 bo 0), (7, .ptr 2 bi 0)]) ⟨eqF_rfl _, eqF_rfl _, eqF_rfl _, trivial⟩ (WkM.refl _)).trans (by refine Sel.wk ?_; (try simp only [List.cons_append, List.nil_append]); repeat' (first | exact Sel.nil | exact Sel.all | exact Sel.left | refine Sel.cons Pick.here ?_ | refine Sel.cons (Pick.there Pick.here) ?_ | refine Sel.cons (Pick.there (Pick.there Pick.here)) ?_ | refine Sel.cons (Pick.there (Pick.there (Pick.there Pick.here))) ?_ | refine Sel.cons (Pick.there (Pick.there (Pick.there (Pick.there Pick.here)))) ?_ | refine Sel.cons (Pick.there (Pick.there (Pick.there (Pick.there (Pick.there Pick.here))))) ?_ | refine Sel.cons (Pick.there (Pick.there (Pick.there (Pick.there (Pick.there (Pick.there Pick.here)))))) ?_ | refine Sel.cons (Pick.there (Pick.there (Pick.there (Pick.there (Pick.there (Pick.there (Pick.there Pick.here))))))) ?_ | refine Sel.cons (Pick.there (Pick.there (Pick.there (Pick.there (Pick.there (Pick.there (Pick.there (Pick.there Pick.here)))))))) ?_ | refine Sel.cons (Pick.there (Pick.there (Pick.there (Pick.there (Pick.there (Pick.there (Pick.there (Pick.there (Pick.there Pick.here))))))))) ?_ | refine Sel.cons (Pick.there (Pick.there (Pick.there (Pick.there (Pick.there (Pick.there (Pick.there (Pick.there (Pick.there (Pick.there Pick.here)))))))))) ?_ | refine Sel.cons (Pick.there (Pick.there (Pick.there (Pick.there (Pick.there (Pick.there (Pick.there (Pick.there (Pick.there (Pick.there (Pick.there Pick.here))))))))))) ?_ | refine Sel.consw Pick.here ⟨rfl, rfl, rfl⟩ ?_ | refine Sel.consw (Pick.there Pick.here) ⟨rfl, rfl, rfl⟩ ?_ | refine Sel.consw (Pick.there (Pick.there Pick.here)) ⟨rfl, rfl, rfl⟩ ?_ | refine Sel.consw (Pick.there (Pick.there (Pick.there Pick.here))) ⟨rfl, rfl, rfl⟩ ?_ | refine Sel.consw (Pick.there (Pick.there (Pick.there (Pick.there Pick.here)))) ⟨rfl, rfl, rfl⟩ ?_ | refine Sel.consw (Pick.there (Pick.there (Pick.there (Pick.there (Pick.there Pick.here))))) ⟨rfl, rfl, rfl⟩ ?_ | refine Sel.consw (Pick.there (Pick.there (Pick.there (Pick.there (Pick.there (Pick.there Pick.here)))))) ⟨rfl, rfl, rfl⟩ ?_ | refine Sel.consw (Pick.there (Pick.there (Pick.there (Pick.there (Pick.there (Pick.there (Pick.there Pick.here))))))) ⟨rfl, rfl, rfl⟩ ?_ | refine Sel.consw (Pick.there (Pick.there (Pick.there (Pick.there (Pick.there (Pick.there (Pick.there (Pick.there Pick.here)))))))) ⟨rfl, rfl, rfl⟩ ?_ | refine Sel.consw (Pick.there (Pick.there (Pick.there (Pick.there (Pick.there (Pick.there (Pick.there (Pick.there (Pick.there Pick.here))))))))) ⟨rfl, rfl, rfl⟩ ?_ | refine Sel.consw (Pick.there (Pick.there (Pick.there (Pick.there (Pick.there (Pick.there (Pick.there (Pick.there (Pick.there (Pick.there Pick.here)))))))))) ⟨rfl, rfl, rfl⟩ ?_ | refine Sel.consw (Pick.there (Pick.there (Pick.there (Pick.there (Pick.there (Pick.there (Pick.there (Pick.there (Pick.there (Pick.there (Pick.there Pick.here))))))))))) ⟨rfl, rfl, rfl⟩ ?_ | refine Sel.snoc Pick.here ?_ | refine Sel.snoc (Pick.there Pick.here) ?_ | refine Sel.snoc (Pick.there (Pick.there Pick.here)) ?_ | refine Sel.snoc (Pick.there (Pick.there (Pick.there Pick.here))) ?_ | refine Sel.snoc (Pick.there (Pick.there (Pick.there (Pick.there Pick.here)))) ?_ | refine Sel.snoc (Pick.there (Pick.there (Pick.there (Pick.there (Pick.there Pick.here))))) ?_ | refine Sel.snoc (Pick.there (Pick.there (Pick.there (Pick.there (Pick.there (Pick.there Pick.here)))))) ?_ | refine Sel.snoc (Pick.there (Pick.there (Pick.there (Pick.there (Pick.there (Pick.there (Pick.there Pick.here))))))) ?_ | refine Sel.snoc (Pick.there (Pick.there (Pick.there (Pick.there (Pick.there (Pick.there (Pick.there (Pick.there Pick.here)))))))) ?_ | refine Sel.snoc (Pick.there (Pick.there (Pick.there (Pick.there (Pick.there (Pick.there (Pick.there (Pick.there (Pick.there Pick.here))))))))) ?_ | refine Sel.snoc (Pick.there (Pick.there (Pick.there (Pick.there (Pick.there (Pick.there (Pick.there (Pick.there (Pick.there (Pick.there Pick.here)))))))))) ?_ | refine Sel.snoc (Pick.there (Pick.there (Pick.there (Pick.there (Pick.there (Pick.there (Pick.there (Pick.there (Pick.there (Pick.there (Pick.there Pick.here))))))))))) ?_ | refine Sel.drop ?_))) ((WkM.gr0 (WkM.gr0 (WkM.refl _))).trans (by refine Sel.wk ?_; (try simp only [List.cons_append, List.nil_append]); repeat' (first | exact Sel.nil | exact Sel.all | exact Sel.left | refine Sel.cons Pick.here ?_ | refine Sel.cons (Pick.there Pick.here) ?_ | refine Sel.cons (Pick.there (Pick.there Pick.here)) ?_ | refine Sel.cons (Pick.there (Pick.there (Pick.there Pick.here))) ?_ | refine Sel.cons (Pick.there (Pick.there (Pick.there (Pick.there Pick.here)))) ?_ | refine Sel.cons (Pick.there (Pick.there (Pick.there (Pick.there (Pick.there Pick.here))))) ?_ | refine Sel.cons (Pick.there (Pick.there (Pick.there (Pick.there (Pick.there (Pick.there Pick.here)))))) ?_ | refine Sel.cons (Pick.there (Pick.there (Pick.there (Pick.there (Pick.there (Pick.there (Pick.there Pick.here))))))) ?_ | refine Sel.cons (Pick.there (Pick.there (Pick.there (Pick.there (Pick.there (Pick.there (Pick.there (Pick.there Pick.here)))))))) ?_ | refine Sel.cons (Pick.there (Pick.there (Pick.there (Pick.there (Pick.there (Pick.there (Pick.there (Pick.there (Pick.there Pick.here))))))))) ?_ | refine Sel.cons (Pick.there (Pick.there (Pick.there (Pick.there (Pick.there (Pick.there (Pick.there (Pick.there (Pick.there (Pick.there Pick.here)))))))))) ?_ | refine Sel.cons (Pick.there (Pick.there (Pick.there (Pick.there (Pick.there (Pick.there (Pick.there (Pick.there (Pick.there (Pick.there (Pick.there Pick.here))))))))))) ?_ | refine Sel.consw Pick.here ⟨rfl, rfl, rfl⟩ ?_ | refine Sel.consw (Pick.there Pick.here) ⟨rfl, rfl, rfl⟩ ?_ | refine Sel.consw (Pick.there (Pick.there Pick.here)) ⟨rfl, rfl, rfl⟩ ?_ | refine Sel.consw (Pick.there (Pick.there (Pick.there Pick.here))) ⟨rfl, rfl, rfl⟩ ?_ | refine Sel.consw (Pick.there (Pick.there (Pick.there (Pick.there Pick.here)))) ⟨rfl, rfl, rfl⟩ ?_ | refine Sel.consw (Pick.there (Pick.there (Pick.there (Pick.there (Pick.there Pick.here))))) ⟨rfl, rfl, rfl⟩ ?_ | refine Sel.consw (Pick.there (Pick.there (Pick.there (Pick.there (Pick.there (Pick.there Pick.here)))))) ⟨rfl, rfl, rfl⟩ ?_ | refine Sel.consw (Pick.there (Pick.there (Pick.there (Pick.there (Pick.there (Pick.there (Pick.there Pick.here))))))) ⟨rfl, rfl, rfl⟩ ?_ | refine Sel.consw (Pick.there (Pick.there (Pick.there (Pick.there (Pick.there (Pick.there (Pick.there (Pick.there Pick.here)))))))) ⟨rfl, rfl, rfl⟩ ?_ | refine Sel.consw (Pick.there (Pick.there (Pick.there (Pick.there (Pick.there (Pick.there (Pick.there (Pick.there (Pick.there Pick.here))))))))) ⟨rfl, rfl, rfl⟩ ?_ | refine Sel.consw (Pick.there (Pick.there (Pick.there (Pick.there (Pick.there (Pick.there (Pick.there (Pick.there (Pick.there (Pick.there Pick.here)))))))))) ⟨rfl, rfl, rfl⟩ ?_ | refine Sel.consw (Pick.there (Pick.there (Pick.there (Pick.there (Pick.there (Pick.there (Pick.there (Pick.there (Pick.there (Pick.there (Pick.there Pick.here))))))))))) ⟨rfl, rfl, rfl⟩ ?_ | refine Sel.snoc Pick.here ?_ | refine Sel.snoc (Pick.there Pick.here) ?_ | refine Sel.snoc (Pick.there (Pick.there Pick.here)) ?_ | refine Sel.snoc (Pick.there (Pick.there (Pick.there Pick.here))) ?_ | refine Sel.snoc (Pick.there (Pick.there (Pick.there (Pick.there Pick.here)))) ?_ | refine Sel.snoc (Pick.there (Pick.there (Pick.there (Pick.there (Pick.there Pick.here))))) ?_ | refine Sel.snoc (Pick.there (Pick.there (Pick.there (Pick.there (Pick.there (Pick.there Pick.here)))))) ?_ | refine Sel.snoc (Pick.there (Pick.there (Pick.there (Pick.there (Pick.there (Pick.there (Pick.there Pick.here))))))) ?_ | refine Sel.snoc (Pick.there (Pick.there (Pick.there (Pick.there (Pick.there (Pick.there (Pick.there (Pick.there Pick.here)))))))) ?_ | refine Sel.snoc (Pick.there (Pick.there (Pick.there (Pick.there (Pick.there (Pick.there (Pick.there (Pick.there (Pick.there Pick.here))))))))) ?_ | refine Sel.snoc (Pick.there (Pick.there (Pick.there (Pick.there (Pick.there (Pick.there (Pick.there (Pick.there (Pick.there (Pick.there Pick.here)))))))))) ?_ | refine Sel.snoc (Pick.there (Pick.there (Pick.there (Pick.there (Pick.there (Pick.there (Pick.there (Pick.there (Pick.there (Pick.there (Pick.there Pick.here))))))))))) ?_ | refine Sel.drop ?_)))) ⟨[], none, none, rfl, 0, rfl, rfl⟩ ?_ (by (first | exact Nat.le_refl _ | (simp only [addL_eq, addL_rec]; omega))) ?_
  · rintro k hk _ ⟨l, a1, a2, hl, n2, hn2, rfl⟩ me' R
    have hW1 : 0 < W - 1 := by omega
    have hkx : k % (W - 1) < W - 1 := Nat.mod_lt _ hW1
    have hky : k / (W - 1) < H - 1 := by rw [Nat.div_lt_iff_lt_mul hW1, Nat.mul_comm]; exact hk
    have hlen := hits_len (grid nf W) (W - 1) k
    have hn2b : n2 ≤ 64 := by rw [hn2, hl]; omega
    have hg1 : ∀ j, j < n2 + 1 → grow n2 4 (fun j => cl22 (W - 1) (l.getD j 0)) (cl22 (W - 1) k) j = (fun j => cl22 (W - 1) ((l ++ [k]).getD j 0)) j := grow_snoc hn2 rfl
    have hg2 : ∀ j, j < n2 + 1 → grow n2 1 (fun j => [i64 (ixk (grid nf W) (W - 1) (l.getD j 0))]) [i64 (ixk (grid nf W) (W - 1) k)] j = (fun j => [i64 (ixk (grid nf W) (W - 1) ((l ++ [k]).getD j 0))]) j := grow_snoc (F1 := fun q => [i64 (ixk (grid nf W) (W - 1) q)]) hn2 rfl
    refine call_yield ?_
    by_cases hz : ixk (grid nf W) (W - 1) k = 0
    · have dz : iEq (ixk (grid nf W) (W - 1) k) 0 = true := by rw [hz]; exact iEq_self _
      repeat' ((conv => whnf); first
               | refine eqS_rfl ?_
               | refine eqA_rfl ?_
               | refine eqA_of (by assumption) ?_
               | refine eqS_of (by rfl) ?_
               | refine eqL_rfl ?_
               | refine eqJ_rfl ?_
               | refine flE_intro (fun _ _ => rfl) ?_
               | refine seS_rfl ?_
               | refine brS_tt ?_
               | refine brS_ff ?_
               | refine brS_not ?_
               | refine brS_t (iEq_self _) ?_
               | refine brS_t (by assumption) ?_
               | refine brS_f (by assumption) ?_
               | refine brS_intro (fun _ => ?_) (fun _ => ?_)
               | refine ltS_intro (by first | assumption | decide | exact Nat.le_of_ble_eq_true rfl | omega) ?_
               | refine ixS_of rfl (by first | assumption | decide | omega) ?_
               | refine okS_intro (by first | assumption | kernel_rfl) ?_
               | refine nzS_intro (by first | decide | assumption) ?_
               | refine call_readL (c44 F (d + 1) hF W H (0 + k % (W - 1)) (0 + k / (W - 1)) 1 1 o a n c nf hD (by omega) (by omega) (by omega) (by omega) hn) (addL R 100) (by rfl) (by exact SeesM.cons 1000 (sees_ro (i := 1000) (by rfl)) (SeesM.nil _) (fun _ _ _ _ _ _ x hx => by cases hx)) (by (first | exact Nat.le_refl _ | (simp only [addL_eq, addL_rec]; omega))) ?_
               | refine ltS_intro (by first | (show n2 * 4 + 4 < 32769; omega) | (show n2 * 1 + 1 < 32769; omega)) ?_
               | intro _)
      conv => whnf
      exact ⟨by (first | exact Nat.le_refl _ | (simp only [addL_eq, addL_rec]; omega)), [(4, lopF Try.f22 0 b2 .ready none 34 [(1, .ptr 0 bf 0), (6, .ptr 1 bo 0), (7, .ptr 2 bi 0)] b1), (dfN, .dfr [b1]), (1, .own bo 39 [.sl 600 a1 n2 n2]), (2, .own bi 22 [.sl 601 a2 n2 n2]), (0, .own bf 24 [i64 W, i64 H, i64 o, .sl 1000 a n c]), (600, .gr a1 n2 35 4 (fun j => cl22 (W - 1) ((l).getD j 0))), (601, .gr a2 n2 3 1 (fun j => [i64 (ixk (grid nf W) (W - 1) ((l).getD j 0))])), (1000, roN a n c nf)], (by refine Sel.wk ?_; (try simp only [List.cons_append, List.nil_append]); repeat' (first | exact Sel.nil | exact Sel.all | exact Sel.left | refine Sel.cons Pick.here ?_ | refine Sel.cons (Pick.there Pick.here) ?_ | refine Sel.cons (Pick.there (Pick.there Pick.here)) ?_ | refine Sel.cons (Pick.there (Pick.there (Pick.there Pick.here))) ?_ | refine Sel.cons (Pick.there (Pick.there (Pick.there (Pick.there Pick.here)))) ?_ | refine Sel.cons (Pick.there (Pick.there (Pick.there (Pick.there (Pick.there Pick.here))))) ?_ | refine Sel.cons (Pick.there (Pick.there (Pick.there (Pick.there (Pick.there (Pick.there Pick.here)))))) ?_ | refine Sel.cons (Pick.there (Pick.there (Pick.there (Pick.there (Pick.there (Pick.there (Pick.there Pick.here))))))) ?_ | refine Sel.cons (Pick.there (Pick.there (Pick.there (Pick.there (Pick.there (Pick.there (Pick.there (Pick.there Pick.here)))))))) ?_ | refine Sel.cons (Pick.there (Pick.there (Pick.there (Pick.there (Pick.there (Pick.there (Pick.there (Pick.there (Pick.there Pick.here))))))))) ?_ | refine Sel.cons (Pick.there (Pick.there (Pick.there (Pick.there (Pick.there (Pick.there (Pick.there (Pick.there (Pick.there (Pick.there Pick.here)))))))))) ?_ | refine Sel.cons (Pick.there (Pick.there (Pick.there (Pick.there (Pick.there (Pick.there (Pick.there (Pick.there (Pick.there (Pick.there (Pick.there Pick.here))))))))))) ?_ | refine Sel.consw Pick.here ⟨rfl, rfl, rfl⟩ ?_ | refine Sel.consw (Pick.there Pick.here) ⟨rfl, rfl, rfl⟩ ?_ | refine Sel.consw (Pick.there (Pick.there Pick.here)) ⟨rfl, rfl, rfl⟩ ?_ | refine Sel.consw (Pick.there (Pick.there (Pick.there Pick.here))) ⟨rfl, rfl, rfl⟩ ?_ | refine Sel.consw (Pick.there (Pick.there (Pick.there (Pick.there Pick.here)))) ⟨rfl, rfl, rfl⟩ ?_ | refine Sel.consw (Pick.there (Pick.there (Pick.there (Pick.there (Pick.there Pick.here))))) ⟨rfl, rfl, rfl⟩ ?_ | refine Sel.consw (Pick.there (Pick.there (Pick.there (Pick.there (Pick.there (Pick.there Pick.here)))))) ⟨rfl, rfl, rfl⟩ ?_ | refine Sel.consw (Pick.there (Pick.there (Pick.there (Pick.there (Pick.there (Pick.there (Pick.there Pick.here))))))) ⟨rfl, rfl, rfl⟩ ?_ | refine Sel.consw (Pick.there (Pick.there (Pick.there (Pick.there (Pick.there (Pick.there (Pick.there (Pick.there Pick.here)))))))) ⟨rfl, rfl, rfl⟩ ?_ | refine Sel.consw (Pick.there (Pick.there (Pick.there (Pick.there (Pick.there (Pick.there (Pick.there (Pick.there (Pick.there Pick.here))))))))) ⟨rfl, rfl, rfl⟩ ?_ | refine Sel.consw (Pick.there (Pick.there (Pick.there (Pick.there (Pick.there (Pick.there (Pick.there (Pick.there (Pick.there (Pick.there Pick.here)))))))))) ⟨rfl, rfl, rfl⟩ ?_ | refine Sel.consw (Pick.there (Pick.there (Pick.there (Pick.there (Pick.there (Pick.there (Pick.there (Pick.there (Pick.there (Pick.there (Pick.there Pick.here))))))))))) ⟨rfl, rfl, rfl⟩ ?_ | refine Sel.snoc Pick.here ?_ | refine Sel.snoc (Pick.there Pick.here) ?_ | refine Sel.snoc (Pick.there (Pick.there Pick.here)) ?_ | refine Sel.snoc (Pick.there (Pick.there (Pick.there Pick.here))) ?_ | refine Sel.snoc (Pick.there (Pick.there (Pick.there (Pick.there Pick.here)))) ?_ | refine Sel.snoc (Pick.there (Pick.there (Pick.there (Pick.there (Pick.there Pick.here))))) ?_ | refine Sel.snoc (Pick.there (Pick.there (Pick.there (Pick.there (Pick.there (Pick.there Pick.here)))))) ?_ | refine Sel.snoc (Pick.there (Pick.there (Pick.there (Pick.there (Pick.there (Pick.there (Pick.there Pick.here))))))) ?_ | refine Sel.snoc (Pick.there (Pick.there (Pick.there (Pick.there (Pick.there (Pick.there (Pick.there (Pick.there Pick.here)))))))) ?_ | refine Sel.snoc (Pick.there (Pick.there (Pick.there (Pick.there (Pick.there (Pick.there (Pick.there (Pick.there (Pick.there Pick.here))))))))) ?_ | refine Sel.snoc (Pick.there (Pick.there (Pick.there (Pick.there (Pick.there (Pick.there (Pick.there (Pick.there (Pick.there (Pick.there Pick.here)))))))))) ?_ | refine Sel.snoc (Pick.there (Pick.there (Pick.there (Pick.there (Pick.there (Pick.there (Pick.there (Pick.there (Pick.there (Pick.there (Pick.there Pick.here))))))))))) ?_ | refine Sel.drop ?_)), .inl ⟨rfl, l, a1, a2, by rw [hits_f hz]; exact hl, n2, hn2, rfl⟩⟩
    · have dz : iEq (ixk (grid nf W) (W - 1) k) 0 = false := by rw [iEq_eq]; exact decide_eq_false hz
      repeat' ((conv => whnf); first
               | refine eqS_rfl ?_
               | refine eqA_rfl ?_
               | refine eqA_of (by assumption) ?_
               | refine eqS_of (by rfl) ?_
               | refine eqL_rfl ?_
               | refine eqJ_rfl ?_
               | refine flE_intro (fun _ _ => rfl) ?_
               | refine seS_rfl ?_
               | refine brS_tt ?_
               | refine brS_ff ?_
               | refine brS_not ?_
               | refine brS_t (iEq_self _) ?_
               | refine brS_t (by assumption) ?_
               | refine brS_f (by assumption) ?_
               | refine brS_intro (fun _ => ?_) (fun _ => ?_)
               | refine ltS_intro (by first | assumption | decide | exact Nat.le_of_ble_eq_true rfl | omega) ?_
               | refine ixS_of rfl (by first | assumption | decide | omega) ?_
               | refine okS_intro (by first | assumption | kernel_rfl) ?_
               | refine nzS_intro (by first | decide | assumption) ?_
               | refine call_readL (c44 F (d + 1) hF W H (0 + k % (W - 1)) (0 + k / (W - 1)) 1 1 o a n c nf hD (by omega) (by omega) (by omega) (by omega) hn) (addL R 100) (by rfl) (by exact SeesM.cons 1000 (sees_ro (i := 1000) (by rfl)) (SeesM.nil _) (fun _ _ _ _ _ _ x hx => by cases hx)) (by (first | exact Nat.le_refl _ | (simp only [addL_eq, addL_rec]; omega))) ?_
               | refine ltS_intro (by first | (show n2 * 4 + 4 < 32769; omega) | (show n2 * 1 + 1 < 32769; omega)) ?_
               | intro _)
      conv => whnf
      rename_i a3 _ a4
      exact ⟨by (first | exact Nat.le_refl _ | (simp only [addL_eq, addL_rec]; omega)), [(4, lopF Try.f22 0 b2 .ready none 34 [(1, .ptr 0 bf 0), (6, .ptr 1 bo 0), (7, .ptr 2 bi 0)] b1), (dfN, .dfr [b1]), (1, .own bo 39 [.sl 600 a3 (n2 + 1) (n2 + 1)]), (2, .own bi 22 [.sl 601 a4 (n2 + 1) (n2 + 1)]), (0, .own bf 24 [i64 W, i64 H, i64 o, .sl 1000 a n c]), (600, .gr a3 (n2 + 1) 35 4 (fun j => cl22 (W - 1) ((l ++ [k]).getD j 0))), (601, .gr a4 (n2 + 1) 3 1 (fun j => [i64 (ixk (grid nf W) (W - 1) ((l ++ [k]).getD j 0))])), (1000, roN a n c nf)], (by refine Sel.wk ?_; (try simp only [List.cons_append, List.nil_append]); repeat' (first | exact Sel.nil | exact Sel.all | exact Sel.left | refine Sel.cons Pick.here ?_ | refine Sel.cons (Pick.there Pick.here) ?_ | refine Sel.cons (Pick.there (Pick.there Pick.here)) ?_ | refine Sel.cons (Pick.there (Pick.there (Pick.there Pick.here))) ?_ | refine Sel.cons (Pick.there (Pick.there (Pick.there (Pick.there Pick.here)))) ?_ | refine Sel.cons (Pick.there (Pick.there (Pick.there (Pick.there (Pick.there Pick.here))))) ?_ | refine Sel.cons (Pick.there (Pick.there (Pick.there (Pick.there (Pick.there (Pick.there Pick.here)))))) ?_ | refine Sel.cons (Pick.there (Pick.there (Pick.there (Pick.there (Pick.there (Pick.there (Pick.there Pick.here))))))) ?_ | refine Sel.cons (Pick.there (Pick.there (Pick.there (Pick.there (Pick.there (Pick.there (Pick.there (Pick.there Pick.here)))))))) ?_ | refine Sel.cons (Pick.there (Pick.there (Pick.there (Pick.there (Pick.there (Pick.there (Pick.there (Pick.there (Pick.there Pick.here))))))))) ?_ | refine Sel.cons (Pick.there (Pick.there (Pick.there (Pick.there (Pick.there (Pick.there (Pick.there (Pick.there (Pick.there (Pick.there Pick.here)))))))))) ?_ | refine Sel.cons (Pick.there (Pick.there (Pick.there (Pick.there (Pick.there (Pick.there (Pick.there (Pick.there (Pick.there (Pick.there (Pick.there Pick.here))))))))))) ?_ | refine Sel.consw Pick.here ⟨rfl, rfl, rfl⟩ ?_ | refine Sel.consw (Pick.there Pick.here) ⟨rfl, rfl, rfl⟩ ?_ | refine Sel.consw (Pick.there (Pick.there Pick.here)) ⟨rfl, rfl, rfl⟩ ?_ | refine Sel.consw (Pick.there (Pick.there (Pick.there Pick.here))) ⟨rfl, rfl, rfl⟩ ?_ | refine Sel.consw (Pick.there (Pick.there (Pick.there (Pick.there Pick.here)))) ⟨rfl, rfl, rfl⟩ ?_ | refine Sel.consw (Pick.there (Pick.there (Pick.there (Pick.there (Pick.there Pick.here))))) ⟨rfl, rfl, rfl⟩ ?_ | refine Sel.consw (Pick.there (Pick.there (Pick.there (Pick.there (Pick.there (Pick.there Pick.here)))))) ⟨rfl, rfl, rfl⟩ ?_ | refine Sel.consw (Pick.there (Pick.there (Pick.there (Pick.there (Pick.there (Pick.there (Pick.there Pick.here))))))) ⟨rfl, rfl, rfl⟩ ?_ | refine Sel.consw (Pick.there (Pick.there (Pick.there (Pick.there (Pick.there (Pick.there (Pick.there (Pick.there Pick.here)))))))) ⟨rfl, rfl, rfl⟩ ?_ | refine Sel.consw (Pick.there (Pick.there (Pick.there (Pick.there (Pick.there (Pick.there (Pick.there (Pick.there (Pick.there Pick.here))))))))) ⟨rfl, rfl, rfl⟩ ?_ | refine Sel.consw (Pick.there (Pick.there (Pick.there (Pick.there (Pick.there (Pick.there (Pick.there (Pick.there (Pick.there (Pick.there Pick.here)))))))))) ⟨rfl, rfl, rfl⟩ ?_ | refine Sel.consw (Pick.there (Pick.there (Pick.there (Pick.there (Pick.there (Pick.there (Pick.there (Pick.there (Pick.there (Pick.there (Pick.there Pick.here))))))))))) ⟨rfl, rfl, rfl⟩ ?_ | refine Sel.consw Pick.here ⟨rfl, rfl, rfl, rfl, by assumption⟩ ?_ | refine Sel.consw (Pick.there Pick.here) ⟨rfl, rfl, rfl, rfl, by assumption⟩ ?_ | refine Sel.consw (Pick.there (Pick.there Pick.here)) ⟨rfl, rfl, rfl, rfl, by assumption⟩ ?_ | refine Sel.consw (Pick.there (Pick.there (Pick.there Pick.here))) ⟨rfl, rfl, rfl, rfl, by assumption⟩ ?_ | refine Sel.consw (Pick.there (Pick.there (Pick.there (Pick.there Pick.here)))) ⟨rfl, rfl, rfl, rfl, by assumption⟩ ?_ | refine Sel.consw (Pick.there (Pick.there (Pick.there (Pick.there (Pick.there Pick.here))))) ⟨rfl, rfl, rfl, rfl, by assumption⟩ ?_ | refine Sel.consw (Pick.there (Pick.there (Pick.there (Pick.there (Pick.there (Pick.there Pick.here)))))) ⟨rfl, rfl, rfl, rfl, by assumption⟩ ?_ | refine Sel.consw (Pick.there (Pick.there (Pick.there (Pick.there (Pick.there (Pick.there (Pick.there Pick.here))))))) ⟨rfl, rfl, rfl, rfl, by assumption⟩ ?_ | refine Sel.consw (Pick.there (Pick.there (Pick.there (Pick.there (Pick.there (Pick.there (Pick.there (Pick.there Pick.here)))))))) ⟨rfl, rfl, rfl, rfl, by assumption⟩ ?_ | refine Sel.consw (Pick.there (Pick.there (Pick.there (Pick.there (Pick.there (Pick.there (Pick.there (Pick.there (Pick.there Pick.here))))))))) ⟨rfl, rfl, rfl, rfl, by assumption⟩ ?_ | refine Sel.consw (Pick.there (Pick.there (Pick.there (Pick.there (Pick.there (Pick.there (Pick.there (Pick.there (Pick.there (Pick.there Pick.here)))))))))) ⟨rfl, rfl, rfl, rfl, by assumption⟩ ?_ | refine Sel.consw (Pick.there (Pick.there (Pick.there (Pick.there (Pick.there (Pick.there (Pick.there (Pick.there (Pick.there (Pick.there (Pick.there Pick.here))))))))))) ⟨rfl, rfl, rfl, rfl, by assumption⟩ ?_ | refine Sel.snoc Pick.here ?_ | refine Sel.snoc (Pick.there Pick.here) ?_ | refine Sel.snoc (Pick.there (Pick.there Pick.here)) ?_ | refine Sel.snoc (Pick.there (Pick.there (Pick.there Pick.here))) ?_ | refine Sel.snoc (Pick.there (Pick.there (Pick.there (Pick.there Pick.here)))) ?_ | refine Sel.snoc (Pick.there (Pick.there (Pick.there (Pick.there (Pick.there Pick.here))))) ?_ | refine Sel.snoc (Pick.there (Pick.there (Pick.there (Pick.there (Pick.there (Pick.there Pick.here)))))) ?_ | refine Sel.snoc (Pick.there (Pick.there (Pick.there (Pick.there (Pick.there (Pick.there (Pick.there Pick.here))))))) ?_ | refine Sel.snoc (Pick.there (Pick.there (Pick.there (Pick.there (Pick.there (Pick.there (Pick.there (Pick.there Pick.here)))))))) ?_ | refine Sel.snoc (Pick.there (Pick.there (Pick.there (Pick.there (Pick.there (Pick.there (Pick.there (Pick.there (Pick.there Pick.here))))))))) ?_ | refine Sel.snoc (Pick.there (Pick.there (Pick.there (Pick.there (Pick.there (Pick.there (Pick.there (Pick.there (Pick.there (Pick.there Pick.here)))))))))) ?_ | refine Sel.snoc (Pick.there (Pick.there (Pick.there (Pick.there (Pick.there (Pick.there (Pick.there (Pick.there (Pick.there (Pick.there (Pick.there Pick.here))))))))))) ?_ | refine Sel.drop ?_)), .inl ⟨rfl, l ++ [k], a3, a4, by rw [hits_t hz, hl], n2 + 1, by rw [List.length_append, hn2]; rfl, rfl⟩⟩
  · rintro _ _ (⟨l, a1, a2, rfl, n2, rfl, rfl⟩ | h)
    · repeat' ((conv => whnf); first
               | refine eqS_rfl ?_
               | refine eqA_rfl ?_
               | refine eqA_of (by assumption) ?_
               | refine eqS_of (by rfl) ?_
               | refine eqL_rfl ?_
               | refine eqJ_rfl ?_
               | refine flE_intro (fun _ _ => rfl) ?_
               | refine seS_rfl ?_
               | refine brS_tt ?_
               | refine brS_ff ?_
               | refine brS_not ?_
               | refine brS_t (iEq_self _) ?_
               | refine brS_t (by assumption) ?_
               | refine brS_f (by assumption) ?_
               | refine brS_intro (fun _ => ?_) (fun _ => ?_)
               | refine ltS_intro (by first | assumption | decide | exact Nat.le_of_ble_eq_true rfl | omega) ?_
               | refine ixS_of rfl (by first | assumption | decide | omega) ?_
               | refine okS_intro (by first | assumption | kernel_rfl) ?_
               | refine nzS_intro (by first | decide | assumption) ?_
               | intro _)
      conv => whnf
      exact ⟨⟨.tup [.sl i a1 _ _, .sl (i + 1) a2 _ _, i64 0], _, ⟨a1, a2, rfl, rfl⟩, rfl, (by refine Sel.wk ?_; (try simp only [List.cons_append, List.nil_append]); repeat' (first | exact Sel.nil | exact Sel.all | exact Sel.left | refine Sel.cons Pick.here ?_ | refine Sel.cons (Pick.there Pick.here) ?_ | refine Sel.cons (Pick.there (Pick.there Pick.here)) ?_ | refine Sel.cons (Pick.there (Pick.there (Pick.there Pick.here))) ?_ | refine Sel.cons (Pick.there (Pick.there (Pick.there (Pick.there Pick.here)))) ?_ | refine Sel.cons (Pick.there (Pick.there (Pick.there (Pick.there (Pick.there Pick.here))))) ?_ | refine Sel.cons (Pick.there (Pick.there (Pick.there (Pick.there (Pick.there (Pick.there Pick.here)))))) ?_ | refine Sel.cons (Pick.there (Pick.there (Pick.there (Pick.there (Pick.there (Pick.there (Pick.there Pick.here))))))) ?_ | refine Sel.cons (Pick.there (Pick.there (Pick.there (Pick.there (Pick.there (Pick.there (Pick.there (Pick.there Pick.here)))))))) ?_ | refine Sel.cons (Pick.there (Pick.there (Pick.there (Pick.there (Pick.there (Pick.there (Pick.there (Pick.there (Pick.there Pick.here))))))))) ?_ | refine Sel.cons (Pick.there (Pick.there (Pick.there (Pick.there (Pick.there (Pick.there (Pick.there (Pick.there (Pick.there (Pick.there Pick.here)))))))))) ?_ | refine Sel.cons (Pick.there (Pick.there (Pick.there (Pick.there (Pick.there (Pick.there (Pick.there (Pick.there (Pick.there (Pick.there (Pick.there Pick.here))))))))))) ?_ | refine Sel.consw Pick.here ⟨rfl, rfl, rfl⟩ ?_ | refine Sel.consw (Pick.there Pick.here) ⟨rfl, rfl, rfl⟩ ?_ | refine Sel.consw (Pick.there (Pick.there Pick.here)) ⟨rfl, rfl, rfl⟩ ?_ | refine Sel.consw (Pick.there (Pick.there (Pick.there Pick.here))) ⟨rfl, rfl, rfl⟩ ?_ | refine Sel.consw (Pick.there (Pick.there (Pick.there (Pick.there Pick.here)))) ⟨rfl, rfl, rfl⟩ ?_ | refine Sel.consw (Pick.there (Pick.there (Pick.there (Pick.there (Pick.there Pick.here))))) ⟨rfl, rfl, rfl⟩ ?_ | refine Sel.consw (Pick.there (Pick.there (Pick.there (Pick.there (Pick.there (Pick.there Pick.here)))))) ⟨rfl, rfl, rfl⟩ ?_ | refine Sel.consw (Pick.there (Pick.there (Pick.there (Pick.there (Pick.there (Pick.there (Pick.there Pick.here))))))) ⟨rfl, rfl, rfl⟩ ?_ | refine Sel.consw (Pick.there (Pick.there (Pick.there (Pick.there (Pick.there (Pick.there (Pick.there (Pick.there Pick.here)))))))) ⟨rfl, rfl, rfl⟩ ?_ | refine Sel.consw (Pick.there (Pick.there (Pick.there (Pick.there (Pick.there (Pick.there (Pick.there (Pick.there (Pick.there Pick.here))))))))) ⟨rfl, rfl, rfl⟩ ?_ | refine Sel.consw (Pick.there (Pick.there (Pick.there (Pick.there (Pick.there (Pick.there (Pick.there (Pick.there (Pick.there (Pick.there Pick.here)))))))))) ⟨rfl, rfl, rfl⟩ ?_ | refine Sel.consw (Pick.there (Pick.there (Pick.there (Pick.there (Pick.there (Pick.there (Pick.there (Pick.there (Pick.there (Pick.there (Pick.there Pick.here))))))))))) ⟨rfl, rfl, rfl⟩ ?_ | refine Sel.snoc Pick.here ?_ | refine Sel.snoc (Pick.there Pick.here) ?_ | refine Sel.snoc (Pick.there (Pick.there Pick.here)) ?_ | refine Sel.snoc (Pick.there (Pick.there (Pick.there Pick.here))) ?_ | refine Sel.snoc (Pick.there (Pick.there (Pick.there (Pick.there Pick.here)))) ?_ | refine Sel.snoc (Pick.there (Pick.there (Pick.there (Pick.there (Pick.there Pick.here))))) ?_ | refine Sel.snoc (Pick.there (Pick.there (Pick.there (Pick.there (Pick.there (Pick.there Pick.here)))))) ?_ | refine Sel.snoc (Pick.there (Pick.there (Pick.there (Pick.there (Pick.there (Pick.there (Pick.there Pick.here))))))) ?_ | refine Sel.snoc (Pick.there (Pick.there (Pick.there (Pick.there (Pick.there (Pick.there (Pick.there (Pick.there Pick.here)))))))) ?_ | refine Sel.snoc (Pick.there (Pick.there (Pick.there (Pick.there (Pick.there (Pick.there (Pick.there (Pick.there (Pick.there Pick.here))))))))) ?_ | refine Sel.snoc (Pick.there (Pick.there (Pick.there (Pick.there (Pick.there (Pick.there (Pick.there (Pick.there (Pick.there (Pick.there Pick.here)))))))))) ?_ | refine Sel.snoc (Pick.there (Pick.there (Pick.there (Pick.there (Pick.there (Pick.there (Pick.there (Pick.there (Pick.there (Pick.there (Pick.there Pick.here))))))))))) ?_ | refine Sel.drop ?_))⟩, by (first | exact Nat.le_refl _ | (simp only [addL_eq, addL_rec]; omega))⟩
    · exact h.elim
end Go.Proofs.Ytbpdmbgkoijfbaa
namespace Go.Proofs.Ytbpdmbgkoijfbaa
open Go.Ab
attribute [local irreducible] aggOk drwOK
set_option maxRecDepth 100000
set_option maxHeartbeats 4000000
set_option linter.unusedVariables false
set_option linter.unusedSimpArgs false
theorem c23_e (F d : Nat) (e : Int) (he : e ≠ 0) (W H o : Int) (a : Option Addr) (n c : Nat) (nf : Nat → Int) (h18 : ReadC (CL F (d + 8)) 18 [fld W H o a n c] [(1000, roN a n c nf)] (66000 + 100) (i64 e)) : ReadC (CL F (d + 9)) 23 [fld W H o a n c] [(1000, roN a n c nf)] (75000 + 100) (.tup [.val (.slice none 0 0), .val (.slice none 0 0), i64 e]) := by
  have de : iEq e 0 = false := by rw [iEq_eq]; exact decide_eq_false he
  intro R
  rw [show 75000 + 100 = (75000) + 100 from rfl, addL_eq, ← Nat.add_assoc, ← addL_eq _ 100]
  refine call_in (n := 49) Try.func23 rfl rfl rfl rfl rfl rfl rfl ?_
  repeat' ((conv => whnf); first
           | refine eqS_rfl ?_
           | refine eqA_rfl ?_
           | refine eqA_of (by assumption) ?_
           | refine eqS_of (by rfl) ?_
           | refine eqL_rfl ?_
           | refine eqJ_rfl ?_
           | refine flE_intro (fun _ _ => rfl) ?_
           | refine seS_rfl ?_
           | refine brS_tt ?_
           | refine brS_ff ?_
           | refine brS_not ?_
           | refine brS_t (iEq_self _) ?_
           | refine brS_t (by assumption) ?_
           | refine brS_f (by assumption) ?_
           | refine brS_intro (fun _ => ?_) (fun _ => ?_)
           | refine ltS_intro (by first | assumption | decide | exact Nat.le_of_ble_eq_true rfl | omega) ?_
           | refine ixS_of rfl (by first | assumption | decide | omega) ?_
           | refine okS_intro (by first | assumption | kernel_rfl) ?_
           | refine nzS_intro (by first | decide | assumption) ?_
           | refine call_readL h18 (addL R 50) (by rfl) (by exact SeesM.cons 1000 (sees_ro (i := 1000) (by rfl)) (SeesM.nil _) (fun _ _ _ _ _ _ x hx => by cases hx)) (by (first | exact Nat.le_refl _ | (simp only [addL_eq, addL_rec]; omega))) ?_
           | intro _)
  conv => whnf
  exact ⟨rfl, by (first | exact Nat.le_refl _ | (simp only [addL_eq, addL_rec]; omega))⟩
theorem c23_ok (F d : Nat) (hF : 100 < F) (i : Nat) (W H : Nat) (o : Int) (a : Option Addr) (n c : Nat) (nf : Nat → Int) (hD : ∀ j, Dir (nf j)) (hs : Sure (grid nf W) W H) (hW : 2 ≤ W ∧ W ≤ 9) (hH : 2 ≤ H ∧ H ≤ 9) (hn : n = W * H) (h18 : ReadC (CL F (d + 8)) 18 [fld W H o a n c] [(1000, roN a n c nf)] (66000 + 100) (i64 0)) (R : Nat) :
    callS (CL F (d + 9)) (.fn 23 [] []) [fld W H o a n c] [(1000, roN a n c nf)] (addL R (380000 + 100)) 0 fun w m' R' _ => (∃ w0 mf, Q22 i 38 (grid nf W) (W - 1) (hits (grid nf W) (W - 1) ((W - 1) * (H - 1))) w0 mf ∧ den w = den w0 ∧ WkM m' mf) ∧ R ≤ R' := by
  have hWH1 : (W - 1) * (H - 1) ≤ 8 * 8 := Nat.mul_le_mul (by omega) (by omega)
  have hW1 : 0 < W - 1 := by omega
  rw [show 380000 + 100 = (380000) + 100 from rfl, addL_eq, ← Nat.add_assoc, ← addL_eq _ 100]
  refine call_in (n := 49) Try.func23 rfl rfl rfl rfl rfl rfl rfl ?_
  repeat' ((conv => whnf); first
           | refine eqS_rfl ?_
           | refine eqA_rfl ?_
           | refine eqA_of (by assumption) ?_
           | refine eqS_of (by rfl) ?_
           | refine eqL_rfl ?_
           | refine eqJ_rfl ?_
           | refine flE_intro (fun _ _ => rfl) ?_
           | refine seS_rfl ?_
           | refine brS_tt ?_
           | refine brS_ff ?_
           | refine brS_not ?_
           | refine brS_t (iEq_self _) ?_
           | refine brS_t (by assumption) ?_
           | refine brS_f (by assumption) ?_
           | refine brS_intro (fun _ => ?_) (fun _ => ?_)
           | refine ltS_intro (by first | assumption | decide | exact Nat.le_of_ble_eq_true rfl | omega) ?_
           | refine ixS_of rfl (by first | assumption | decide | omega) ?_
           | refine okS_intro (by first | assumption | kernel_rfl) ?_
           | refine nzS_intro (by first | decide | assumption) ?_
           | refine call_readL h18 (addL (R + 300000) 50) (by rfl) (by exact SeesM.cons 1000 (sees_ro (i := 1000) (by rfl)) (SeesM.nil _) (fun _ _ _ _ _ _ x hx => by cases hx)) (by (first | exact Nat.le_refl _ | (simp only [addL_eq, addL_rec]; omega))) ?_
           | intro _)
  rename_i bf
  conv => whnf
  refine loS_i (fun jj f mm R' ni => ∃ v : Nat, v ≤ H - 1 ∧ jj = H - v ∧ ∃ (l : List Nat) (a1 a2 : Option Addr) (n2 : Nat), l = hits (grid nf W) (W - 1) (v * (W - 1)) ∧ n2 = l.length ∧ f = [(1, .ptr 0 bf 0), (6, .sl 600 a1 n2 n2), (7, .sl 601 a2 n2 n2), (8, .int .i64 (Int.ofNat v))] ∧ mm = [(0, .own bf 31 [i64 W, i64 H, i64 o, .sl 1000 a n c]), (600, .gr a1 n2 38 4 (fun j => cl22 (W - 1) ((l).getD j 0))), (601, .gr a2 n2 3 1 (fun j => [i64 (ixk (grid nf W) (W - 1) ((l).getD j 0))])), (1000, roN a n c nf)] ∧ R' = addL (R + 4300 * (((W - 1) * (H - 1)) - v * (W - 1))) 100 ∧ ni = 100) H (by omega)
    ⟨[(1, .ptr 0 bf 0), (6, .sl 600 none 0 0), (7, .sl 601 none 0 0), (8, .int .i64 (Int.ofNat 0))], [(0, .own bf 31 [i64 W, i64 H, i64 o, .sl 1000 a n c]), (600, .gr none 0 38 4 (fun j => cl22 (W - 1) (([]).getD j 0))), (601, .gr none 0 3 1 (fun j => [i64 (ixk (grid nf W) (W - 1) (([]).getD j 0))])), (1000, roN a n c nf)], addL (R + 4300 * (((W - 1) * (H - 1)) - 0 * (W - 1))) 100, 100, ⟨eqF_rfl _, ⟨rfl, rfl⟩, ⟨rfl, rfl⟩, eqF_rfl _, trivial⟩, by exact (WkM.gr0 (WkM.gr0 (WkM.refl _))).trans (by refine Sel.wk ?_; (try simp only [List.cons_append, List.nil_append]); repeat' (first | exact Sel.nil | exact Sel.all | exact Sel.left | refine Sel.cons Pick.here ?_ | refine Sel.cons (Pick.there Pick.here) ?_ | refine Sel.cons (Pick.there (Pick.there Pick.here)) ?_ | refine Sel.cons (Pick.there (Pick.there (Pick.there Pick.here))) ?_ | refine Sel.cons (Pick.there (Pick.there (Pick.there (Pick.there Pick.here)))) ?_ | refine Sel.cons (Pick.there (Pick.there (Pick.there (Pick.there (Pick.there Pick.here))))) ?_ | refine Sel.cons (Pick.there (Pick.there (Pick.there (Pick.there (Pick.there (Pick.there Pick.here)))))) ?_ | refine Sel.cons (Pick.there (Pick.there (Pick.there (Pick.there (Pick.there (Pick.there (Pick.there Pick.here))))))) ?_ | refine Sel.cons (Pick.there (Pick.there (Pick.there (Pick.there (Pick.there (Pick.there (Pick.there (Pick.there Pick.here)))))))) ?_ | refine Sel.cons (Pick.there (Pick.there (Pick.there (Pick.there (Pick.there (Pick.there (Pick.there (Pick.there (Pick.there Pick.here))))))))) ?_ | refine Sel.cons (Pick.there (Pick.there (Pick.there (Pick.there (Pick.there (Pick.there (Pick.there (Pick.there (Pick.there (Pick.there Pick.here)))))))))) ?_ | refine Sel.cons (Pick.there (Pick.there (Pick.there (Pick.there (Pick.there (Pick.there (Pick.there (Pick.there (Pick.there (Pick.there (Pick.there Pick.here))))))))))) ?_ | refine Sel.consw Pick.here ⟨rfl, rfl, rfl⟩ ?_ | refine Sel.consw (Pick.there Pick.here) ⟨rfl, rfl, rfl⟩ ?_ | refine Sel.consw (Pick.there (Pick.there Pick.here)) ⟨rfl, rfl, rfl⟩ ?_ | refine Sel.consw (Pick.there (Pick.there (Pick.there Pick.here))) ⟨rfl, rfl, rfl⟩ ?_ | refine Sel.consw (Pick.there (Pick.there (Pick.there (Pick.there Pick.here)))) ⟨rfl, rfl, rfl⟩ ?_ | refine Sel.consw (Pick.there (Pick.there (Pick.there (Pick.there (Pick.there Pick.here))))) ⟨rfl, rfl, rfl⟩ ?_ | refine Sel.consw (Pick.there (Pick.there (Pick.there (Pick.there (Pick.there (Pick.there Pick.here)))))) ⟨rfl, rfl, rfl⟩ ?_ | refine Sel.consw (Pick.there (Pick.there (Pick.there (Pick.there (Pick.there (Pick.there (Pick.there Pick.here))))))) ⟨rfl, rfl, rfl⟩ ?_ | refine Sel.consw (Pick.there (Pick.there (Pick.there (Pick.there (Pick.there (Pick.there (Pick.there (Pick.there Pick.here)))))))) ⟨rfl, rfl, rfl⟩ ?_ | refine Sel.consw (Pick.there (Pick.there (Pick.there (Pick.there (Pick.there (Pick.there (Pick.there (Pick.there (Pick.there Pick.here))))))))) ⟨rfl, rfl, rfl⟩ ?_ | refine Sel.consw (Pick.there (Pick.there (Pick.there (Pick.there (Pick.there (Pick.there (Pick.there (Pick.there (Pick.there (Pick.there Pick.here)))))))))) ⟨rfl, rfl, rfl⟩ ?_ | refine Sel.consw (Pick.there (Pick.there (Pick.there (Pick.there (Pick.there (Pick.there (Pick.there (Pick.there (Pick.there (Pick.there (Pick.there Pick.here))))))))))) ⟨rfl, rfl, rfl⟩ ?_ | refine Sel.snoc Pick.here ?_ | refine Sel.snoc (Pick.there Pick.here) ?_ | refine Sel.snoc (Pick.there (Pick.there Pick.here)) ?_ | refine Sel.snoc (Pick.there (Pick.there (Pick.there Pick.here))) ?_ | refine Sel.snoc (Pick.there (Pick.there (Pick.there (Pick.there Pick.here)))) ?_ | refine Sel.snoc (Pick.there (Pick.there (Pick.there (Pick.there (Pick.there Pick.here))))) ?_ | refine Sel.snoc (Pick.there (Pick.there (Pick.there (Pick.there (Pick.there (Pick.there Pick.here)))))) ?_ | refine Sel.snoc (Pick.there (Pick.there (Pick.there (Pick.there (Pick.there (Pick.there (Pick.there Pick.here))))))) ?_ | refine Sel.snoc (Pick.there (Pick.there (Pick.there (Pick.there (Pick.there (Pick.there (Pick.there (Pick.there Pick.here)))))))) ?_ | refine Sel.snoc (Pick.there (Pick.there (Pick.there (Pick.there (Pick.there (Pick.there (Pick.there (Pick.there (Pick.there Pick.here))))))))) ?_ | refine Sel.snoc (Pick.there (Pick.there (Pick.there (Pick.there (Pick.there (Pick.there (Pick.there (Pick.there (Pick.there (Pick.there Pick.here)))))))))) ?_ | refine Sel.snoc (Pick.there (Pick.there (Pick.there (Pick.there (Pick.there (Pick.there (Pick.there (Pick.there (Pick.there (Pick.there (Pick.there Pick.here))))))))))) ?_ | refine Sel.drop ?_)), by have hzm := Nat.zero_mul (W - 1); (first | exact Nat.le_refl _ | (simp only [addL_eq, addL_rec]; omega)), 0, by omega, by omega, [], none, none, 0, by rw [Nat.zero_mul]; rfl, rfl, rfl, rfl, rfl, rfl⟩ ?_
  rintro _ _ _ _ _ ⟨v, hv, rfl, l, a1, a2, n2, hl, hn2, rfl, rfl, rfl, rfl⟩
  by_cases hvH : v + 1 < H
  · have dv : iLt (wr .i64 (Int.add (Int.ofNat v) 1)) (H : Nat) = true := by rw [show wr .i64 (Int.add (Int.ofNat v) 1) = ((v + 1 : Nat) : Int) from wr_nat (i := v + 1) (by omega), iLt_eq]; exact decide_eq_true (by omega)
    repeat' ((conv => whnf); first
             | refine eqS_rfl ?_
             | refine eqA_rfl ?_
             | refine eqA_of (by assumption) ?_
             | refine eqS_of (by rfl) ?_
             | refine eqL_rfl ?_
             | refine eqJ_rfl ?_
             | refine flE_intro (fun _ _ => rfl) ?_
             | refine seS_rfl ?_
             | refine brS_tt ?_
             | refine brS_ff ?_
             | refine brS_not ?_
             | refine brS_t (iEq_self _) ?_
             | refine brS_t (by assumption) ?_
             | refine brS_f (by assumption) ?_
             | refine brS_intro (fun _ => ?_) (fun _ => ?_)
             | refine ltS_intro (by first | assumption | decide | exact Nat.le_of_ble_eq_true rfl | omega) ?_
             | refine ixS_of rfl (by first | assumption | decide | omega) ?_
             | refine okS_intro (by first | assumption | kernel_rfl) ?_
             | refine nzS_intro (by first | decide | assumption) ?_
             | intro _)
    conv => whnf
    refine loS_i (fun jj f mm R' ni => ∃ u : Nat, u ≤ W - 1 ∧ jj = W - u ∧ ∃ (l : List Nat) (a1 a2 : Option Addr) (n2 : Nat), l = hits (grid nf W) (W - 1) (v * (W - 1) + u) ∧ n2 = l.length ∧ f = [(1, .ptr 0 bf 0), (6, .sl 600 a1 n2 n2), (7, .sl 601 a2 n2 n2), (8, .int .i64 (Int.ofNat v)), (9, .int .i64 (Int.ofNat u))] ∧ mm = [(0, .own bf 31 [i64 W, i64 H, i64 o, .sl 1000 a n c]), (600, .gr a1 n2 38 4 (fun j => cl22 (W - 1) ((l).getD j 0))), (601, .gr a2 n2 3 1 (fun j => [i64 (ixk (grid nf W) (W - 1) ((l).getD j 0))])), (1000, roN a n c nf)] ∧ R' = addL (R + 4300 * (((W - 1) * (H - 1)) - (v * (W - 1) + u))) 100 ∧ ni = 100) W (by omega)
      ⟨[(1, .ptr 0 bf 0), (6, .sl 600 a1 n2 n2), (7, .sl 601 a2 n2 n2), (8, .int .i64 (Int.ofNat v)), (9, .int .i64 (Int.ofNat 0))], [(0, .own bf 31 [i64 W, i64 H, i64 o, .sl 1000 a n c]), (600, .gr a1 n2 38 4 (fun j => cl22 (W - 1) ((l).getD j 0))), (601, .gr a2 n2 3 1 (fun j => [i64 (ixk (grid nf W) (W - 1) ((l).getD j 0))])), (1000, roN a n c nf)], addL (R + 4300 * (((W - 1) * (H - 1)) - (v * (W - 1) + 0))) 100, 100, ⟨eqF_rfl _, eqF_rfl _, eqF_rfl _, eqF_rfl _, eqF_rfl _, trivial⟩, WkM.refl _, by exact Nat.le_refl _, 0, by omega, by omega, l, a1, a2, n2, hl, hn2, rfl, rfl, rfl, rfl⟩ ?_
    clear hl hn2
    clear l a1 a2 n2
    rintro _ _ _ _ _ ⟨u, hu, rfl, l, a1, a2, n2, hl, hn2, rfl, rfl, rfl, rfl⟩
    by_cases huW : u + 1 < W
    · have du : iLt (wr .i64 (Int.add (Int.ofNat u) 1)) (W : Nat) = true := by rw [show wr .i64 (Int.add (Int.ofNat u) 1) = ((u + 1 : Nat) : Int) from wr_nat (i := u + 1) (by omega), iLt_eq]; exact decide_eq_true (by omega)
      obtain ⟨q1, q2, q3⟩ := cell_at (w := W - 1) (h := H - 1) (u := u) (v := v) (by omega) (by omega)
      have hlen := hits_len (grid nf W) (W - 1) (v * (W - 1) + u)
      have hn2b : n2 ≤ 64 := by rw [hn2, hl]; omega
      have hx : ixk (grid nf W) (W - 1) (v * (W - 1) + u) = (bsum (grid nf W) u v 1 1).tdiv 3600 := by unfold ixk; rw [q2, q3, Nat.zero_add, Nat.zero_add]
      have hc : cl22 (W - 1) (v * (W - 1) + u) = [i64 (u : Nat), i64 (v : Nat), i64 1, i64 1] := by unfold cl22; rw [q2, q3, Nat.zero_add, Nat.zero_add]
      have hg1 := grow_snoc (F1 := cl22 (W - 1)) (k := (v * (W - 1) + u)) (sz := 4) hn2 rfl
      have hg2 := grow_snoc (F1 := fun q => [i64 (ixk (grid nf W) (W - 1) q)]) (k := (v * (W - 1) + u)) (sz := 1) hn2 rfl
      rw [hc] at hg1
      simp only [hx] at hg2
      by_cases hz : (bsum (grid nf W) u v 1 1).tdiv 3600 = 0
      · have dz : iEq ((bsum (grid nf W) u v 1 1).tdiv 3600) 0 = true := by rw [hz]; exact iEq_self _
        repeat' ((conv => whnf); first
                 | refine eqS_rfl ?_
                 | refine eqA_rfl ?_
                 | refine eqA_of (by assumption) ?_
                 | refine eqS_of (by rfl) ?_
                 | refine eqL_rfl ?_
                 | refine eqJ_rfl ?_
                 | refine flE_intro (fun _ _ => rfl) ?_
                 | refine seS_rfl ?_
                 | refine brS_tt ?_
                 | refine brS_ff ?_
                 | refine brS_not ?_
                 | refine brS_t (iEq_self _) ?_
                 | refine brS_t (by assumption) ?_
                 | refine brS_f (by assumption) ?_
                 | refine brS_intro (fun _ => ?_) (fun _ => ?_)
                 | refine ltS_intro (by first | assumption | decide | exact Nat.le_of_ble_eq_true rfl | omega) ?_
                 | refine ixS_of rfl (by first | assumption | decide | omega) ?_
                 | refine okS_intro (by first | assumption | kernel_rfl) ?_
                 | refine nzS_intro (by first | decide | assumption) ?_
                 | refine call_readL (c46 F (d + 6) hF W H u v 1 1 o a n c nf hD hs (by omega) (by omega) (by omega) (by omega) hn) (addL ((R + 4300 * (((W - 1) * (H - 1)) - (v * (W - 1) + (u + 1)))) + 2200) 90) (by rfl) (by exact SeesM.cons 1000 (sees_ro (i := 1000) (by rfl)) (SeesM.nil _) (fun _ _ _ _ _ _ x hx => by cases hx)) (by (first | exact Nat.le_refl _ | (simp only [addL_eq, addL_rec]; omega))) ?_
                 | refine ltS_intro (by first | (show n2 * 4 + 4 < 32769; omega) | (show n2 * 1 + 1 < 32769; omega)) ?_
                 | intro _)
        conv => whnf
        exact ⟨W - (u + 1), [(1, .ptr 0 bf 0), (6, .sl 600 a1 n2 n2), (7, .sl 601 a2 n2 n2), (8, .int .i64 (Int.ofNat v)), (9, .int .i64 (Int.ofNat (u + 1)))], [(0, .own bf 31 [i64 W, i64 H, i64 o, .sl 1000 a n c]), (600, .gr a1 n2 38 4 (fun j => cl22 (W - 1) ((l).getD j 0))), (601, .gr a2 n2 3 1 (fun j => [i64 (ixk (grid nf W) (W - 1) ((l).getD j 0))])), (1000, roN a n c nf)], addL (R + 4300 * (((W - 1) * (H - 1)) - (v * (W - 1) + (u + 1)))) 100, 100, by omega, ⟨eqF_rfl _, eqF_rfl _, eqF_rfl _, eqF_rfl _, ⟨congrArg (Value.int .i64) (wr_nat (i := u + 1) (by omega)), rfl⟩, trivial⟩, (by refine Sel.wk ?_; (try simp only [List.cons_append, List.nil_append]); repeat' (first | exact Sel.nil | exact Sel.all | exact Sel.left | refine Sel.cons Pick.here ?_ | refine Sel.cons (Pick.there Pick.here) ?_ | refine Sel.cons (Pick.there (Pick.there Pick.here)) ?_ | refine Sel.cons (Pick.there (Pick.there (Pick.there Pick.here))) ?_ | refine Sel.cons (Pick.there (Pick.there (Pick.there (Pick.there Pick.here)))) ?_ | refine Sel.cons (Pick.there (Pick.there (Pick.there (Pick.there (Pick.there Pick.here))))) ?_ | refine Sel.cons (Pick.there (Pick.there (Pick.there (Pick.there (Pick.there (Pick.there Pick.here)))))) ?_ | refine Sel.cons (Pick.there (Pick.there (Pick.there (Pick.there (Pick.there (Pick.there (Pick.there Pick.here))))))) ?_ | refine Sel.cons (Pick.there (Pick.there (Pick.there (Pick.there (Pick.there (Pick.there (Pick.there (Pick.there Pick.here)))))))) ?_ | refine Sel.cons (Pick.there (Pick.there (Pick.there (Pick.there (Pick.there (Pick.there (Pick.there (Pick.there (Pick.there Pick.here))))))))) ?_ | refine Sel.cons (Pick.there (Pick.there (Pick.there (Pick.there (Pick.there (Pick.there (Pick.there (Pick.there (Pick.there (Pick.there Pick.here)))))))))) ?_ | refine Sel.cons (Pick.there (Pick.there (Pick.there (Pick.there (Pick.there (Pick.there (Pick.there (Pick.there (Pick.there (Pick.there (Pick.there Pick.here))))))))))) ?_ | refine Sel.consw Pick.here ⟨rfl, rfl, rfl⟩ ?_ | refine Sel.consw (Pick.there Pick.here) ⟨rfl, rfl, rfl⟩ ?_ | refine Sel.consw (Pick.there (Pick.there Pick.here)) ⟨rfl, rfl, rfl⟩ ?_ | refine Sel.consw (Pick.there (Pick.there (Pick.there Pick.here))) ⟨rfl, rfl, rfl⟩ ?_ | refine Sel.consw (Pick.there (Pick.there (Pick.there (Pick.there Pick.here)))) ⟨rfl, rfl, rfl⟩ ?_ | refine Sel.consw (Pick.there (Pick.there (Pick.there (Pick.there (Pick.there Pick.here))))) ⟨rfl, rfl, rfl⟩ ?_ | refine Sel.consw (Pick.there (Pick.there (Pick.there (Pick.there (Pick.there (Pick.there Pick.here)))))) ⟨rfl, rfl, rfl⟩ ?_ | refine Sel.consw (Pick.there (Pick.there (Pick.there (Pick.there (Pick.there (Pick.there (Pick.there Pick.here))))))) ⟨rfl, rfl, rfl⟩ ?_ | refine Sel.consw (Pick.there (Pick.there (Pick.there (Pick.there (Pick.there (Pick.there (Pick.there (Pick.there Pick.here)))))))) ⟨rfl, rfl, rfl⟩ ?_ | refine Sel.consw (Pick.there (Pick.there (Pick.there (Pick.there (Pick.there (Pick.there (Pick.there (Pick.there (Pick.there Pick.here))))))))) ⟨rfl, rfl, rfl⟩ ?_ | refine Sel.consw (Pick.there (Pick.there (Pick.there (Pick.there (Pick.there (Pick.there (Pick.there (Pick.there (Pick.there (Pick.there Pick.here)))))))))) ⟨rfl, rfl, rfl⟩ ?_ | refine Sel.consw (Pick.there (Pick.there (Pick.there (Pick.there (Pick.there (Pick.there (Pick.there (Pick.there (Pick.there (Pick.there (Pick.there Pick.here))))))))))) ⟨rfl, rfl, rfl⟩ ?_ | refine Sel.snoc Pick.here ?_ | refine Sel.snoc (Pick.there Pick.here) ?_ | refine Sel.snoc (Pick.there (Pick.there Pick.here)) ?_ | refine Sel.snoc (Pick.there (Pick.there (Pick.there Pick.here))) ?_ | refine Sel.snoc (Pick.there (Pick.there (Pick.there (Pick.there Pick.here)))) ?_ | refine Sel.snoc (Pick.there (Pick.there (Pick.there (Pick.there (Pick.there Pick.here))))) ?_ | refine Sel.snoc (Pick.there (Pick.there (Pick.there (Pick.there (Pick.there (Pick.there Pick.here)))))) ?_ | refine Sel.snoc (Pick.there (Pick.there (Pick.there (Pick.there (Pick.there (Pick.there (Pick.there Pick.here))))))) ?_ | refine Sel.snoc (Pick.there (Pick.there (Pick.there (Pick.there (Pick.there (Pick.there (Pick.there (Pick.there Pick.here)))))))) ?_ | refine Sel.snoc (Pick.there (Pick.there (Pick.there (Pick.there (Pick.there (Pick.there (Pick.there (Pick.there (Pick.there Pick.here))))))))) ?_ | refine Sel.snoc (Pick.there (Pick.there (Pick.there (Pick.there (Pick.there (Pick.there (Pick.there (Pick.there (Pick.there (Pick.there Pick.here)))))))))) ?_ | refine Sel.snoc (Pick.there (Pick.there (Pick.there (Pick.there (Pick.there (Pick.there (Pick.there (Pick.there (Pick.there (Pick.there (Pick.there Pick.here))))))))))) ?_ | refine Sel.drop ?_)), by (first | exact Nat.le_refl _ | (simp only [addL_eq, addL_rec]; omega)), u + 1, by omega, rfl, l, a1, a2, n2, by rw [← Nat.add_assoc, hits_f (by rw [hx]; exact hz)]; exact hl, hn2, rfl, rfl, rfl, rfl⟩
      · have dz : iEq ((bsum (grid nf W) u v 1 1).tdiv 3600) 0 = false := by rw [iEq_eq]; exact decide_eq_false hz
        repeat' ((conv => whnf); first
                 | refine eqS_rfl ?_
                 | refine eqA_rfl ?_
                 | refine eqA_of (by assumption) ?_
                 | refine eqS_of (by rfl) ?_
                 | refine eqL_rfl ?_
                 | refine eqJ_rfl ?_
                 | refine flE_intro (fun _ _ => rfl) ?_
                 | refine seS_rfl ?_
                 | refine brS_tt ?_
                 | refine brS_ff ?_
                 | refine brS_not ?_
                 | refine brS_t (iEq_self _) ?_
                 | refine brS_t (by assumption) ?_
                 | refine brS_f (by assumption) ?_
                 | refine brS_intro (fun _ => ?_) (fun _ => ?_)
                 | refine ltS_intro (by first | assumption | decide | exact Nat.le_of_ble_eq_true rfl | omega) ?_
                 | refine ixS_of rfl (by first | assumption | decide | omega) ?_
                 | refine okS_intro (by first | assumption | kernel_rfl) ?_
                 | refine nzS_intro (by first | decide | assumption) ?_
                 | refine call_readL (c46 F (d + 6) hF W H u v 1 1 o a n c nf hD hs (by omega) (by omega) (by omega) (by omega) hn) (addL ((R + 4300 * (((W - 1) * (H - 1)) - (v * (W - 1) + (u + 1)))) + 2200) 90) (by rfl) (by exact SeesM.cons 1000 (sees_ro (i := 1000) (by rfl)) (SeesM.nil _) (fun _ _ _ _ _ _ x hx => by cases hx)) (by (first | exact Nat.le_refl _ | (simp only [addL_eq, addL_rec]; omega))) ?_
                 | refine call_readL (c46 F (d + 6) hF W H u v 1 1 o a n c nf hD hs (by omega) (by omega) (by omega) (by omega) hn) (addL (R + 4300 * (((W - 1) * (H - 1)) - (v * (W - 1) + (u + 1)))) 120) (by rfl) (by exact SeesM.cons 1000 (sees_ro (i := 1000) (by rfl)) (SeesM.nil _) (fun _ _ _ _ _ _ x hx => by cases hx)) (by (first | exact Nat.le_refl _ | (simp only [addL_eq, addL_rec]; omega))) ?_
                 | refine ltS_intro (by first | (show n2 * 4 + 4 < 32769; omega) | (show n2 * 1 + 1 < 32769; omega)) ?_
                 | intro _)
        conv => whnf
        exact ⟨W - (u + 1), [(1, .ptr 0 bf 0), (6, .sl 600 _ (n2 + 1) (n2 + 1)), (7, .sl 601 _ (n2 + 1) (n2 + 1)), (8, .int .i64 (Int.ofNat v)), (9, .int .i64 (Int.ofNat (u + 1)))], [(0, .own bf 31 [i64 W, i64 H, i64 o, .sl 1000 a n c]), (600, .gr _ (n2 + 1) 38 4 (fun j => cl22 (W - 1) ((l ++ [(v * (W - 1) + u)]).getD j 0))), (601, .gr _ (n2 + 1) 3 1 (fun j => [i64 (ixk (grid nf W) (W - 1) ((l ++ [(v * (W - 1) + u)]).getD j 0))])), (1000, roN a n c nf)], addL (R + 4300 * (((W - 1) * (H - 1)) - (v * (W - 1) + (u + 1)))) 100, 100, by omega, ⟨eqF_rfl _, ⟨rfl, rfl⟩, ⟨rfl, rfl⟩, eqF_rfl _, ⟨congrArg (Value.int .i64) (wr_nat (i := u + 1) (by omega)), rfl⟩, trivial⟩, (by refine Sel.wk ?_; (try simp only [List.cons_append, List.nil_append]); repeat' (first | exact Sel.nil | exact Sel.all | exact Sel.left | refine Sel.cons Pick.here ?_ | refine Sel.cons (Pick.there Pick.here) ?_ | refine Sel.cons (Pick.there (Pick.there Pick.here)) ?_ | refine Sel.cons (Pick.there (Pick.there (Pick.there Pick.here))) ?_ | refine Sel.cons (Pick.there (Pick.there (Pick.there (Pick.there Pick.here)))) ?_ | refine Sel.cons (Pick.there (Pick.there (Pick.there (Pick.there (Pick.there Pick.here))))) ?_ | refine Sel.cons (Pick.there (Pick.there (Pick.there (Pick.there (Pick.there (Pick.there Pick.here)))))) ?_ | refine Sel.cons (Pick.there (Pick.there (Pick.there (Pick.there (Pick.there (Pick.there (Pick.there Pick.here))))))) ?_ | refine Sel.cons (Pick.there (Pick.there (Pick.there (Pick.there (Pick.there (Pick.there (Pick.there (Pick.there Pick.here)))))))) ?_ | refine Sel.cons (Pick.there (Pick.there (Pick.there (Pick.there (Pick.there (Pick.there (Pick.there (Pick.there (Pick.there Pick.here))))))))) ?_ | refine Sel.cons (Pick.there (Pick.there (Pick.there (Pick.there (Pick.there (Pick.there (Pick.there (Pick.there (Pick.there (Pick.there Pick.here)))))))))) ?_ | refine Sel.cons (Pick.there (Pick.there (Pick.there (Pick.there (Pick.there (Pick.there (Pick.there (Pick.there (Pick.there (Pick.there (Pick.there Pick.here))))))))))) ?_ | refine Sel.consw Pick.here ⟨rfl, rfl, rfl⟩ ?_ | refine Sel.consw (Pick.there Pick.here) ⟨rfl, rfl, rfl⟩ ?_ | refine Sel.consw (Pick.there (Pick.there Pick.here)) ⟨rfl, rfl, rfl⟩ ?_ | refine Sel.consw (Pick.there (Pick.there (Pick.there Pick.here))) ⟨rfl, rfl, rfl⟩ ?_ | refine Sel.consw (Pick.there (Pick.there (Pick.there (Pick.there Pick.here)))) ⟨rfl, rfl, rfl⟩ ?_ | refine Sel.consw (Pick.there (Pick.there (Pick.there (Pick.there (Pick.there Pick.here))))) ⟨rfl, rfl, rfl⟩ ?_ | refine Sel.consw (Pick.there (Pick.there (Pick.there (Pick.there (Pick.there (Pick.there Pick.here)))))) ⟨rfl, rfl, rfl⟩ ?_ | refine Sel.consw (Pick.there (Pick.there (Pick.there (Pick.there (Pick.there (Pick.there (Pick.there Pick.here))))))) ⟨rfl, rfl, rfl⟩ ?_ | refine Sel.consw (Pick.there (Pick.there (Pick.there (Pick.there (Pick.there (Pick.there (Pick.there (Pick.there Pick.here)))))))) ⟨rfl, rfl, rfl⟩ ?_ | refine Sel.consw (Pick.there (Pick.there (Pick.there (Pick.there (Pick.there (Pick.there (Pick.there (Pick.there (Pick.there Pick.here))))))))) ⟨rfl, rfl, rfl⟩ ?_ | refine Sel.consw (Pick.there (Pick.there (Pick.there (Pick.there (Pick.there (Pick.there (Pick.there (Pick.there (Pick.there (Pick.there Pick.here)))))))))) ⟨rfl, rfl, rfl⟩ ?_ | refine Sel.consw (Pick.there (Pick.there (Pick.there (Pick.there (Pick.there (Pick.there (Pick.there (Pick.there (Pick.there (Pick.there (Pick.there Pick.here))))))))))) ⟨rfl, rfl, rfl⟩ ?_ | refine Sel.consw Pick.here ⟨rfl, rfl, rfl, rfl, by assumption⟩ ?_ | refine Sel.consw (Pick.there Pick.here) ⟨rfl, rfl, rfl, rfl, by assumption⟩ ?_ | refine Sel.consw (Pick.there (Pick.there Pick.here)) ⟨rfl, rfl, rfl, rfl, by assumption⟩ ?_ | refine Sel.consw (Pick.there (Pick.there (Pick.there Pick.here))) ⟨rfl, rfl, rfl, rfl, by assumption⟩ ?_ | refine Sel.consw (Pick.there (Pick.there (Pick.there (Pick.there Pick.here)))) ⟨rfl, rfl, rfl, rfl, by assumption⟩ ?_ | refine Sel.consw (Pick.there (Pick.there (Pick.there (Pick.there (Pick.there Pick.here))))) ⟨rfl, rfl, rfl, rfl, by assumption⟩ ?_ | refine Sel.consw (Pick.there (Pick.there (Pick.there (Pick.there (Pick.there (Pick.there Pick.here)))))) ⟨rfl, rfl, rfl, rfl, by assumption⟩ ?_ | refine Sel.consw (Pick.there (Pick.there (Pick.there (Pick.there (Pick.there (Pick.there (Pick.there Pick.here))))))) ⟨rfl, rfl, rfl, rfl, by assumption⟩ ?_ | refine Sel.consw (Pick.there (Pick.there (Pick.there (Pick.there (Pick.there (Pick.there (Pick.there (Pick.there Pick.here)))))))) ⟨rfl, rfl, rfl, rfl, by assumption⟩ ?_ | refine Sel.consw (Pick.there (Pick.there (Pick.there (Pick.there (Pick.there (Pick.there (Pick.there (Pick.there (Pick.there Pick.here))))))))) ⟨rfl, rfl, rfl, rfl, by assumption⟩ ?_ | refine Sel.consw (Pick.there (Pick.there (Pick.there (Pick.there (Pick.there (Pick.there (Pick.there (Pick.there (Pick.there (Pick.there Pick.here)))))))))) ⟨rfl, rfl, rfl, rfl, by assumption⟩ ?_ | refine Sel.consw (Pick.there (Pick.there (Pick.there (Pick.there (Pick.there (Pick.there (Pick.there (Pick.there (Pick.there (Pick.there (Pick.there Pick.here))))))))))) ⟨rfl, rfl, rfl, rfl, by assumption⟩ ?_ | refine Sel.snoc Pick.here ?_ | refine Sel.snoc (Pick.there Pick.here) ?_ | refine Sel.snoc (Pick.there (Pick.there Pick.here)) ?_ | refine Sel.snoc (Pick.there (Pick.there (Pick.there Pick.here))) ?_ | refine Sel.snoc (Pick.there (Pick.there (Pick.there (Pick.there Pick.here)))) ?_ | refine Sel.snoc (Pick.there (Pick.there (Pick.there (Pick.there (Pick.there Pick.here))))) ?_ | refine Sel.snoc (Pick.there (Pick.there (Pick.there (Pick.there (Pick.there (Pick.there Pick.here)))))) ?_ | refine Sel.snoc (Pick.there (Pick.there (Pick.there (Pick.there (Pick.there (Pick.there (Pick.there Pick.here))))))) ?_ | refine Sel.snoc (Pick.there (Pick.there (Pick.there (Pick.there (Pick.there (Pick.there (Pick.there (Pick.there Pick.here)))))))) ?_ | refine Sel.snoc (Pick.there (Pick.there (Pick.there (Pick.there (Pick.there (Pick.there (Pick.there (Pick.there (Pick.there Pick.here))))))))) ?_ | refine Sel.snoc (Pick.there (Pick.there (Pick.there (Pick.there (Pick.there (Pick.there (Pick.there (Pick.there (Pick.there (Pick.there Pick.here)))))))))) ?_ | refine Sel.snoc (Pick.there (Pick.there (Pick.there (Pick.there (Pick.there (Pick.there (Pick.there (Pick.there (Pick.there (Pick.there (Pick.there Pick.here))))))))))) ?_ | refine Sel.drop ?_)), by (first | exact Nat.le_refl _ | (simp only [addL_eq, addL_rec]; omega)), u + 1, by omega, rfl, l ++ [(v * (W - 1) + u)], _, _, n2 + 1, by rw [← Nat.add_assoc, hits_t (by rw [hx]; exact hz), hl], by rw [List.length_append, hn2]; rfl, rfl, rfl, rfl, rfl⟩
    · have du : iLt (wr .i64 (Int.add (Int.ofNat u) 1)) (W : Nat) = false := by rw [show wr .i64 (Int.add (Int.ofNat u) 1) = ((u + 1 : Nat) : Int) from wr_nat (i := u + 1) (by omega), iLt_eq]; exact decide_eq_false (by omega)
      have huW2 : W - 1 = u := by omega
      repeat' ((conv => whnf); first
               | refine eqS_rfl ?_
               | refine eqA_rfl ?_
               | refine eqA_of (by assumption) ?_
               | refine eqS_of (by rfl) ?_
               | refine eqL_rfl ?_
               | refine eqJ_rfl ?_
               | refine flE_intro (fun _ _ => rfl) ?_
               | refine seS_rfl ?_
               | refine brS_tt ?_
               | refine brS_ff ?_
               | refine brS_not ?_
               | refine brS_t (iEq_self _) ?_
               | refine brS_t (by assumption) ?_
               | refine brS_f (by assumption) ?_
               | refine brS_intro (fun _ => ?_) (fun _ => ?_)
               | refine ltS_intro (by first | assumption | decide | exact Nat.le_of_ble_eq_true rfl | omega) ?_
               | refine ixS_of rfl (by first | assumption | decide | omega) ?_
               | refine okS_intro (by first | assumption | kernel_rfl) ?_
               | refine nzS_intro (by first | decide | assumption) ?_
               | intro _)
      conv => whnf
      have e2 : (v * (W - 1) + u) = (v + 1) * (W - 1) := by rw [Nat.succ_mul, huW2]
      rw [e2] at hl
      exact ⟨H - (v + 1), [(1, .ptr 0 bf 0), (6, .sl 600 a1 n2 n2), (7, .sl 601 a2 n2 n2), (8, .int .i64 (Int.ofNat (v + 1)))], [(0, .own bf 31 [i64 W, i64 H, i64 o, .sl 1000 a n c]), (600, .gr a1 n2 38 4 (fun j => cl22 (W - 1) ((l).getD j 0))), (601, .gr a2 n2 3 1 (fun j => [i64 (ixk (grid nf W) (W - 1) ((l).getD j 0))])), (1000, roN a n c nf)], addL (R + 4300 * (((W - 1) * (H - 1)) - ((v + 1) * (W - 1)))) 100, 100, by omega, ⟨eqF_rfl _, eqF_rfl _, eqF_rfl _, ⟨congrArg (Value.int .i64) (wr_nat (i := v + 1) (by omega)), rfl⟩, trivial⟩, WkM.refl _, by rw [← e2]; (first | exact Nat.le_refl _ | (simp only [addL_eq, addL_rec]; omega)), v + 1, by omega, rfl, l, a1, a2, n2, hl, hn2, rfl, rfl, rfl, rfl⟩
  · have dv : iLt (wr .i64 (Int.add (Int.ofNat v) 1)) (H : Nat) = false := by rw [show wr .i64 (Int.add (Int.ofNat v) 1) = ((v + 1 : Nat) : Int) from wr_nat (i := v + 1) (by omega), iLt_eq]; exact decide_eq_false (by omega)
    repeat' ((conv => whnf); first
             | refine eqS_rfl ?_
             | refine eqA_rfl ?_
             | refine eqA_of (by assumption) ?_
             | refine eqS_of (by rfl) ?_
             | refine eqL_rfl ?_
             | refine eqJ_rfl ?_
             | refine flE_intro (fun _ _ => rfl) ?_
             | refine seS_rfl ?_
             | refine brS_tt ?_
             | refine brS_ff ?_
             | refine brS_not ?_
             | refine brS_t (iEq_self _) ?_
             | refine brS_t (by assumption) ?_
             | refine brS_f (by assumption) ?_
             | refine brS_intro (fun _ => ?_) (fun _ => ?_)
             | refine ltS_intro (by first | assumption | decide | exact Nat.le_of_ble_eq_true rfl | omega) ?_
             | refine ixS_of rfl (by first | assumption | decide | omega) ?_
             | refine okS_intro (by first | assumption | kernel_rfl) ?_
             | refine nzS_intro (by first | decide | assumption) ?_
             | intro _)
    conv => whnf
    have e3 : v * (W - 1) = (W - 1) * (H - 1) := by rw [Nat.mul_comm]; congr 1; omega
    rw [e3] at hl
    subst hl
    subst hn2
    exact ⟨⟨.tup [.sl i a1 _ _, .sl (i + 1) a2 _ _, i64 0], _, ⟨a1, a2, rfl, rfl⟩, rfl, (by refine Sel.wk ?_; (try simp only [List.cons_append, List.nil_append]); repeat' (first | exact Sel.nil | exact Sel.all | exact Sel.left | refine Sel.cons Pick.here ?_ | refine Sel.cons (Pick.there Pick.here) ?_ | refine Sel.cons (Pick.there (Pick.there Pick.here)) ?_ | refine Sel.cons (Pick.there (Pick.there (Pick.there Pick.here))) ?_ | refine Sel.cons (Pick.there (Pick.there (Pick.there (Pick.there Pick.here)))) ?_ | refine Sel.cons (Pick.there (Pick.there (Pick.there (Pick.there (Pick.there Pick.here))))) ?_ | refine Sel.cons (Pick.there (Pick.there (Pick.there (Pick.there (Pick.there (Pick.there Pick.here)))))) ?_ | refine Sel.cons (Pick.there (Pick.there (Pick.there (Pick.there (Pick.there (Pick.there (Pick.there Pick.here))))))) ?_ | refine Sel.cons (Pick.there (Pick.there (Pick.there (Pick.there (Pick.there (Pick.there (Pick.there (Pick.there Pick.here)))))))) ?_ | refine Sel.cons (Pick.there (Pick.there (Pick.there (Pick.there (Pick.there (Pick.there (Pick.there (Pick.there (Pick.there Pick.here))))))))) ?_ | refine Sel.cons (Pick.there (Pick.there (Pick.there (Pick.there (Pick.there (Pick.there (Pick.there (Pick.there (Pick.there (Pick.there Pick.here)))))))))) ?_ | refine Sel.cons (Pick.there (Pick.there (Pick.there (Pick.there (Pick.there (Pick.there (Pick.there (Pick.there (Pick.there (Pick.there (Pick.there Pick.here))))))))))) ?_ | refine Sel.consw Pick.here ⟨rfl, rfl, rfl⟩ ?_ | refine Sel.consw (Pick.there Pick.here) ⟨rfl, rfl, rfl⟩ ?_ | refine Sel.consw (Pick.there (Pick.there Pick.here)) ⟨rfl, rfl, rfl⟩ ?_ | refine Sel.consw (Pick.there (Pick.there (Pick.there Pick.here))) ⟨rfl, rfl, rfl⟩ ?_ | refine Sel.consw (Pick.there (Pick.there (Pick.there (Pick.there Pick.here)))) ⟨rfl, rfl, rfl⟩ ?_ | refine Sel.consw (Pick.there (Pick.there (Pick.there (Pick.there (Pick.there Pick.here))))) ⟨rfl, rfl, rfl⟩ ?_ | refine Sel.consw (Pick.there (Pick.there (Pick.there (Pick.there (Pick.there (Pick.there Pick.here)))))) ⟨rfl, rfl, rfl⟩ ?_ | refine Sel.consw (Pick.there (Pick.there (Pick.there (Pick.there (Pick.there (Pick.there (Pick.there Pick.here))))))) ⟨rfl, rfl, rfl⟩ ?_ | refine Sel.consw (Pick.there (Pick.there (Pick.there (Pick.there (Pick.there (Pick.there (Pick.there (Pick.there Pick.here)))))))) ⟨rfl, rfl, rfl⟩ ?_ | refine Sel.consw (Pick.there (Pick.there (Pick.there (Pick.there (Pick.there (Pick.there (Pick.there (Pick.there (Pick.there Pick.here))))))))) ⟨rfl, rfl, rfl⟩ ?_ | refine Sel.consw (Pick.there (Pick.there (Pick.there (Pick.there (Pick.there (Pick.there (Pick.there (Pick.there (Pick.there (Pick.there Pick.here)))))))))) ⟨rfl, rfl, rfl⟩ ?_ | refine Sel.consw (Pick.there (Pick.there (Pick.there (Pick.there (Pick.there (Pick.there (Pick.there (Pick.there (Pick.there (Pick.there (Pick.there Pick.here))))))))))) ⟨rfl, rfl, rfl⟩ ?_ | refine Sel.snoc Pick.here ?_ | refine Sel.snoc (Pick.there Pick.here) ?_ | refine Sel.snoc (Pick.there (Pick.there Pick.here)) ?_ | refine Sel.snoc (Pick.there (Pick.there (Pick.there Pick.here))) ?_ | refine Sel.snoc (Pick.there (Pick.there (Pick.there (Pick.there Pick.here)))) ?_ | refine Sel.snoc (Pick.there (Pick.there (Pick.there (Pick.there (Pick.there Pick.here))))) ?_ | refine Sel.snoc (Pick.there (Pick.there (Pick.there (Pick.there (Pick.there (Pick.there Pick.here)))))) ?_ | refine Sel.snoc (Pick.there (Pick.there (Pick.there (Pick.there (Pick.there (Pick.there (Pick.there Pick.here))))))) ?_ | refine Sel.snoc (Pick.there (Pick.there (Pick.there (Pick.there (Pick.there (Pick.there (Pick.there (Pick.there Pick.here)))))))) ?_ | refine Sel.snoc (Pick.there (Pick.there (Pick.there (Pick.there (Pick.there (Pick.there (Pick.there (Pick.there (Pick.there Pick.here))))))))) ?_ | refine Sel.snoc (Pick.there (Pick.there (Pick.there (Pick.there (Pick.there (Pick.there (Pick.there (Pick.there (Pick.there (Pick.there Pick.here)))))))))) ?_ | refine Sel.snoc (Pick.there (Pick.there (Pick.there (Pick.there (Pick.there (Pick.there (Pick.there (Pick.there (Pick.there (Pick.there (Pick.there Pick.here))))))))))) ?_ | refine Sel.drop ?_))⟩, by (first | exact Nat.le_refl _ | (simp only [addL_eq, addL_rec]; omega))⟩
end Go.Proofs.Ytbpdmbgkoijfbaa
namespace Go.Proofs.Ytbpdmbgkoijfbaa
open Go.Ab
attribute [local irreducible] aggOk drwOK
set_option maxRecDepth 100000
set_option maxHeartbeats 4000000
set_option linter.unusedVariables false
set_option linter.unusedSimpArgs false
theorem call22 {call : CallT} {g : FuncId} {args args0 : List SV} {m0 : Mem} {N i e W1 : Nat} {gd : Grid} {l : List Nat} (h : ∀ R, callS call (.fn g [] []) args0 m0 (addL R N) 0 fun w m' R' _ => (∃ w0 mf, Q22 i e gd W1 l w0 mf ∧ den w = den w0 ∧ WkM m' mf) ∧ R ≤ R') (R2 : Nat) {m : Mem} {R ni : Nat} {K : SV → Mem → Nat → Nat → Prop} (ha : dens args = dens args0) (hs : SeesM m m0) (hN : R2 + N ≤ R)
    (hK : ∀ a1 a2, K (.tup [.sl i a1 l.length l.length, .sl (i + 1) a2 l.length l.length, i64 0]) ((i, .gr a1 l.length e 4 (fC W1 l)) :: (i + 1, .gr a2 l.length 3 1 (fX gd W1 l)) :: m) R2 ni) : callS call (.fn g [] []) args m R ni K := by
  refine call_freshL (Q22 i e gd W1 l) h ?_ R2 ha hs hN ?_
  · rintro _ _ ⟨a1, a2, rfl, rfl⟩ x hx
    rcases List.mem_cons.1 hx with rfl | hx
    · exact ⟨_, _, _, _, _, rfl⟩
    · rw [List.mem_singleton.1 hx]; exact ⟨_, _, _, _, _, rfl⟩
  · rintro _ _ ⟨a1, a2, rfl, rfl⟩
    exact hK a1 a2
theorem eq38 (a b c e x y z w : Int) : eqV Try.prog 40 38 (.agg ⟨[.int .i64 a, .int .i64 b, .int .i64 c, .int .i64 e]⟩) (.agg ⟨[.int .i64 x, .int .i64 y, .int .i64 z, .int .i64 w]⟩) = some (iEq a x && (iEq b y && (iEq c z && (iEq e w && true)))) := by kernel_rfl
theorem eq38t (a b c e : Int) : eqV Try.prog 40 38 (.agg ⟨[.int .i64 a, .int .i64 b, .int .i64 c, .int .i64 e]⟩) (.agg ⟨[.int .i64 a, .int .i64 b, .int .i64 c, .int .i64 e]⟩) = some true := by rw [eq38, iEq_self, iEq_self, iEq_self, iEq_self]; rfl
theorem l4 (F d : Nat) (hF : 300 < F) (W H o : Int) (a : Option Addr) (n c : Nat) (nf : Nat → Int) (hz : ∀ j, n ≤ j → nf j = 0) (x y w h : Int) : ReadC (CL F (d + 10)) 4 [fld W H o a n c, bl x y w h] [(1000, roN a n c nf)] (900000 + 100) (.bool true) := by
  intro R
  rw [show 900000 + 100 = (900000) + 100 from rfl, addL_eq, ← Nat.add_assoc, ← addL_eq _ 100]
  by_cases hn : n ≤ 200
  · have dn : iLt 200 (Int.ofNat n) = false := by rw [iLt_eq]; exact decide_eq_false (by show ¬ (200 : Int) < (n : Int); omega)
    obtain ⟨e, h17, h18, he | ⟨rfl, W', H', rfl, rfl, hW, hH, ho, hn', hD, hC⟩⟩ := chk_both F d (by omega) W H o a n c nf hz (by omega)
    · have he : e ≠ 0 := by rcases he with h | h | h <;> omega
      refine call_in (n := 109) Try.func4 rfl rfl rfl rfl rfl rfl rfl ?_
      repeat' ((conv => whnf); first
               | refine eqS_rfl ?_
               | refine eqA_rfl ?_
               | refine eqA_of (by assumption) ?_
               | refine eqS_of (by rfl) ?_
               | refine eqL_rfl ?_
               | refine eqJ_rfl ?_
               | refine flE_intro (fun _ _ => rfl) ?_
               | refine seS_rfl ?_
               | refine brS_tt ?_
               | refine brS_ff ?_
               | refine brS_not ?_
               | refine brS_t (iEq_self _) ?_
               | refine brS_t (by assumption) ?_
               | refine brS_f (by assumption) ?_
               | refine brS_intro (fun _ => ?_) (fun _ => ?_)
               | refine ltS_intro (by first | assumption | decide | exact Nat.le_of_ble_eq_true rfl | omega) ?_
               | refine ixS_of rfl (by first | assumption | decide | omega) ?_
               | refine okS_intro (by first | assumption | kernel_rfl) ?_
               | refine nzS_intro (by first | decide | assumption) ?_
               | refine call_w rfl ?_
               | refine call_pure (c19 F _ _ _ o a n c) ?_
               | refine call_readL (c20_e F d e he W H o a n c nf x y w h h17) (addL (R + 700000) 80) (by rfl) (by exact SeesM.cons 1000 (sees_ro (i := 1000) (by rfl)) (SeesM.nil _) (fun _ _ _ _ _ _ x hx => by cases hx)) (by (first | exact Nat.le_refl _ | (simp only [addL_eq, addL_rec]; omega))) ?_
               | refine call_readL (c21_e F d e he W H o a n c nf x y w h h18) (addL (R + 600000) 70) (by rfl) (by exact SeesM.cons 1000 (sees_ro (i := 1000) (by rfl)) (SeesM.nil _) (fun _ _ _ _ _ _ x hx => by cases hx)) (by (first | exact Nat.le_refl _ | (simp only [addL_eq, addL_rec]; omega))) ?_
               | refine call_readL (c22_e F d e he W H o a n c nf h17) (addL (R + 500000) 60) (by rfl) (by exact SeesM.cons 1000 (sees_ro (i := 1000) (by rfl)) (SeesM.nil _) (fun _ _ _ _ _ _ x hx => by cases hx)) (by (first | exact Nat.le_refl _ | (simp only [addL_eq, addL_rec]; omega))) ?_
               | refine call_readL (c23_e F d e he W H o a n c nf h18) (addL (R + 1000) 60) (by rfl) (by exact SeesM.cons 1000 (sees_ro (i := 1000) (by rfl)) (SeesM.nil _) (fun _ _ _ _ _ _ x hx => by cases hx)) (by (first | exact Nat.le_refl _ | (simp only [addL_eq, addL_rec]; omega))) ?_
               | intro _)
      conv => whnf
      refine loS_u 1 (by omega) ?_
      repeat' ((conv => whnf); first
               | refine eqS_rfl ?_
               | refine eqA_rfl ?_
               | refine eqA_of (by assumption) ?_
               | refine eqS_of (by rfl) ?_
               | refine eqL_rfl ?_
               | refine eqJ_rfl ?_
               | refine flE_intro (fun _ _ => rfl) ?_
               | refine seS_rfl ?_
               | refine brS_tt ?_
               | refine brS_ff ?_
               | refine brS_not ?_
               | refine brS_t (iEq_self _) ?_
               | refine brS_t (by assumption) ?_
               | refine brS_f (by assumption) ?_
               | refine brS_intro (fun _ => ?_) (fun _ => ?_)
               | refine ltS_intro (by first | assumption | decide | exact Nat.le_of_ble_eq_true rfl | omega) ?_
               | refine ixS_of rfl (by first | assumption | decide | omega) ?_
               | refine okS_intro (by first | assumption | kernel_rfl) ?_
               | refine nzS_intro (by first | decide | assumption) ?_
               | refine call_w rfl ?_
               | refine call_pure (c19 F _ _ _ o a n c) ?_
               | intro _)
      conv => whnf
      exact ⟨rfl, by (first | exact Nat.le_refl _ | (simp only [addL_eq, addL_rec]; omega))⟩
    · have hidx : ∃ u v, ReadC (CL F (d + 9)) 20 [fld W' H' o a n c, bl x y w h] [(1000, roN a n c nf)] (75000 + 100) (.tup [i64 u, i64 v]) ∧ ReadC (CL F (d + 9)) 21 [fld W' H' o a n c, bl x y w h] [(1000, roN a n c nf)] (75000 + 100) (.tup [i64 u, i64 v]) := by
        by_cases hg : goodP W' H' x y w h
        · obtain ⟨g1, g2, g3, g4⟩ := hg
          obtain ⟨x', rfl⟩ := Int.eq_ofNat_of_zero_le (show 0 ≤ x by omega)
          obtain ⟨y', rfl⟩ := Int.eq_ofNat_of_zero_le (show 0 ≤ y by omega)
          obtain ⟨w', rfl⟩ := Int.eq_ofNat_of_zero_le (show 0 ≤ w by omega)
          obtain ⟨h', rfl⟩ := Int.eq_ofNat_of_zero_le (show 0 ≤ h by omega)
          exact ⟨_, _, c20_ok F d (by omega) W' H' o a n c nf x' y' w' h' hD hW.2 hH.2 hn' (by omega) (by omega) (by omega) (by omega) h17, c21_ok F d (by omega) W' H' o a n c nf x' y' w' h' hD (hC.sure ho.1) hW.2 hH.2 hn' (by omega) (by omega) (by omega) (by omega) h18⟩
        · exact ⟨_, _, c20_r F d W' H' o a n c nf x y w h hW.2 hH.2 hg h17, c21_r F d W' H' o a n c nf x y w h hW.2 hH.2 hg h18⟩
      obtain ⟨u, v, h20, h21⟩ := hidx
      have k22 := c22_ok F d (by omega) 600 W' H' o a n c nf hD hW hH hn' h17
      have k23 := c23_ok F d (by omega) 602 W' H' o a n c nf hD (hC.sure ho.1) hW hH hn' h18
      have hLen := hits_len (grid nf W') (W' - 1) ((W' - 1) * (H' - 1))
      have hWH1 : (W' - 1) * (H' - 1) ≤ 8 * 8 := Nat.mul_le_mul (by omega) (by omega)
      generalize hits (grid nf W') (W' - 1) ((W' - 1) * (H' - 1)) = L at k22 k23 hLen
      refine call_in (n := 109) Try.func4 rfl rfl rfl rfl rfl rfl rfl ?_
      repeat' ((conv => whnf); first
               | refine eqS_rfl ?_
               | refine eqA_rfl ?_
               | refine eqA_of (by assumption) ?_
               | refine eqS_of (by rfl) ?_
               | refine eqL_rfl ?_
               | refine eqJ_rfl ?_
               | refine flE_intro (fun _ _ => rfl) ?_
               | refine seS_rfl ?_
               | refine brS_tt ?_
               | refine brS_ff ?_
               | refine brS_not ?_
               | refine brS_t (iEq_self _) ?_
               | refine brS_t (by assumption) ?_
               | refine brS_f (by assumption) ?_
               | refine brS_intro (fun _ => ?_) (fun _ => ?_)
               | refine ltS_intro (by first | assumption | decide | exact Nat.le_of_ble_eq_true rfl | omega) ?_
               | refine ixS_of rfl (by first | assumption | decide | omega) ?_
               | refine okS_intro (by first | assumption | kernel_rfl) ?_
               | refine nzS_intro (by first | decide | assumption) ?_
               | refine call_w rfl ?_
               | refine call_pure (c19 F _ _ _ o a n c) ?_
               | refine call_readL h20 (addL (R + 800000) 80) (by rfl) (by exact SeesM.cons 1000 (sees_ro (i := 1000) (by rfl)) (SeesM.nil _) (fun _ _ _ _ _ _ x hx => by cases hx)) (by (first | exact Nat.le_refl _ | (simp only [addL_eq, addL_rec]; omega))) ?_
               | refine call_readL h21 (addL (R + 700000) 70) (by rfl) (by exact SeesM.cons 1000 (sees_ro (i := 1000) (by rfl)) (SeesM.nil _) (fun _ _ _ _ _ _ x hx => by cases hx)) (by (first | exact Nat.le_refl _ | (simp only [addL_eq, addL_rec]; omega))) ?_
               | refine call22 k22 (addL (R + 500000) 60) (by rfl) (by exact SeesM.cons 1000 (sees_ro (i := 1000) (by rfl)) (SeesM.nil _) (fun _ _ _ _ _ _ x hx => by cases hx)) (by (first | exact Nat.le_refl _ | (simp only [addL_eq, addL_rec]; omega))) ?_
               | refine call22 k23 (addL (R + 10000) 50) (by rfl) (by exact SeesM.cons 1000 (sees_ro (i := 1000) (by rfl)) (SeesM.nil _) (fun _ _ _ _ _ _ x hx => by cases hx)) (by (first | exact Nat.le_refl _ | (simp only [addL_eq, addL_rec]; omega))) ?_
               | intro _)
      rename_i a1 a2 a3 a4
      conv => whnf
      refine loS_i (fun jj f mm R' ni => ∃ i : Nat, i ≤ L.length ∧ jj = L.length - i + 1 ∧ f = [(10, .sl 600 a1 L.length L.length), (11, .sl 601 a2 L.length L.length), (13, .sl 602 a3 L.length L.length), (14, .sl 603 a4 L.length L.length), (16, .int .i64 (Int.ofNat i))] ∧ mm = [(600, .gr a1 L.length 35 4 (fC (W' - 1) L)), (601, .gr a2 L.length 3 1 (fX (grid nf W') (W' - 1) L)), (602, .gr a3 L.length 38 4 (fC (W' - 1) L)), (603, .gr a4 L.length 3 1 (fX (grid nf W') (W' - 1) L))] ∧ R' = addL (R + 40 * (64 - i)) 40 ∧ ni = 900) (L.length + 1) (by omega)
        ⟨[(10, .sl 600 a1 L.length L.length), (11, .sl 601 a2 L.length L.length), (13, .sl 602 a3 L.length L.length), (14, .sl 603 a4 L.length L.length), (16, .int .i64 (Int.ofNat 0))], [(600, .gr a1 L.length 35 4 (fC (W' - 1) L)), (601, .gr a2 L.length 3 1 (fX (grid nf W') (W' - 1) L)), (602, .gr a3 L.length 38 4 (fC (W' - 1) L)), (603, .gr a4 L.length 3 1 (fX (grid nf W') (W' - 1) L))], addL (R + 40 * (64 - 0)) 40, 900, ⟨eqF_rfl _, eqF_rfl _, eqF_rfl _, eqF_rfl _, eqF_rfl _, trivial⟩, (by refine Sel.wk ?_; (try simp only [List.cons_append, List.nil_append]); repeat' (first | exact Sel.nil | exact Sel.all | exact Sel.left | refine Sel.cons Pick.here ?_ | refine Sel.cons (Pick.there Pick.here) ?_ | refine Sel.cons (Pick.there (Pick.there Pick.here)) ?_ | refine Sel.cons (Pick.there (Pick.there (Pick.there Pick.here))) ?_ | refine Sel.cons (Pick.there (Pick.there (Pick.there (Pick.there Pick.here)))) ?_ | refine Sel.cons (Pick.there (Pick.there (Pick.there (Pick.there (Pick.there Pick.here))))) ?_ | refine Sel.cons (Pick.there (Pick.there (Pick.there (Pick.there (Pick.there (Pick.there Pick.here)))))) ?_ | refine Sel.cons (Pick.there (Pick.there (Pick.there (Pick.there (Pick.there (Pick.there (Pick.there Pick.here))))))) ?_ | refine Sel.cons (Pick.there (Pick.there (Pick.there (Pick.there (Pick.there (Pick.there (Pick.there (Pick.there Pick.here)))))))) ?_ | refine Sel.cons (Pick.there (Pick.there (Pick.there (Pick.there (Pick.there (Pick.there (Pick.there (Pick.there (Pick.there Pick.here))))))))) ?_ | refine Sel.cons (Pick.there (Pick.there (Pick.there (Pick.there (Pick.there (Pick.there (Pick.there (Pick.there (Pick.there (Pick.there Pick.here)))))))))) ?_ | refine Sel.cons (Pick.there (Pick.there (Pick.there (Pick.there (Pick.there (Pick.there (Pick.there (Pick.there (Pick.there (Pick.there (Pick.there Pick.here))))))))))) ?_ | refine Sel.consw Pick.here ⟨rfl, rfl, rfl⟩ ?_ | refine Sel.consw (Pick.there Pick.here) ⟨rfl, rfl, rfl⟩ ?_ | refine Sel.consw (Pick.there (Pick.there Pick.here)) ⟨rfl, rfl, rfl⟩ ?_ | refine Sel.consw (Pick.there (Pick.there (Pick.there Pick.here))) ⟨rfl, rfl, rfl⟩ ?_ | refine Sel.consw (Pick.there (Pick.there (Pick.there (Pick.there Pick.here)))) ⟨rfl, rfl, rfl⟩ ?_ | refine Sel.consw (Pick.there (Pick.there (Pick.there (Pick.there (Pick.there Pick.here))))) ⟨rfl, rfl, rfl⟩ ?_ | refine Sel.consw (Pick.there (Pick.there (Pick.there (Pick.there (Pick.there (Pick.there Pick.here)))))) ⟨rfl, rfl, rfl⟩ ?_ | refine Sel.consw (Pick.there (Pick.there (Pick.there (Pick.there (Pick.there (Pick.there (Pick.there Pick.here))))))) ⟨rfl, rfl, rfl⟩ ?_ | refine Sel.consw (Pick.there (Pick.there (Pick.there (Pick.there (Pick.there (Pick.there (Pick.there (Pick.there Pick.here)))))))) ⟨rfl, rfl, rfl⟩ ?_ | refine Sel.consw (Pick.there (Pick.there (Pick.there (Pick.there (Pick.there (Pick.there (Pick.there (Pick.there (Pick.there Pick.here))))))))) ⟨rfl, rfl, rfl⟩ ?_ | refine Sel.consw (Pick.there (Pick.there (Pick.there (Pick.there (Pick.there (Pick.there (Pick.there (Pick.there (Pick.there (Pick.there Pick.here)))))))))) ⟨rfl, rfl, rfl⟩ ?_ | refine Sel.consw (Pick.there (Pick.there (Pick.there (Pick.there (Pick.there (Pick.there (Pick.there (Pick.there (Pick.there (Pick.there (Pick.there Pick.here))))))))))) ⟨rfl, rfl, rfl⟩ ?_ | refine Sel.snoc Pick.here ?_ | refine Sel.snoc (Pick.there Pick.here) ?_ | refine Sel.snoc (Pick.there (Pick.there Pick.here)) ?_ | refine Sel.snoc (Pick.there (Pick.there (Pick.there Pick.here))) ?_ | refine Sel.snoc (Pick.there (Pick.there (Pick.there (Pick.there Pick.here)))) ?_ | refine Sel.snoc (Pick.there (Pick.there (Pick.there (Pick.there (Pick.there Pick.here))))) ?_ | refine Sel.snoc (Pick.there (Pick.there (Pick.there (Pick.there (Pick.there (Pick.there Pick.here)))))) ?_ | refine Sel.snoc (Pick.there (Pick.there (Pick.there (Pick.there (Pick.there (Pick.there (Pick.there Pick.here))))))) ?_ | refine Sel.snoc (Pick.there (Pick.there (Pick.there (Pick.there (Pick.there (Pick.there (Pick.there (Pick.there Pick.here)))))))) ?_ | refine Sel.snoc (Pick.there (Pick.there (Pick.there (Pick.there (Pick.there (Pick.there (Pick.there (Pick.there (Pick.there Pick.here))))))))) ?_ | refine Sel.snoc (Pick.there (Pick.there (Pick.there (Pick.there (Pick.there (Pick.there (Pick.there (Pick.there (Pick.there (Pick.there Pick.here)))))))))) ?_ | refine Sel.snoc (Pick.there (Pick.there (Pick.there (Pick.there (Pick.there (Pick.there (Pick.there (Pick.there (Pick.there (Pick.there (Pick.there Pick.here))))))))))) ?_ | refine Sel.drop ?_)), by (first | exact Nat.le_refl _ | (simp only [addL_eq, addL_rec]; omega)), 0, by omega, by omega, rfl, rfl, rfl, rfl⟩ ?_
      rintro _ _ _ _ _ ⟨i, hi, rfl, rfl, rfl, rfl, rfl⟩
      by_cases hil : i < L.length
      · have dl : iLt (Int.ofNat i) (Int.ofNat L.length) = true := by rw [iLt_eq]; exact decide_eq_true (by show (i : Int) < L.length; omega)
        repeat' ((conv => whnf); first
                 | refine eqS_rfl ?_
                 | refine eqA_rfl ?_
                 | refine eqA_of (by assumption) ?_
                 | refine eqS_of (by rfl) ?_
                 | refine eqL_rfl ?_
                 | refine eqJ_rfl ?_
                 | refine flE_intro (fun _ _ => rfl) ?_
                 | refine seS_rfl ?_
                 | refine brS_tt ?_
                 | refine brS_ff ?_
                 | refine brS_not ?_
                 | refine brS_t (iEq_self _) ?_
                 | refine brS_t (by assumption) ?_
                 | refine brS_f (by assumption) ?_
                 | refine brS_intro (fun _ => ?_) (fun _ => ?_)
                 | refine ltS_intro (by first | assumption | decide | exact Nat.le_of_ble_eq_true rfl | omega) ?_
                 | refine ixS_of rfl (by first | assumption | decide | omega) ?_
                 | refine okS_intro (by first | assumption | kernel_rfl) ?_
                 | refine nzS_intro (by first | decide | assumption) ?_
                 | refine ltS_intro (by have := lt_of_iLt ‹iLt (Int.ofNat _) (Int.ofNat _) = true›; omega) ?_
                 | refine ixS_of rfl (by have := lt_of_iLt ‹iLt (Int.ofNat _) (Int.ofNat _) = true›; omega) ?_
                 | refine agS.mk (by kernel_rfl) ?_
                 | refine eqvS_of (eq38t _ _ _ _) ?_
                 | intro _)
        conv => whnf
        exact ⟨L.length - (i + 1) + 1, [(10, .sl 600 a1 L.length L.length), (11, .sl 601 a2 L.length L.length), (13, .sl 602 a3 L.length L.length), (14, .sl 603 a4 L.length L.length), (16, .int .i64 (Int.ofNat (i + 1)))], _, addL (R + 40 * (64 - (i + 1))) 40, 900, by omega, ⟨eqF_rfl _, eqF_rfl _, eqF_rfl _, eqF_rfl _, ⟨congrArg (Value.int .i64) (wr_nat (i := i + 1) (by omega)), rfl⟩, trivial⟩, WkM.refl _, by (first | exact Nat.le_refl _ | (simp only [addL_eq, addL_rec]; omega)), i + 1, by omega, rfl, rfl, rfl, rfl, rfl⟩
      · have dl : iLt (Int.ofNat i) (Int.ofNat L.length) = false := by rw [iLt_eq]; exact decide_eq_false (by show ¬ (i : Int) < L.length; omega)
        repeat' ((conv => whnf); first
                 | refine eqS_rfl ?_
                 | refine eqA_rfl ?_
                 | refine eqA_of (by assumption) ?_
                 | refine eqS_of (by rfl) ?_
                 | refine eqL_rfl ?_
                 | refine eqJ_rfl ?_
                 | refine flE_intro (fun _ _ => rfl) ?_
                 | refine seS_rfl ?_
                 | refine brS_tt ?_
                 | refine brS_ff ?_
                 | refine brS_not ?_
                 | refine brS_t (iEq_self _) ?_
                 | refine brS_t (by assumption) ?_
                 | refine brS_f (by assumption) ?_
                 | refine brS_intro (fun _ => ?_) (fun _ => ?_)
                 | refine ltS_intro (by first | assumption | decide | exact Nat.le_of_ble_eq_true rfl | omega) ?_
                 | refine ixS_of rfl (by first | assumption | decide | omega) ?_
                 | refine okS_intro (by first | assumption | kernel_rfl) ?_
                 | refine nzS_intro (by first | decide | assumption) ?_
                 | refine call_w rfl ?_
                 | intro _)
        conv => whnf
        exact ⟨rfl, by (first | exact Nat.le_refl _ | (simp only [addL_eq, addL_rec]; omega))⟩
  · have dn : iLt 200 (Int.ofNat n) = true := by rw [iLt_eq]; exact decide_eq_true (by show (200 : Int) < (n : Int); omega)
    refine call_in (n := 109) Try.func4 rfl rfl rfl rfl rfl rfl rfl ?_
    repeat' ((conv => whnf); first
             | refine eqS_rfl ?_
             | refine eqA_rfl ?_
             | refine eqA_of (by assumption) ?_
             | refine eqS_of (by rfl) ?_
             | refine eqL_rfl ?_
             | refine eqJ_rfl ?_
             | refine flE_intro (fun _ _ => rfl) ?_
             | refine seS_rfl ?_
             | refine brS_tt ?_
             | refine brS_ff ?_
             | refine brS_not ?_
             | refine brS_t (iEq_self _) ?_
             | refine brS_t (by assumption) ?_
             | refine brS_f (by assumption) ?_
             | refine brS_intro (fun _ => ?_) (fun _ => ?_)
             | refine ltS_intro (by first | assumption | decide | exact Nat.le_of_ble_eq_true rfl | omega) ?_
             | refine ixS_of rfl (by first | assumption | decide | omega) ?_
             | refine okS_intro (by first | assumption | kernel_rfl) ?_
             | refine nzS_intro (by first | decide | assumption) ?_
             | refine call_w rfl ?_
             | intro _)
    conv => whnf
    exact ⟨rfl, by (first | exact Nat.le_refl _ | (simp only [addL_eq, addL_rec]; omega))⟩
end Go.Proofs.Ytbpdmbgkoijfbaa
