/- Ore: sums over cells, and OreBorder. -/
import Derived.Test.YtbpdmbgkoijfbaaOrW
import Derived.KernelRfl
namespace Go.Proofs.Ytbpdmbgkoijfbaa
open Go.Ab
attribute [local irreducible] aggOk drwOK
set_option maxRecDepth 100000
set_option maxHeartbeats 4000000
set_option linter.unusedVariables false
set_option linter.unusedSimpArgs false
theorem sumN_rows {f : Nat → Int} {w : Nat} : ∀ {h : Nat}, sumN (w * h) f = sumN h (fun v => sumN w (fun u => f (v * w + u)))
  | 0 => rfl
  | h + 1 => by
    rw [Nat.mul_succ, sumN_app, sumN_rows]
    show _ = sumN h _ + sumN w (fun u => f (h * w + u))
    rw [Nat.mul_comm w h]
theorem sumN_part {f : Nat → Int} {n x w : Nat} (h : x + w ≤ n) : sumN n (fun u => if x ≤ u ∧ u < x + w then f u else 0) = sumN w (fun k => f (x + k)) := by
  obtain ⟨r, rfl⟩ := Nat.le.dest h
  rw [sumN_app, sumN_app, sumN_zero fun k hk => if_neg (by omega), sumN_zero (n := r) fun k hk => if_neg (by omega), sumN_congr (n := w) fun k hk => show (if x ≤ x + k ∧ x + k < x + w then f (x + k) else 0) = f (x + k) from if_pos ⟨by omega, by omega⟩]
  omega
/-- is a cell in a block? -/
def insB (x y w h u v : Nat) : Prop := (x ≤ u ∧ u < x + w) ∧ (y ≤ v ∧ v < y + h)
instance (x y w h u v : Nat) : Decidable (insB x y w h u v) := by unfold insB; exact inferInstance
def fS (g : Grid) (W1 x y w h q : Nat) : Int := if insB x y w h (q % W1) (q / W1) then ixk g W1 q else 0
def fM (g : Grid) (W1 x y w h q : Nat) : Int := if insB x y w h (q % W1) (q / W1) ∧ ixk g W1 q ≠ 0 then 1 else 0
theorem ixk_cel (g : Grid) (W1 q : Nat) : 3600 * ixk g W1 q = cel g (q % W1) (q / W1) := by
  have := (idx_sm g (0 + q % W1) (0 + q / W1) 1 1 (by omega)).2.1
  unfold ixk; rw [this, Nat.zero_add, Nat.zero_add]
theorem cel_bd {g : Grid} {W H u v : Nat} (hs : Sure g W H) (hu : u + 1 < W) (hv : v + 1 < H) : -7200 < cel g u v ∧ cel g u v < 7200 := by
  rw [cel_eq]
  have a1 := T_bd (g u v) (g (u + 1) v)
  have a2 := T_bd (g (u + 1) v) (g (u + 1) (v + 1))
  have a3 := T_bd (g (u + 1) (v + 1)) (g u (v + 1))
  have a4 := T_bd (g u (v + 1)) (g u v)
  have b1 := hs.1 u v (by omega) (by omega)
  omega
/-- THE BORDER, in indices -/
theorem sumN_mul {c : Int} {f : Nat → Int} : ∀ {n : Nat}, c * sumN n f = sumN n (fun k => c * f k)
  | 0 => Int.mul_zero c
  | n + 1 => by show c * (sumN n f + f n) = sumN n _ + c * f n; rw [Int.mul_add, sumN_mul]
theorem fS_sum {g : Grid} {W H x y w h : Nat} (hs : Sure g W H) (hb : 2 * w + 2 * h ≤ 100) (hx : x + w < W) (hy : y + h < H) : sumN ((W - 1) * (H - 1)) (fS g (W - 1) x y w h) = (bsum g x y w h).tdiv 3600 := by
  have hb := (idx_sm g x y w h hb).2.1
  have e0 : ∀ u v, u < W - 1 → fS g (W - 1) x y w h (v * (W - 1) + u) = if y ≤ v ∧ v < y + h then (if x ≤ u ∧ u < x + w then ixk g (W - 1) (v * (W - 1) + u) else 0) else 0 := fun u v hu => by
    have h1 : (v * (W - 1) + u) / (W - 1) = v := by rw [Nat.mul_comm, Nat.mul_add_div (by omega), Nat.div_eq_of_lt hu]; omega
    have h2 : (v * (W - 1) + u) % (W - 1) = u := by rw [Nat.mul_comm, Nat.mul_add_mod]; exact Nat.mod_eq_of_lt hu
    unfold fS insB; rw [h1, h2]
    by_cases c1 : x ≤ u ∧ u < x + w <;> by_cases c2 : y ≤ v ∧ v < y + h <;> simp [c1, c2]
  have e1 : sumN ((W - 1) * (H - 1)) (fS g (W - 1) x y w h) = sumN h (fun j => sumN w (fun k => ixk g (W - 1) ((y + j) * (W - 1) + (x + k)))) := by
    rw [sumN_rows, ← sumN_part (n := H - 1) (x := y) (w := h) (f := fun v => sumN w (fun k => ixk g (W - 1) (v * (W - 1) + (x + k)))) (by omega)]
    refine sumN_congr fun v hv => ?_
    rw [sumN_congr fun u hu => e0 u v hu]
    by_cases c2 : y ≤ v ∧ v < y + h
    · simp only [if_pos c2]
      exact sumN_part (n := W - 1) (x := x) (w := w) (f := fun u => ixk g (W - 1) (v * (W - 1) + u)) (by omega)
    · simp only [if_neg c2]
      exact sumN_zero fun _ _ => rfl
  have e2 : 3600 * sumN h (fun j => sumN w (fun k => ixk g (W - 1) ((y + j) * (W - 1) + (x + k)))) = bsum g x y w h := by
    rw [bsum_cells hs hx hy, sumN_mul]
    refine sumN_congr fun j hj => ?_
    rw [sumN_mul]
    refine sumN_congr fun k hk => ?_
    rw [ixk_cel]
    have h1 : ((y + j) * (W - 1) + (x + k)) / (W - 1) = y + j := by rw [Nat.mul_comm, Nat.mul_add_div (by omega), Nat.div_eq_of_lt (by omega)]; omega
    have h2 : ((y + j) * (W - 1) + (x + k)) % (W - 1) = x + k := by rw [Nat.mul_comm, Nat.mul_add_mod]; exact Nat.mod_eq_of_lt (by omega)
    rw [h1, h2]
  rw [e1]
  omega
theorem fM_bd {g : Grid} {W1 x y w h N0 : Nat} (hb : ∀ q, q < N0 → -1 ≤ ixk g W1 q ∧ ixk g W1 q ≤ 1) : ∀ {n : Nat}, n ≤ N0 → - sumN n (fM g W1 x y w h) ≤ sumN n (fS g W1 x y w h) ∧ sumN n (fS g W1 x y w h) ≤ sumN n (fM g W1 x y w h) ∧ sumN n (fM g W1 x y w h) ≤ n
  | 0, _ => by show - (0 : Int) ≤ 0 ∧ (0 : Int) ≤ 0 ∧ (0 : Int) ≤ ((0 : Nat) : Int); omega
  | n + 1, hn => by
    have ih := fM_bd (x := x) (y := y) (w := w) (h := h) hb (n := n) (by omega)
    have h1 := hb n (by omega)
    have h2 : - fM g W1 x y w h n ≤ fS g W1 x y w h n ∧ fS g W1 x y w h n ≤ fM g W1 x y w h n ∧ fM g W1 x y w h n ≤ 1 := by
      unfold fM fS
      by_cases c1 : insB x y w h (n % W1) (n / W1) <;> by_cases c2 : ixk g W1 n ≠ 0 <;> simp [c1, c2] <;> omega
    show - (sumN n _ + fM g W1 x y w h n) ≤ sumN n _ + fS g W1 x y w h n ∧ sumN n _ + fS g W1 x y w h n ≤ sumN n _ + fM g W1 x y w h n ∧ sumN n _ + fM g W1 x y w h n ≤ ((n + 1 : Nat) : Int)
    omega
theorem law_turn {a b : Int} (ha : Dir a) (hb : Dir b) (ht : T a b ≠ -1800) : ((Int.tmod (wr .i64 (Int.sub b a)) 3600) = T a b ∧ -1800 < T a b ∧ T a b < 1800) ∨ ((Int.tmod (wr .i64 (Int.sub b a)) 3600) = T a b + 3600 ∧ -1800 < T a b ∧ T a b < 0) ∨ ((Int.tmod (wr .i64 (Int.sub b a)) 3600) = T a b - 3600 ∧ 0 < T a b ∧ T a b < 1800) := by
  have e : (Int.tmod (wr .i64 (Int.sub b a)) 3600) = b - a := by
    rw [show wr .i64 (Int.sub b a) = b - a from sm (n := b - a) (by omega)]
    by_cases h : 0 ≤ b - a
    · rw [Int.tmod_eq_emod_of_nonneg h]; omega
    · have h1 : (b - a).tmod 3600 = - ((a - b).tmod 3600) := by rw [← Int.neg_tmod]; congr 1; omega
      rw [h1, Int.tmod_eq_emod_of_nonneg (by omega)]; omega
  rw [e]
  unfold T at *
  omega
theorem c53 (F d : Nat) (hF : 10 < F) (a b : Int) (ha : Dir a) (hb : Dir b) (ht : T a b ≠ -1800) : PureC (CL F (d + 1)) 53 [i64 a, i64 b] 0 (i64 (T a b)) := by
  have i1 : ∀ p q : Int, q ≤ p → iLt p q = false := fun p q h => by rw [iLt_eq]; exact decide_eq_false (by omega)
  have i2 : ∀ p q : Int, p < q → iLt p q = true := fun p q h => by rw [iLt_eq]; exact decide_eq_true h
  rcases law_turn ha hb ht with ⟨e, h1, h2⟩ | ⟨e, h1, h2⟩ | ⟨e, h1, h2⟩
  · have d1 : iLt 1800 (Int.tmod (wr .i64 (Int.sub b a)) 3600) = false := by rw [e]; exact i1 _ _ (by omega)
    have d2 : iLt (Int.tmod (wr .i64 (Int.sub b a)) 3600) (-1800) = false := by rw [e]; exact i1 _ _ (by omega)
    intro m R
    refine call_in (n := 19) Try.func53 rfl rfl rfl rfl rfl rfl rfl ?_
    repeat' ((conv => whnf); first
             | refine eqS_rfl ?_
             | refine eqA_rfl ?_
             | refine eqA_of (by assumption) ?_
             | refine eqS_of (by rfl) ?_
             | refine eqL_rfl ?_
             | refine eqJ_rfl ?_
             | refine flE_intro (fun _ _ => rfl) ?_
             | refine seS_rfl ?_
             | refine brS_tt ?_
             | refine brS_ff ?_
             | refine brS_not ?_
             | refine brS_t (iEq_self _) ?_
             | refine brS_t (by assumption) ?_
             | refine brS_f (by assumption) ?_
             | refine brS_intro (fun _ => ?_) (fun _ => ?_)
             | refine ltS_intro (by first | assumption | decide | exact Nat.le_of_ble_eq_true rfl | omega) ?_
             | refine ixS_of rfl (by first | assumption | decide | omega) ?_
             | refine okS_intro (by first | assumption | kernel_rfl) ?_
             | refine nzS_intro (by first | decide | assumption) ?_
             | refine loS_u 3 (by omega) ?_
             | intro _)
    all_goals (conv => whnf)
    all_goals refine ⟨?_, by repeat' (first | exact WkM.refl _ | refine WkM.drop ?_), by repeat' (first | exact Nat.le_refl _ | refine Nat.le_succ_of_le ?_)⟩
    all_goals (rw [e])

  · have e2 : wr .i64 (Int.sub (Int.tmod (wr .i64 (Int.sub b a)) 3600) 3600) = T a b := by rw [e]; exact (sm (n := T a b + 3600 - 3600) (by omega)).trans (by omega)
    have d1 : iLt 1800 (Int.tmod (wr .i64 (Int.sub b a)) 3600) = true := by rw [e]; exact i2 _ _ (by omega)
    have d2 : iLt 1800 (wr .i64 (Int.sub (Int.tmod (wr .i64 (Int.sub b a)) 3600) 3600)) = false := by rw [e2]; exact i1 _ _ (by omega)
    have d3 : iLt (wr .i64 (Int.sub (Int.tmod (wr .i64 (Int.sub b a)) 3600) 3600)) (-1800) = false := by rw [e2]; exact i1 _ _ (by omega)
    intro m R
    refine call_in (n := 19) Try.func53 rfl rfl rfl rfl rfl rfl rfl ?_
    repeat' ((conv => whnf); first
             | refine eqS_rfl ?_
             | refine eqA_rfl ?_
             | refine eqA_of (by assumption) ?_
             | refine eqS_of (by rfl) ?_
             | refine eqL_rfl ?_
             | refine eqJ_rfl ?_
             | refine flE_intro (fun _ _ => rfl) ?_
             | refine seS_rfl ?_
             | refine brS_tt ?_
             | refine brS_ff ?_
             | refine brS_not ?_
             | refine brS_t (iEq_self _) ?_
             | refine brS_t (by assumption) ?_
             | refine brS_f (by assumption) ?_
             | refine brS_intro (fun _ => ?_) (fun _ => ?_)
             | refine ltS_intro (by first | assumption | decide | exact Nat.le_of_ble_eq_true rfl | omega) ?_
             | refine ixS_of rfl (by first | assumption | decide | omega) ?_
             | refine okS_intro (by first | assumption | kernel_rfl) ?_
             | refine nzS_intro (by first | decide | assumption) ?_
             | refine loS_u 3 (by omega) ?_
             | intro _)
    all_goals (conv => whnf)
    all_goals refine ⟨?_, by repeat' (first | exact WkM.refl _ | refine WkM.drop ?_), by repeat' (first | exact Nat.le_refl _ | refine Nat.le_succ_of_le ?_)⟩
    all_goals (rw [e2])

  · have e2 : wr .i64 (Int.add (Int.tmod (wr .i64 (Int.sub b a)) 3600) 3600) = T a b := by rw [e]; exact (sm (n := T a b - 3600 + 3600) (by omega)).trans (by omega)
    have d1 : iLt 1800 (Int.tmod (wr .i64 (Int.sub b a)) 3600) = false := by rw [e]; exact i1 _ _ (by omega)
    have d2 : iLt (Int.tmod (wr .i64 (Int.sub b a)) 3600) (-1800) = true := by rw [e]; exact i2 _ _ (by omega)
    have d3 : iLt (wr .i64 (Int.add (Int.tmod (wr .i64 (Int.sub b a)) 3600) 3600)) (-1800) = false := by rw [e2]; exact i1 _ _ (by omega)
    intro m R
    refine call_in (n := 19) Try.func53 rfl rfl rfl rfl rfl rfl rfl ?_
    repeat' ((conv => whnf); first
             | refine eqS_rfl ?_
             | refine eqA_rfl ?_
             | refine eqA_of (by assumption) ?_
             | refine eqS_of (by rfl) ?_
             | refine eqL_rfl ?_
             | refine eqJ_rfl ?_
             | refine flE_intro (fun _ _ => rfl) ?_
             | refine seS_rfl ?_
             | refine brS_tt ?_
             | refine brS_ff ?_
             | refine brS_not ?_
             | refine brS_t (iEq_self _) ?_
             | refine brS_t (by assumption) ?_
             | refine brS_f (by assumption) ?_
             | refine brS_intro (fun _ => ?_) (fun _ => ?_)
             | refine ltS_intro (by first | assumption | decide | exact Nat.le_of_ble_eq_true rfl | omega) ?_
             | refine ixS_of rfl (by first | assumption | decide | omega) ?_
             | refine okS_intro (by first | assumption | kernel_rfl) ?_
             | refine nzS_intro (by first | decide | assumption) ?_
             | refine loS_u 3 (by omega) ?_
             | intro _)
    all_goals (conv => whnf)
    all_goals refine ⟨?_, by repeat' (first | exact WkM.refl _ | refine WkM.drop ?_), by repeat' (first | exact Nat.le_refl _ | refine Nat.le_succ_of_le ?_)⟩
    all_goals (rw [e2])

theorem c33 (F d : Nat) (hF : 10 < F) (W H x y : Nat) (o : Int) (a : Option Addr) (n c : Nat) (nf : Nat → Int) (hD : ∀ j, Dir (nf j)) (hs : Sure (grid nf W) W H) (hW : W ≤ 10) (hH : H ≤ 10) (hx : x + 1 < W) (hy : y + 1 < H) (hn : n = W * H) : ReadC (CL F (d + 2)) 33 [fld W H o a n c, i64 x, i64 y] [(1000, roN a n c nf)] 100 (i64 (cel (grid nf W) x y)) := by
  have y1 : wr .i64 (Int.add (y : Nat) 1) = ((y + 1 : Nat) : Int) := wr_nat (i := y + 1) (by omega)
  have q1 : y * W ≤ 10 * 10 := Nat.mul_le_mul (by omega) hW
  have q2 : (y + 1) * W ≤ 10 * 10 := Nat.mul_le_mul (by omega) hW
  have m1 : wr .i64 (Int.mul (y : Nat) (W : Nat)) = ((y * W : Nat) : Int) := wr_nat (i := y * W) (by omega)
  have m2 : wr .i64 (Int.mul ((y + 1 : Nat) : Int) (W : Nat)) = (((y + 1) * W : Nat) : Int) := wr_nat (i := (y + 1) * W) (by omega)
  have n1 : wr .i64 (Int.add ((y * W : Nat) : Int) (x : Nat)) = ((y * W + x : Nat) : Int) := wr_nat (i := y * W + x) (by omega)
  have n2 : wr .i64 (Int.add (((y + 1) * W : Nat) : Int) (x : Nat)) = (((y + 1) * W + x : Nat) : Int) := wr_nat (i := (y + 1) * W + x) (by omega)
  have e1 : wr .i64 (Int.add (wr .i64 (Int.mul (y : Nat) (W : Nat))) (x : Nat)) = Int.ofNat (y * W + x) := by rw [m1]; exact n1
  have e2 : wr .i64 (Int.add (wr .i64 (Int.add (wr .i64 (Int.mul (y : Nat) (W : Nat))) (x : Nat))) 1) = Int.ofNat (y * W + (x + 1)) := by rw [m1, n1]; exact wr_nat (i := y * W + x + 1) (by omega)
  have e3 : wr .i64 (Int.add (wr .i64 (Int.add (wr .i64 (Int.mul (wr .i64 (Int.add (y : Nat) 1)) (W : Nat))) (x : Nat))) 1) = Int.ofNat ((y + 1) * W + (x + 1)) := by rw [y1, m2, n2]; exact wr_nat (i := (y + 1) * W + x + 1) (by omega)
  have e4 : wr .i64 (Int.add (wr .i64 (Int.mul (wr .i64 (Int.add (y : Nat) 1)) (W : Nat))) (x : Nat)) = Int.ofNat ((y + 1) * W + x) := by rw [y1, m2]; exact n2
  have r1 : y * W + x < n := by rw [hn]; exact idx_lt (by omega) (by omega)
  have r2 : y * W + (x + 1) < n := by rw [hn]; exact idx_lt hx (by omega)
  have r3 : (y + 1) * W + (x + 1) < n := by rw [hn]; exact idx_lt hx hy
  have r4 : (y + 1) * W + x < n := by rw [hn]; exact idx_lt (by omega) hy
  have t1 : T (nf (y * W + x)) (nf (y * W + (x + 1))) ≠ -1800 := hs.1 x y hx (by omega)
  have t2 : T (nf (y * W + (x + 1))) (nf ((y + 1) * W + (x + 1))) ≠ -1800 := hs.2 (x + 1) y hx hy
  have t3 : T (nf ((y + 1) * W + (x + 1))) (nf ((y + 1) * W + x)) ≠ -1800 := fun e => hs.1 x (y + 1) hx hy (T_neg' e)
  have t4 : T (nf ((y + 1) * W + x)) (nf (y * W + x)) ≠ -1800 := fun e => hs.2 x y (by omega) hy (T_neg' e)
  have b1 := T_bd (nf (y * W + x)) (nf (y * W + (x + 1)))
  have b2 := T_bd (nf (y * W + (x + 1))) (nf ((y + 1) * W + (x + 1)))
  have b3 := T_bd (nf ((y + 1) * W + (x + 1))) (nf ((y + 1) * W + x))
  have b4 := T_bd (nf ((y + 1) * W + x)) (nf (y * W + x))
  intro R
  refine call_in (n := 70) Try.func33 rfl rfl rfl rfl rfl rfl rfl ?_
  repeat' ((conv => whnf); first
           | refine eqS_rfl ?_
           | refine eqA_rfl ?_
           | refine eqA_of (by assumption) ?_
           | refine eqS_of (by rfl) ?_
           | refine eqL_rfl ?_
           | refine eqJ_rfl ?_
           | refine flE_intro (fun _ _ => rfl) ?_
           | refine seS_rfl ?_
           | refine brS_tt ?_
           | refine brS_ff ?_
           | refine brS_not ?_
           | refine brS_t (iEq_self _) ?_
           | refine brS_t (by assumption) ?_
           | refine brS_f (by assumption) ?_
           | refine brS_intro (fun _ => ?_) (fun _ => ?_)
           | refine ltS_intro (by first | assumption | decide | exact Nat.le_of_ble_eq_true rfl | omega) ?_
           | refine ixS_of rfl (by first | assumption | decide | omega) ?_
           | refine okS_intro (by first | assumption | kernel_rfl) ?_
           | refine nzS_intro (by first | decide | assumption) ?_
           | refine ixS_of e1 r1 ?_
           | refine ixS_of e2 r2 ?_
           | refine ixS_of e3 r3 ?_
           | refine ixS_of e4 r4 ?_
           | refine call_pure (c53 F _ hF _ _ (hD _) (hD _) t1) ?_
           | refine call_pure (c53 F _ hF _ _ (hD _) (hD _) t2) ?_
           | refine call_pure (c53 F _ hF _ _ (hD _) (hD _) t3) ?_
           | refine call_pure (c53 F _ hF _ _ (hD _) (hD _) t4) ?_
           | intro _)
  conv => whnf
  refine ⟨?_, by (first | (simp only [addL_eq, addL_rec]; omega) | omega | exact Nat.le_refl _)⟩
  rw [cel_eq]
  refine congrArg (Value.int .i64) ?_
  rw [show wr .i64 (Int.add (T (nf (y * W + x)) (nf (y * W + (x + 1)))) (T (nf (y * W + (x + 1))) (nf ((y + 1) * W + (x + 1))))) = T (nf (y * W + x)) (nf (y * W + (x + 1))) + T (nf (y * W + (x + 1))) (nf ((y + 1) * W + (x + 1))) from sm (n := _ + _) (by omega)]
  rw [show wr .i64 (Int.add (T (nf (y * W + x)) (nf (y * W + (x + 1))) + T (nf (y * W + (x + 1))) (nf ((y + 1) * W + (x + 1)))) (T (nf ((y + 1) * W + (x + 1))) (nf ((y + 1) * W + x)))) = T (nf (y * W + x)) (nf (y * W + (x + 1))) + T (nf (y * W + (x + 1))) (nf ((y + 1) * W + (x + 1))) + T (nf ((y + 1) * W + (x + 1))) (nf ((y + 1) * W + x)) from sm (n := _ + _) (by omega)]
  exact sm (n := T (nf (y * W + x)) (nf (y * W + (x + 1))) + T (nf (y * W + (x + 1))) (nf ((y + 1) * W + (x + 1))) + T (nf ((y + 1) * W + (x + 1))) (nf ((y + 1) * W + x)) + T (nf ((y + 1) * W + x)) (nf (y * W + x))) (by omega)
end Go.Proofs.Ytbpdmbgkoijfbaa
namespace Go.Proofs.Ytbpdmbgkoijfbaa
open Go.Ab
attribute [local irreducible] aggOk drwOK
set_option maxRecDepth 100000
set_option maxHeartbeats 4000000
set_option linter.unusedVariables false
set_option linter.unusedSimpArgs false
theorem iltn {a b : Nat} (h : a < b) : iLt (Int.ofNat a) ((b : Nat) : Int) = true := by rw [iLt_eq]; exact decide_eq_true (by show (a : Int) < (b : Int); omega)
theorem iltf {a b : Nat} (h : ¬ a < b) : iLt (Int.ofNat a) ((b : Nat) : Int) = false := by rw [iLt_eq]; exact decide_eq_false (by show ¬ (a : Int) < (b : Int); omega)
theorem hits_app (g : Grid) (W1 n : Nat) : ∀ m, ∃ r, hits g W1 (n + m) = hits g W1 n ++ r
  | 0 => ⟨[], (List.append_nil _).symm⟩
  | m + 1 => by
    obtain ⟨r, hr⟩ := hits_app g W1 n m
    by_cases h : ixk g W1 (n + m) = 0
    · exact ⟨r, by rw [← Nat.add_assoc, hits_f h, hr]⟩
    · exact ⟨r ++ [n + m], by rw [← Nat.add_assoc, hits_t h, hr, List.append_assoc]⟩
theorem hits_get {g : Grid} {W1 n T : Nat} (hn : n < T) (h : ixk g W1 n ≠ 0) : (hits g W1 n).length < (hits g W1 T).length ∧ (hits g W1 T).getD (hits g W1 n).length 0 = n := by
  obtain ⟨m, rfl⟩ := Nat.le.dest (show n + 1 ≤ T from hn)
  obtain ⟨r, hr⟩ := hits_app g W1 (n + 1) m
  rw [hr, hits_t h]
  constructor
  · rw [List.length_append, List.length_append]; show _ < _ + 1 + _; omega
  · rw [List.getD_eq_getElem?_getD, List.append_assoc, List.getElem?_append_right (Nat.le_refl _), Nat.sub_self]; rfl
theorem eq35 (a b c e x y z w : Int) : eqV Try.prog 40 35 (.agg ⟨[.int .i64 a, .int .i64 b, .int .i64 c, .int .i64 e]⟩) (.agg ⟨[.int .i64 x, .int .i64 y, .int .i64 z, .int .i64 w]⟩) = some (iEq a x && (iEq b y && (iEq c z && (iEq e w && true)))) := by kernel_rfl
theorem eq35t {a b c e x y z w : Int} (h1 : a = x) (h2 : b = y) (h3 : c = z) (h4 : e = w) : eqV Try.prog 40 35 (.agg ⟨[.int .i64 a, .int .i64 b, .int .i64 c, .int .i64 e]⟩) (.agg ⟨[.int .i64 x, .int .i64 y, .int .i64 z, .int .i64 w]⟩) = some true := by rw [eq35, h1, h2, h3, h4, iEq_self, iEq_self, iEq_self, iEq_self]; rfl
theorem l7 (F d : Nat) (hF : 300 < F) (x0 x1 x2 : Int) (h0 : 0 ≤ x0 ∧ x0 < 256) (h1 : 0 ≤ x1 ∧ x1 < 256) (h2 : 0 ≤ x2 ∧ x2 < 256) (a : Option Addr) (n c : Nat) (nf : Nat → Int) (_ : ∀ j, n ≤ j → nf j = 0) (hnf : ∀ j, 0 ≤ nf j ∧ nf j < 256) (y0 y1 y2 y3 : Int) (k0 : 0 ≤ y0 ∧ y0 < 256) (k1 : 0 ≤ y1 ∧ y1 < 256) (k2 : 0 ≤ y2 ∧ y2 < 256) (k3 : 0 ≤ y3 ∧ y3 < 256) : ReadC (CL F (d + 10)) 7 [.agg [.int .u8 x0, .int .u8 x1, .int .u8 x2, .sl 1000 a n c], .agg [.int .u8 y0, .int .u8 y1, .int .u8 y2, .int .u8 y3]] [(1000, .ro a n c 1 fun j => [.int .u8 (nf j)])] (2400000 + 100) (.bool true) := by
  obtain ⟨W, hW⟩ : ∃ W : Nat, (W : Int) = 2 + x0 % 5 := ⟨(2 + x0 % 5).toNat, by omega⟩
  obtain ⟨H, hH⟩ : ∃ H : Nat, (H : Int) = 2 + x1 % 5 := ⟨(2 + x1 % 5).toNat, by omega⟩
  have hWb : 2 ≤ W ∧ W ≤ 6 := by omega
  have hHb : 2 ≤ H ∧ H ≤ 6 := by omega
  have hWH : W * H ≤ 6 * 6 := Nat.mul_le_mul hWb.2 hHb.2
  have k31 := c31 F (d + 8) (by omega) 700 x0 x1 x2 h0 h1 h2 a n c nf hnf W H hW hH
  have hC := land_cert n nf W H (x2 % 80) (by omega)
  have hD := mkN_dir n nf
  have ho : 0 ≤ x2 % 80 ∧ x2 % 80 ≤ 400 := by omega
  generalize x2 % 80 = o at k31 hC ho
  generalize mkN n nf = ng at k31 hC hD
  obtain ⟨x, y, w, h, hx, hy, hw, hh, h32⟩ := c32 F (d + 7) W H y0 y1 y2 y3 k0 k1 k2 k3 (by omega) (by omega)
  have hs := hC.sure ho.1

  have hWH1 : ((W - 1) * (H - 1)) ≤ 5 * 5 := Nat.mul_le_mul (by omega) (by omega)
  have h17 := fun a => chk_ok F d (by omega) W H o a (W * H) ng hD (by omega) (by omega) ho hC
  have k22 := fun a => c22_ok F d (by omega) 600 W H o a (W * H) (W * H) ng hD (by omega) (by omega) rfl (h17 a)
  have iB := fun a => c20_ok F d (by omega) W H o a (W * H) (W * H) ng x y w h hD (by omega) (by omega) rfl hx hy hw hh (h17 a)
  have hfin := fS_sum hs (by omega) hx hy
  have hcell : ∀ q, q < ((W - 1) * (H - 1)) → -1 ≤ ixk (grid ng W) (W - 1) q ∧ ixk (grid ng W) (W - 1) q ≤ 1 := fun q hq => by
    have h1 := ixk_cel (grid ng W) (W - 1) q
    have h2 : q % (W - 1) < W - 1 := Nat.mod_lt _ (by omega)
    have h3 : q / (W - 1) < H - 1 := by rw [Nat.div_lt_iff_lt_mul (by omega), Nat.mul_comm]; exact hq
    have h4 := cel_bd hs (u := q % (W - 1)) (v := q / (W - 1)) (by omega) (by omega)
    omega
  have hMS := fun n hn => fM_bd (x := x) (y := y) (w := w) (h := h) hcell (n := n) hn
  have hLen := fun n => hits_len (grid ng W) (W - 1) n
  have hget := fun n (hn : n < ((W - 1) * (H - 1))) h => hits_get (g := grid ng W) (W1 := W - 1) hn h
  obtain ⟨L, hL⟩ : ∃ L, L = hits (grid ng W) (W - 1) ((W - 1) * (H - 1)) := ⟨_, rfl⟩
  rw [← hL] at k22 hget
  have exw : wr .i64 (Int.add (x : Nat) (w : Nat)) = ((x + w : Nat) : Int) := wr_nat (i := x + w) (by omega)
  have eyh : wr .i64 (Int.add (y : Nat) (h : Nat)) = ((y + h : Nat) : Int) := wr_nat (i := y + h) (by omega)
  intro R
  rw [show 2400000 + 100 = (2400000) + 100 from rfl, addL_eq, ← Nat.add_assoc, ← addL_eq _ 100, Nat.add_comm R (2400000)]
  refine call_in (n := 180) Try.func7 rfl rfl rfl rfl rfl rfl rfl ?_
  repeat' ((conv => whnf); first
           | refine eqS_rfl ?_
           | refine eqA_rfl ?_
           | refine eqA_of (by assumption) ?_
           | refine eqS_of (by rfl) ?_
           | refine eqL_rfl ?_
           | refine eqJ_rfl ?_
           | refine flE_intro (fun _ _ => rfl) ?_
           | refine seS_rfl ?_
           | refine brS_tt ?_
           | refine brS_ff ?_
           | refine brS_not ?_
           | refine brS_t (iEq_self _) ?_
           | refine brS_t (by assumption) ?_
           | refine brS_f (by assumption) ?_
           | refine brS_intro (fun _ => ?_) (fun _ => ?_)
           | refine ltS_intro (by first | assumption | decide | exact Nat.le_of_ble_eq_true rfl | omega) ?_
           | refine ixS_of rfl (by first | assumption | decide | omega) ?_
           | refine okS_intro (by first | assumption | kernel_rfl) ?_
           | refine nzS_intro (by first | decide | assumption) ?_
           | refine call31 k31 (addL (2395000 + R) 90) (by rfl) (by exact SeesM.cons 1000 (sees_ro (i := 1000) (by rfl)) (SeesM.nil _) (fun _ _ _ _ _ _ x hx => by cases hx)) (by (first | (simp only [addL_eq, addL_rec]; omega) | omega | exact Nat.le_refl _)) ?_
           | refine call_pureD (h32 o _ (W * H) (W * H)) (addL (2390000 + R) 80) (by rfl) (by (first | (simp only [addL_eq, addL_rec]; omega) | omega | exact Nat.le_refl _)) ?_
           | refine call22 (k22 _) (addL (2100000 + R) 50) (by rfl) (by exact SeesM.cons 1000 (sees_gr (i := 700) (by rfl)) (SeesM.nil _) (fun _ _ _ _ _ _ x hx => by cases hx)) (by (first | (simp only [addL_eq, addL_rec]; omega) | omega | exact Nat.le_refl _)) ?_
           | intro _)
  rename_i a0 b5 b6 a1 a2
  conv => whnf
  refine loS_i (fun jj f mm R' ni => ∃ v : Nat, v ≤ H - 1 ∧ jj = H - v ∧ f = [(5, .ptr 2 b5 0), (6, .ptr 3 b6 0), (7, i64 (sumN (v * (W - 1)) (fS (grid ng W) (W - 1) x y w h))), (8, i64 (sumN (v * (W - 1)) (fM (grid ng W) (W - 1) x y w h))), (9, .sl 600 a1 L.length L.length), (10, .sl 601 a2 L.length L.length), (11, i64 0), (12, .int .i64 (Int.ofNat ((hits (grid ng W) (W - 1) (v * (W - 1))).length))), (13, .int .i64 (Int.ofNat v))] ∧ mm = [(3, .own b6 35 [i64 x, i64 y, i64 w, i64 h]), (2, .own b5 24 [i64 W, i64 H, i64 o, .sl 700 a0 (W * H) (W * H)]), (700, .gr a0 (W * H) 3 1 fun j => [i64 (ng j)]), (600, .gr a1 L.length 35 4 (fC (W - 1) L)), (601, .gr a2 L.length 3 1 (fX (grid ng W) (W - 1) L))] ∧ R' = addL (R + 76000 + 76000 * (((W - 1) * (H - 1)) - (v * (W - 1)))) 200 ∧ ni = 100) H (by omega)
    ⟨[(5, .ptr 2 b5 0), (6, .ptr 3 b6 0), (7, i64 (sumN (0 * (W - 1)) (fS (grid ng W) (W - 1) x y w h))), (8, i64 (sumN (0 * (W - 1)) (fM (grid ng W) (W - 1) x y w h))), (9, .sl 600 a1 L.length L.length), (10, .sl 601 a2 L.length L.length), (11, i64 0), (12, .int .i64 (Int.ofNat ((hits (grid ng W) (W - 1) (0 * (W - 1))).length))), (13, .int .i64 (Int.ofNat 0))], [(3, .own b6 35 [i64 x, i64 y, i64 w, i64 h]), (2, .own b5 24 [i64 W, i64 H, i64 o, .sl 700 a0 (W * H) (W * H)]), (700, .gr a0 (W * H) 3 1 fun j => [i64 (ng j)]), (600, .gr a1 L.length 35 4 (fC (W - 1) L)), (601, .gr a2 L.length 3 1 (fX (grid ng W) (W - 1) L))], addL (R + 76000 + 76000 * (((W - 1) * (H - 1)) - (0 * (W - 1)))) 200, 100, ?_, (by refine Sel.wk ?_; (try simp only [List.cons_append, List.nil_append]); repeat' (first | exact Sel.nil | exact Sel.all | exact Sel.left | refine Sel.cons Pick.here ?_ | refine Sel.cons (Pick.there Pick.here) ?_ | refine Sel.cons (Pick.there (Pick.there Pick.here)) ?_ | refine Sel.cons (Pick.there (Pick.there (Pick.there Pick.here))) ?_ | refine Sel.cons (Pick.there (Pick.there (Pick.there (Pick.there Pick.here)))) ?_ | refine Sel.cons (Pick.there (Pick.there (Pick.there (Pick.there (Pick.there Pick.here))))) ?_ | refine Sel.cons (Pick.there (Pick.there (Pick.there (Pick.there (Pick.there (Pick.there Pick.here)))))) ?_ | refine Sel.cons (Pick.there (Pick.there (Pick.there (Pick.there (Pick.there (Pick.there (Pick.there Pick.here))))))) ?_ | refine Sel.cons (Pick.there (Pick.there (Pick.there (Pick.there (Pick.there (Pick.there (Pick.there (Pick.there Pick.here)))))))) ?_ | refine Sel.cons (Pick.there (Pick.there (Pick.there (Pick.there (Pick.there (Pick.there (Pick.there (Pick.there (Pick.there Pick.here))))))))) ?_ | refine Sel.cons (Pick.there (Pick.there (Pick.there (Pick.there (Pick.there (Pick.there (Pick.there (Pick.there (Pick.there (Pick.there Pick.here)))))))))) ?_ | refine Sel.cons (Pick.there (Pick.there (Pick.there (Pick.there (Pick.there (Pick.there (Pick.there (Pick.there (Pick.there (Pick.there (Pick.there Pick.here))))))))))) ?_ | refine Sel.consw Pick.here ⟨rfl, rfl, rfl⟩ ?_ | refine Sel.consw (Pick.there Pick.here) ⟨rfl, rfl, rfl⟩ ?_ | refine Sel.consw (Pick.there (Pick.there Pick.here)) ⟨rfl, rfl, rfl⟩ ?_ | refine Sel.consw (Pick.there (Pick.there (Pick.there Pick.here))) ⟨rfl, rfl, rfl⟩ ?_ | refine Sel.consw (Pick.there (Pick.there (Pick.there (Pick.there Pick.here)))) ⟨rfl, rfl, rfl⟩ ?_ | refine Sel.consw (Pick.there (Pick.there (Pick.there (Pick.there (Pick.there Pick.here))))) ⟨rfl, rfl, rfl⟩ ?_ | refine Sel.consw (Pick.there (Pick.there (Pick.there (Pick.there (Pick.there (Pick.there Pick.here)))))) ⟨rfl, rfl, rfl⟩ ?_ | refine Sel.consw (Pick.there (Pick.there (Pick.there (Pick.there (Pick.there (Pick.there (Pick.there Pick.here))))))) ⟨rfl, rfl, rfl⟩ ?_ | refine Sel.consw (Pick.there (Pick.there (Pick.there (Pick.there (Pick.there (Pick.there (Pick.there (Pick.there Pick.here)))))))) ⟨rfl, rfl, rfl⟩ ?_ | refine Sel.consw (Pick.there (Pick.there (Pick.there (Pick.there (Pick.there (Pick.there (Pick.there (Pick.there (Pick.there Pick.here))))))))) ⟨rfl, rfl, rfl⟩ ?_ | refine Sel.consw (Pick.there (Pick.there (Pick.there (Pick.there (Pick.there (Pick.there (Pick.there (Pick.there (Pick.there (Pick.there Pick.here)))))))))) ⟨rfl, rfl, rfl⟩ ?_ | refine Sel.consw (Pick.there (Pick.there (Pick.there (Pick.there (Pick.there (Pick.there (Pick.there (Pick.there (Pick.there (Pick.there (Pick.there Pick.here))))))))))) ⟨rfl, rfl, rfl⟩ ?_ | refine Sel.snoc Pick.here ?_ | refine Sel.snoc (Pick.there Pick.here) ?_ | refine Sel.snoc (Pick.there (Pick.there Pick.here)) ?_ | refine Sel.snoc (Pick.there (Pick.there (Pick.there Pick.here))) ?_ | refine Sel.snoc (Pick.there (Pick.there (Pick.there (Pick.there Pick.here)))) ?_ | refine Sel.snoc (Pick.there (Pick.there (Pick.there (Pick.there (Pick.there Pick.here))))) ?_ | refine Sel.snoc (Pick.there (Pick.there (Pick.there (Pick.there (Pick.there (Pick.there Pick.here)))))) ?_ | refine Sel.snoc (Pick.there (Pick.there (Pick.there (Pick.there (Pick.there (Pick.there (Pick.there Pick.here))))))) ?_ | refine Sel.snoc (Pick.there (Pick.there (Pick.there (Pick.there (Pick.there (Pick.there (Pick.there (Pick.there Pick.here)))))))) ?_ | refine Sel.snoc (Pick.there (Pick.there (Pick.there (Pick.there (Pick.there (Pick.there (Pick.there (Pick.there (Pick.there Pick.here))))))))) ?_ | refine Sel.snoc (Pick.there (Pick.there (Pick.there (Pick.there (Pick.there (Pick.there (Pick.there (Pick.there (Pick.there (Pick.there Pick.here)))))))))) ?_ | refine Sel.snoc (Pick.there (Pick.there (Pick.there (Pick.there (Pick.there (Pick.there (Pick.there (Pick.there (Pick.there (Pick.there (Pick.there Pick.here))))))))))) ?_ | refine Sel.drop ?_)), by have hzm := Nat.zero_mul (W - 1); (first | (simp only [addL_eq, addL_rec]; omega) | omega | exact Nat.le_refl _), 0, by omega, by omega, rfl, rfl, rfl, rfl⟩ ?_
  · rw [Nat.zero_mul]
    exact ⟨eqF_rfl _, eqF_rfl _, eqF_rfl _, eqF_rfl _, eqF_rfl _, eqF_rfl _, eqF_rfl _, eqF_rfl _, eqF_rfl _, trivial⟩
  rintro _ _ _ _ _ ⟨v, hv, rfl, rfl, rfl, rfl, rfl⟩
  by_cases hvH : v + 1 < H
  · have dv : iLt (wr .i64 (Int.add (Int.ofNat v) 1)) (H : Nat) = true := by rw [show wr .i64 (Int.add (Int.ofNat v) 1) = ((v + 1 : Nat) : Int) from wr_nat (i := v + 1) (by omega), iLt_eq]; exact decide_eq_true (by omega)
    repeat' ((conv => whnf); first
             | refine eqS_rfl ?_
             | refine eqA_rfl ?_
             | refine eqA_of (by assumption) ?_
             | refine eqS_of (by rfl) ?_
             | refine eqL_rfl ?_
             | refine eqJ_rfl ?_
             | refine flE_intro (fun _ _ => rfl) ?_
             | refine seS_rfl ?_
             | refine brS_tt ?_
             | refine brS_ff ?_
             | refine brS_not ?_
             | refine brS_t (iEq_self _) ?_
             | refine brS_t (by assumption) ?_
             | refine brS_f (by assumption) ?_
             | refine brS_intro (fun _ => ?_) (fun _ => ?_)
             | refine ltS_intro (by first | assumption | decide | exact Nat.le_of_ble_eq_true rfl | omega) ?_
             | refine ixS_of rfl (by first | assumption | decide | omega) ?_
             | refine okS_intro (by first | assumption | kernel_rfl) ?_
             | refine nzS_intro (by first | decide | assumption) ?_
             | intro _)
    conv => whnf
    refine loS_i (fun jj f mm R' ni => ∃ u : Nat, u ≤ W - 1 ∧ jj = W - u ∧ f = [(5, .ptr 2 b5 0), (6, .ptr 3 b6 0), (7, i64 (sumN (v * (W - 1) + u) (fS (grid ng W) (W - 1) x y w h))), (8, i64 (sumN (v * (W - 1) + u) (fM (grid ng W) (W - 1) x y w h))), (9, .sl 600 a1 L.length L.length), (10, .sl 601 a2 L.length L.length), (11, i64 0), (12, .int .i64 (Int.ofNat ((hits (grid ng W) (W - 1) (v * (W - 1) + u)).length))), (13, .int .i64 (Int.ofNat v)), (14, .int .i64 (Int.ofNat u))] ∧ mm = [(3, .own b6 35 [i64 x, i64 y, i64 w, i64 h]), (2, .own b5 24 [i64 W, i64 H, i64 o, .sl 700 a0 (W * H) (W * H)]), (700, .gr a0 (W * H) 3 1 fun j => [i64 (ng j)]), (600, .gr a1 L.length 35 4 (fC (W - 1) L)), (601, .gr a2 L.length 3 1 (fX (grid ng W) (W - 1) L))] ∧ R' = addL (R + 76000 + 76000 * (((W - 1) * (H - 1)) - (v * (W - 1) + u))) 200 ∧ ni = 100) W (by omega)
      ⟨[(5, .ptr 2 b5 0), (6, .ptr 3 b6 0), (7, i64 (sumN (v * (W - 1) + 0) (fS (grid ng W) (W - 1) x y w h))), (8, i64 (sumN (v * (W - 1) + 0) (fM (grid ng W) (W - 1) x y w h))), (9, .sl 600 a1 L.length L.length), (10, .sl 601 a2 L.length L.length), (11, i64 0), (12, .int .i64 (Int.ofNat ((hits (grid ng W) (W - 1) (v * (W - 1) + 0)).length))), (13, .int .i64 (Int.ofNat v)), (14, .int .i64 (Int.ofNat 0))], [(3, .own b6 35 [i64 x, i64 y, i64 w, i64 h]), (2, .own b5 24 [i64 W, i64 H, i64 o, .sl 700 a0 (W * H) (W * H)]), (700, .gr a0 (W * H) 3 1 fun j => [i64 (ng j)]), (600, .gr a1 L.length 35 4 (fC (W - 1) L)), (601, .gr a2 L.length 3 1 (fX (grid ng W) (W - 1) L))], addL (R + 76000 + 76000 * (((W - 1) * (H - 1)) - (v * (W - 1) + 0))) 200, 100, ⟨eqF_rfl _, eqF_rfl _, eqF_rfl _, eqF_rfl _, eqF_rfl _, eqF_rfl _, eqF_rfl _, eqF_rfl _, eqF_rfl _, eqF_rfl _, trivial⟩, WkM.refl _, by (first | (simp only [addL_eq, addL_rec]; omega) | omega | exact Nat.le_refl _), 0, by omega, by omega, rfl, rfl, rfl, rfl⟩ ?_
    rintro _ _ _ _ _ ⟨u, hu, rfl, rfl, rfl, rfl, rfl⟩
    by_cases huW : u + 1 < W
    · have du : iLt (wr .i64 (Int.add (Int.ofNat u) 1)) (W : Nat) = true := by rw [show wr .i64 (Int.add (Int.ofNat u) 1) = ((u + 1 : Nat) : Int) from wr_nat (i := u + 1) (by omega), iLt_eq]; exact decide_eq_true (by omega)
      obtain ⟨qa, qb, qc⟩ := cell_at (w := W - 1) (h := H - 1) (u := u) (v := v) (by omega) (by omega)
      have i20 := c20_ok F d (by omega) W H o a0 (W * H) (W * H) ng u v 1 1 hD (by omega) (by omega) rfl huW hvH (by omega) (by omega) (h17 a0)
      have hx2 : ixk (grid ng W) (W - 1) (v * (W - 1) + u) = (bsum (grid ng W) u v 1 1).tdiv 3600 := by unfold ixk; rw [qb, qc, Nat.zero_add, Nat.zero_add]
      have hx : ixk (grid ng W) (W - 1) (v * (W - 1) + u) = (bsum (grid ng W) u v 1 1).tdiv 3600 := hx2
      have hc1 := hcell _ qa
      rw [hx] at hc1
      have hcel := ixk_cel (grid ng W) (W - 1) (v * (W - 1) + u)
      rw [hx, qb, qc] at hcel
      have f1 : iLt ((bsum (grid ng W) u v 1 1).tdiv 3600) (-1) = false := by rw [iLt_eq]; exact decide_eq_false (by omega)
      have f2 : iLt 1 ((bsum (grid ng W) u v 1 1).tdiv 3600) = false := by rw [iLt_eq]; exact decide_eq_false (by omega)
      have f3 : iEq (cel (grid ng W) u v) (wr .i64 (Int.mul ((bsum (grid ng W) u v 1 1).tdiv 3600) 3600)) = true := by
        rw [show wr .i64 (Int.mul ((bsum (grid ng W) u v 1 1).tdiv 3600) 3600) = (bsum (grid ng W) u v 1 1).tdiv 3600 * 3600 from sm (n := (bsum (grid ng W) u v 1 1).tdiv 3600 * 3600) (by omega), iEq_eq]
        exact decide_eq_true (by omega)
      have hms := hMS (v * (W - 1) + u) (by omega)
      have hln := hLen (v * (W - 1) + u)
      have hfS : fS (grid ng W) (W - 1) x y w h (v * (W - 1) + u) = if insB x y w h u v then (bsum (grid ng W) u v 1 1).tdiv 3600 else 0 := by unfold fS; rw [qb, qc, hx]
      have hfM : fM (grid ng W) (W - 1) x y w h (v * (W - 1) + u) = if insB x y w h u v ∧ (bsum (grid ng W) u v 1 1).tdiv 3600 ≠ 0 then 1 else 0 := by unfold fM; rw [qb, qc, hx]
      by_cases hz : (bsum (grid ng W) u v 1 1).tdiv 3600 = 0
      · as_aux_lemma =>
        have fz : iEq ((bsum (grid ng W) u v 1 1).tdiv 3600) 0 = true := by rw [hz]; exact iEq_self _
        repeat' ((conv => whnf); first
                 | refine eqS_rfl ?_
                 | refine eqA_rfl ?_
                 | refine eqA_of (by assumption) ?_
                 | refine eqS_of (by rfl) ?_
                 | refine eqL_rfl ?_
                 | refine eqJ_rfl ?_
                 | refine flE_intro (fun _ _ => rfl) ?_
                 | refine seS_rfl ?_
                 | refine brS_tt ?_
                 | refine brS_ff ?_
                 | refine brS_not ?_
                 | refine brS_t (iEq_self _) ?_
                 | refine brS_t (by assumption) ?_
                 | refine brS_f (by assumption) ?_
                 | refine brS_intro (fun _ => ?_) (fun _ => ?_)
                 | refine ltS_intro (by first | assumption | decide | exact Nat.le_of_ble_eq_true rfl | omega) ?_
                 | refine ixS_of rfl (by first | assumption | decide | omega) ?_
                 | refine okS_intro (by first | assumption | kernel_rfl) ?_
                 | refine nzS_intro (by first | decide | assumption) ?_
                 | refine call_pure (c34 F _ _ _ _ _) ?_
                 | refine call_readL (c33 F (d + 7) (by omega) W H u v o a0 (W * H) (W * H) ng hD hs (by omega) (by omega) huW hvH rfl) (addL (75800 + (R + 76000 + 76000 * (((W - 1) * (H - 1)) - (v * (W - 1) + (u + 1))))) 150) (by rfl) (by exact SeesM.cons 1000 (sees_gr (i := 700) (by rfl)) (SeesM.nil _) (fun _ _ _ _ _ _ x hx => by cases hx)) (by (first | (simp only [addL_eq, addL_rec]; omega) | omega | exact Nat.le_refl _)) ?_
                 | refine call_readL i20 (addL (R + 76000 + 76000 * (((W - 1) * (H - 1)) - (v * (W - 1) + (u + 1)))) 400) (by rfl) (by exact SeesM.cons 1000 (sees_gr (i := 700) (by rfl)) (SeesM.nil _) (fun _ _ _ _ _ _ x hx => by cases hx)) (by (first | (simp only [addL_eq, addL_rec]; omega) | omega | exact Nat.le_refl _)) ?_
                 | intro _)
        all_goals conv => whnf
        · rename_i q1
          have q1 : (u : Int) < (x : Int) := ilt_t q1
          have hno : ¬ insB x y w h u v := fun ⟨⟨g1, g2⟩, g3, g4⟩ => by omega
          have eS : sumN (v * (W - 1) + (u + 1)) (fS (grid ng W) (W - 1) x y w h) = sumN (v * (W - 1) + u) (fS (grid ng W) (W - 1) x y w h) := (by show sumN (v * (W - 1) + u) _ + fS _ _ _ _ _ _ (v * (W - 1) + u) = _; rw [hfS, if_neg hno]; exact Int.add_zero _)
          have eM : sumN (v * (W - 1) + (u + 1)) (fM (grid ng W) (W - 1) x y w h) = sumN (v * (W - 1) + u) (fM (grid ng W) (W - 1) x y w h) := (by show sumN (v * (W - 1) + u) _ + fM _ _ _ _ _ _ (v * (W - 1) + u) = _; rw [hfM, if_neg (by intro hq; exact hq.2 hz)]; exact Int.add_zero _)
          have eK : Int.ofNat ((hits (grid ng W) (W - 1) (v * (W - 1) + u)).length) = Int.ofNat ((hits (grid ng W) (W - 1) (v * (W - 1) + (u + 1))).length) := by rw [← Nat.add_assoc, hits_f (by rw [hx]; exact hz)]
          exact ⟨W - (u + 1), [(5, .ptr 2 b5 0), (6, .ptr 3 b6 0), (7, i64 (sumN (v * (W - 1) + (u + 1)) (fS (grid ng W) (W - 1) x y w h))), (8, i64 (sumN (v * (W - 1) + (u + 1)) (fM (grid ng W) (W - 1) x y w h))), (9, .sl 600 a1 L.length L.length), (10, .sl 601 a2 L.length L.length), (11, i64 0), (12, .int .i64 (Int.ofNat ((hits (grid ng W) (W - 1) (v * (W - 1) + (u + 1))).length))), (13, .int .i64 (Int.ofNat v)), (14, .int .i64 (Int.ofNat (u + 1)))], _, addL (R + 76000 + 76000 * (((W - 1) * (H - 1)) - (v * (W - 1) + (u + 1)))) 200, 100, by omega, ⟨eqF_rfl _, eqF_rfl _, ⟨congrArg (Value.int .i64) eS.symm, rfl⟩, ⟨congrArg (Value.int .i64) eM.symm, rfl⟩, eqF_rfl _, eqF_rfl _, eqF_rfl _, ⟨congrArg (Value.int .i64) eK, rfl⟩, eqF_rfl _, ⟨congrArg (Value.int .i64) (wr_nat (i := u + 1) (by omega)), rfl⟩, trivial⟩, (by refine Sel.wk ?_; (try simp only [List.cons_append, List.nil_append]); repeat' (first | exact Sel.nil | exact Sel.all | exact Sel.left | refine Sel.cons Pick.here ?_ | refine Sel.cons (Pick.there Pick.here) ?_ | refine Sel.cons (Pick.there (Pick.there Pick.here)) ?_ | refine Sel.cons (Pick.there (Pick.there (Pick.there Pick.here))) ?_ | refine Sel.cons (Pick.there (Pick.there (Pick.there (Pick.there Pick.here)))) ?_ | refine Sel.cons (Pick.there (Pick.there (Pick.there (Pick.there (Pick.there Pick.here))))) ?_ | refine Sel.cons (Pick.there (Pick.there (Pick.there (Pick.there (Pick.there (Pick.there Pick.here)))))) ?_ | refine Sel.cons (Pick.there (Pick.there (Pick.there (Pick.there (Pick.there (Pick.there (Pick.there Pick.here))))))) ?_ | refine Sel.cons (Pick.there (Pick.there (Pick.there (Pick.there (Pick.there (Pick.there (Pick.there (Pick.there Pick.here)))))))) ?_ | refine Sel.cons (Pick.there (Pick.there (Pick.there (Pick.there (Pick.there (Pick.there (Pick.there (Pick.there (Pick.there Pick.here))))))))) ?_ | refine Sel.cons (Pick.there (Pick.there (Pick.there (Pick.there (Pick.there (Pick.there (Pick.there (Pick.there (Pick.there (Pick.there Pick.here)))))))))) ?_ | refine Sel.cons (Pick.there (Pick.there (Pick.there (Pick.there (Pick.there (Pick.there (Pick.there (Pick.there (Pick.there (Pick.there (Pick.there Pick.here))))))))))) ?_ | refine Sel.consw Pick.here ⟨rfl, rfl, rfl⟩ ?_ | refine Sel.consw (Pick.there Pick.here) ⟨rfl, rfl, rfl⟩ ?_ | refine Sel.consw (Pick.there (Pick.there Pick.here)) ⟨rfl, rfl, rfl⟩ ?_ | refine Sel.consw (Pick.there (Pick.there (Pick.there Pick.here))) ⟨rfl, rfl, rfl⟩ ?_ | refine Sel.consw (Pick.there (Pick.there (Pick.there (Pick.there Pick.here)))) ⟨rfl, rfl, rfl⟩ ?_ | refine Sel.consw (Pick.there (Pick.there (Pick.there (Pick.there (Pick.there Pick.here))))) ⟨rfl, rfl, rfl⟩ ?_ | refine Sel.consw (Pick.there (Pick.there (Pick.there (Pick.there (Pick.there (Pick.there Pick.here)))))) ⟨rfl, rfl, rfl⟩ ?_ | refine Sel.consw (Pick.there (Pick.there (Pick.there (Pick.there (Pick.there (Pick.there (Pick.there Pick.here))))))) ⟨rfl, rfl, rfl⟩ ?_ | refine Sel.consw (Pick.there (Pick.there (Pick.there (Pick.there (Pick.there (Pick.there (Pick.there (Pick.there Pick.here)))))))) ⟨rfl, rfl, rfl⟩ ?_ | refine Sel.consw (Pick.there (Pick.there (Pick.there (Pick.there (Pick.there (Pick.there (Pick.there (Pick.there (Pick.there Pick.here))))))))) ⟨rfl, rfl, rfl⟩ ?_ | refine Sel.consw (Pick.there (Pick.there (Pick.there (Pick.there (Pick.there (Pick.there (Pick.there (Pick.there (Pick.there (Pick.there Pick.here)))))))))) ⟨rfl, rfl, rfl⟩ ?_ | refine Sel.consw (Pick.there (Pick.there (Pick.there (Pick.there (Pick.there (Pick.there (Pick.there (Pick.there (Pick.there (Pick.there (Pick.there Pick.here))))))))))) ⟨rfl, rfl, rfl⟩ ?_ | refine Sel.snoc Pick.here ?_ | refine Sel.snoc (Pick.there Pick.here) ?_ | refine Sel.snoc (Pick.there (Pick.there Pick.here)) ?_ | refine Sel.snoc (Pick.there (Pick.there (Pick.there Pick.here))) ?_ | refine Sel.snoc (Pick.there (Pick.there (Pick.there (Pick.there Pick.here)))) ?_ | refine Sel.snoc (Pick.there (Pick.there (Pick.there (Pick.there (Pick.there Pick.here))))) ?_ | refine Sel.snoc (Pick.there (Pick.there (Pick.there (Pick.there (Pick.there (Pick.there Pick.here)))))) ?_ | refine Sel.snoc (Pick.there (Pick.there (Pick.there (Pick.there (Pick.there (Pick.there (Pick.there Pick.here))))))) ?_ | refine Sel.snoc (Pick.there (Pick.there (Pick.there (Pick.there (Pick.there (Pick.there (Pick.there (Pick.there Pick.here)))))))) ?_ | refine Sel.snoc (Pick.there (Pick.there (Pick.there (Pick.there (Pick.there (Pick.there (Pick.there (Pick.there (Pick.there Pick.here))))))))) ?_ | refine Sel.snoc (Pick.there (Pick.there (Pick.there (Pick.there (Pick.there (Pick.there (Pick.there (Pick.there (Pick.there (Pick.there Pick.here)))))))))) ?_ | refine Sel.snoc (Pick.there (Pick.there (Pick.there (Pick.there (Pick.there (Pick.there (Pick.there (Pick.there (Pick.there (Pick.there (Pick.there Pick.here))))))))))) ?_ | refine Sel.drop ?_)), by (first | (simp only [addL_eq, addL_rec]; omega) | omega | exact Nat.le_refl _), u + 1, by omega, rfl, rfl, rfl, rfl, rfl⟩
        · rename_i q1 q2 q3
          have q1 : (x : Int) ≤ (u : Int) := ilt_f q1
          rw [exw] at q2
          have q2 : (u : Int) < ((x + w : Nat) : Int) := ilt_t q2
          have q3 : (v : Int) < (y : Int) := ilt_t q3
          have hno : ¬ insB x y w h u v := fun ⟨⟨g1, g2⟩, g3, g4⟩ => by omega
          have eS : sumN (v * (W - 1) + (u + 1)) (fS (grid ng W) (W - 1) x y w h) = sumN (v * (W - 1) + u) (fS (grid ng W) (W - 1) x y w h) := (by show sumN (v * (W - 1) + u) _ + fS _ _ _ _ _ _ (v * (W - 1) + u) = _; rw [hfS, if_neg hno]; exact Int.add_zero _)
          have eM : sumN (v * (W - 1) + (u + 1)) (fM (grid ng W) (W - 1) x y w h) = sumN (v * (W - 1) + u) (fM (grid ng W) (W - 1) x y w h) := (by show sumN (v * (W - 1) + u) _ + fM _ _ _ _ _ _ (v * (W - 1) + u) = _; rw [hfM, if_neg (by intro hq; exact hq.2 hz)]; exact Int.add_zero _)
          have eK : Int.ofNat ((hits (grid ng W) (W - 1) (v * (W - 1) + u)).length) = Int.ofNat ((hits (grid ng W) (W - 1) (v * (W - 1) + (u + 1))).length) := by rw [← Nat.add_assoc, hits_f (by rw [hx]; exact hz)]
          exact ⟨W - (u + 1), [(5, .ptr 2 b5 0), (6, .ptr 3 b6 0), (7, i64 (sumN (v * (W - 1) + (u + 1)) (fS (grid ng W) (W - 1) x y w h))), (8, i64 (sumN (v * (W - 1) + (u + 1)) (fM (grid ng W) (W - 1) x y w h))), (9, .sl 600 a1 L.length L.length), (10, .sl 601 a2 L.length L.length), (11, i64 0), (12, .int .i64 (Int.ofNat ((hits (grid ng W) (W - 1) (v * (W - 1) + (u + 1))).length))), (13, .int .i64 (Int.ofNat v)), (14, .int .i64 (Int.ofNat (u + 1)))], _, addL (R + 76000 + 76000 * (((W - 1) * (H - 1)) - (v * (W - 1) + (u + 1)))) 200, 100, by omega, ⟨eqF_rfl _, eqF_rfl _, ⟨congrArg (Value.int .i64) eS.symm, rfl⟩, ⟨congrArg (Value.int .i64) eM.symm, rfl⟩, eqF_rfl _, eqF_rfl _, eqF_rfl _, ⟨congrArg (Value.int .i64) eK, rfl⟩, eqF_rfl _, ⟨congrArg (Value.int .i64) (wr_nat (i := u + 1) (by omega)), rfl⟩, trivial⟩, (by refine Sel.wk ?_; (try simp only [List.cons_append, List.nil_append]); repeat' (first | exact Sel.nil | exact Sel.all | exact Sel.left | refine Sel.cons Pick.here ?_ | refine Sel.cons (Pick.there Pick.here) ?_ | refine Sel.cons (Pick.there (Pick.there Pick.here)) ?_ | refine Sel.cons (Pick.there (Pick.there (Pick.there Pick.here))) ?_ | refine Sel.cons (Pick.there (Pick.there (Pick.there (Pick.there Pick.here)))) ?_ | refine Sel.cons (Pick.there (Pick.there (Pick.there (Pick.there (Pick.there Pick.here))))) ?_ | refine Sel.cons (Pick.there (Pick.there (Pick.there (Pick.there (Pick.there (Pick.there Pick.here)))))) ?_ | refine Sel.cons (Pick.there (Pick.there (Pick.there (Pick.there (Pick.there (Pick.there (Pick.there Pick.here))))))) ?_ | refine Sel.cons (Pick.there (Pick.there (Pick.there (Pick.there (Pick.there (Pick.there (Pick.there (Pick.there Pick.here)))))))) ?_ | refine Sel.cons (Pick.there (Pick.there (Pick.there (Pick.there (Pick.there (Pick.there (Pick.there (Pick.there (Pick.there Pick.here))))))))) ?_ | refine Sel.cons (Pick.there (Pick.there (Pick.there (Pick.there (Pick.there (Pick.there (Pick.there (Pick.there (Pick.there (Pick.there Pick.here)))))))))) ?_ | refine Sel.cons (Pick.there (Pick.there (Pick.there (Pick.there (Pick.there (Pick.there (Pick.there (Pick.there (Pick.there (Pick.there (Pick.there Pick.here))))))))))) ?_ | refine Sel.consw Pick.here ⟨rfl, rfl, rfl⟩ ?_ | refine Sel.consw (Pick.there Pick.here) ⟨rfl, rfl, rfl⟩ ?_ | refine Sel.consw (Pick.there (Pick.there Pick.here)) ⟨rfl, rfl, rfl⟩ ?_ | refine Sel.consw (Pick.there (Pick.there (Pick.there Pick.here))) ⟨rfl, rfl, rfl⟩ ?_ | refine Sel.consw (Pick.there (Pick.there (Pick.there (Pick.there Pick.here)))) ⟨rfl, rfl, rfl⟩ ?_ | refine Sel.consw (Pick.there (Pick.there (Pick.there (Pick.there (Pick.there Pick.here))))) ⟨rfl, rfl, rfl⟩ ?_ | refine Sel.consw (Pick.there (Pick.there (Pick.there (Pick.there (Pick.there (Pick.there Pick.here)))))) ⟨rfl, rfl, rfl⟩ ?_ | refine Sel.consw (Pick.there (Pick.there (Pick.there (Pick.there (Pick.there (Pick.there (Pick.there Pick.here))))))) ⟨rfl, rfl, rfl⟩ ?_ | refine Sel.consw (Pick.there (Pick.there (Pick.there (Pick.there (Pick.there (Pick.there (Pick.there (Pick.there Pick.here)))))))) ⟨rfl, rfl, rfl⟩ ?_ | refine Sel.consw (Pick.there (Pick.there (Pick.there (Pick.there (Pick.there (Pick.there (Pick.there (Pick.there (Pick.there Pick.here))))))))) ⟨rfl, rfl, rfl⟩ ?_ | refine Sel.consw (Pick.there (Pick.there (Pick.there (Pick.there (Pick.there (Pick.there (Pick.there (Pick.there (Pick.there (Pick.there Pick.here)))))))))) ⟨rfl, rfl, rfl⟩ ?_ | refine Sel.consw (Pick.there (Pick.there (Pick.there (Pick.there (Pick.there (Pick.there (Pick.there (Pick.there (Pick.there (Pick.there (Pick.there Pick.here))))))))))) ⟨rfl, rfl, rfl⟩ ?_ | refine Sel.snoc Pick.here ?_ | refine Sel.snoc (Pick.there Pick.here) ?_ | refine Sel.snoc (Pick.there (Pick.there Pick.here)) ?_ | refine Sel.snoc (Pick.there (Pick.there (Pick.there Pick.here))) ?_ | refine Sel.snoc (Pick.there (Pick.there (Pick.there (Pick.there Pick.here)))) ?_ | refine Sel.snoc (Pick.there (Pick.there (Pick.there (Pick.there (Pick.there Pick.here))))) ?_ | refine Sel.snoc (Pick.there (Pick.there (Pick.there (Pick.there (Pick.there (Pick.there Pick.here)))))) ?_ | refine Sel.snoc (Pick.there (Pick.there (Pick.there (Pick.there (Pick.there (Pick.there (Pick.there Pick.here))))))) ?_ | refine Sel.snoc (Pick.there (Pick.there (Pick.there (Pick.there (Pick.there (Pick.there (Pick.there (Pick.there Pick.here)))))))) ?_ | refine Sel.snoc (Pick.there (Pick.there (Pick.there (Pick.there (Pick.there (Pick.there (Pick.there (Pick.there (Pick.there Pick.here))))))))) ?_ | refine Sel.snoc (Pick.there (Pick.there (Pick.there (Pick.there (Pick.there (Pick.there (Pick.there (Pick.there (Pick.there (Pick.there Pick.here)))))))))) ?_ | refine Sel.snoc (Pick.there (Pick.there (Pick.there (Pick.there (Pick.there (Pick.there (Pick.there (Pick.there (Pick.there (Pick.there (Pick.there Pick.here))))))))))) ?_ | refine Sel.drop ?_)), by (first | (simp only [addL_eq, addL_rec]; omega) | omega | exact Nat.le_refl _), u + 1, by omega, rfl, rfl, rfl, rfl, rfl⟩
        · rename_i q1 q2 q3 q4
          have q1 : (x : Int) ≤ (u : Int) := ilt_f q1
          rw [exw] at q2
          have q2 : (u : Int) < ((x + w : Nat) : Int) := ilt_t q2
          have q3 : (y : Int) ≤ (v : Int) := ilt_f q3
          rw [eyh] at q4
          have q4 : (v : Int) < ((y + h : Nat) : Int) := ilt_t q4
          have hin : insB x y w h u v := ⟨⟨by omega, by omega⟩, by omega, by omega⟩
          have eS : sumN (v * (W - 1) + (u + 1)) (fS (grid ng W) (W - 1) x y w h) = wr .i64 (Int.add (sumN (v * (W - 1) + u) (fS (grid ng W) (W - 1) x y w h)) ((bsum (grid ng W) u v 1 1).tdiv 3600)) := (by show sumN (v * (W - 1) + u) _ + fS _ _ _ _ _ _ (v * (W - 1) + u) = _; rw [hfS, if_pos hin]; exact (sm (n := sumN (v * (W - 1) + u) (fS (grid ng W) (W - 1) x y w h) + (bsum (grid ng W) u v 1 1).tdiv 3600) (by omega)).symm)
          have eM : sumN (v * (W - 1) + (u + 1)) (fM (grid ng W) (W - 1) x y w h) = sumN (v * (W - 1) + u) (fM (grid ng W) (W - 1) x y w h) := (by show sumN (v * (W - 1) + u) _ + fM _ _ _ _ _ _ (v * (W - 1) + u) = _; rw [hfM, if_neg (by intro hq; exact hq.2 hz)]; exact Int.add_zero _)
          have eK : Int.ofNat ((hits (grid ng W) (W - 1) (v * (W - 1) + u)).length) = Int.ofNat ((hits (grid ng W) (W - 1) (v * (W - 1) + (u + 1))).length) := by rw [← Nat.add_assoc, hits_f (by rw [hx]; exact hz)]
          exact ⟨W - (u + 1), [(5, .ptr 2 b5 0), (6, .ptr 3 b6 0), (7, i64 (sumN (v * (W - 1) + (u + 1)) (fS (grid ng W) (W - 1) x y w h))), (8, i64 (sumN (v * (W - 1) + (u + 1)) (fM (grid ng W) (W - 1) x y w h))), (9, .sl 600 a1 L.length L.length), (10, .sl 601 a2 L.length L.length), (11, i64 0), (12, .int .i64 (Int.ofNat ((hits (grid ng W) (W - 1) (v * (W - 1) + (u + 1))).length))), (13, .int .i64 (Int.ofNat v)), (14, .int .i64 (Int.ofNat (u + 1)))], _, addL (R + 76000 + 76000 * (((W - 1) * (H - 1)) - (v * (W - 1) + (u + 1)))) 200, 100, by omega, ⟨eqF_rfl _, eqF_rfl _, ⟨congrArg (Value.int .i64) eS.symm, rfl⟩, ⟨congrArg (Value.int .i64) eM.symm, rfl⟩, eqF_rfl _, eqF_rfl _, eqF_rfl _, ⟨congrArg (Value.int .i64) eK, rfl⟩, eqF_rfl _, ⟨congrArg (Value.int .i64) (wr_nat (i := u + 1) (by omega)), rfl⟩, trivial⟩, (by refine Sel.wk ?_; (try simp only [List.cons_append, List.nil_append]); repeat' (first | exact Sel.nil | exact Sel.all | exact Sel.left | refine Sel.cons Pick.here ?_ | refine Sel.cons (Pick.there Pick.here) ?_ | refine Sel.cons (Pick.there (Pick.there Pick.here)) ?_ | refine Sel.cons (Pick.there (Pick.there (Pick.there Pick.here))) ?_ | refine Sel.cons (Pick.there (Pick.there (Pick.there (Pick.there Pick.here)))) ?_ | refine Sel.cons (Pick.there (Pick.there (Pick.there (Pick.there (Pick.there Pick.here))))) ?_ | refine Sel.cons (Pick.there (Pick.there (Pick.there (Pick.there (Pick.there (Pick.there Pick.here)))))) ?_ | refine Sel.cons (Pick.there (Pick.there (Pick.there (Pick.there (Pick.there (Pick.there (Pick.there Pick.here))))))) ?_ | refine Sel.cons (Pick.there (Pick.there (Pick.there (Pick.there (Pick.there (Pick.there (Pick.there (Pick.there Pick.here)))))))) ?_ | refine Sel.cons (Pick.there (Pick.there (Pick.there (Pick.there (Pick.there (Pick.there (Pick.there (Pick.there (Pick.there Pick.here))))))))) ?_ | refine Sel.cons (Pick.there (Pick.there (Pick.there (Pick.there (Pick.there (Pick.there (Pick.there (Pick.there (Pick.there (Pick.there Pick.here)))))))))) ?_ | refine Sel.cons (Pick.there (Pick.there (Pick.there (Pick.there (Pick.there (Pick.there (Pick.there (Pick.there (Pick.there (Pick.there (Pick.there Pick.here))))))))))) ?_ | refine Sel.consw Pick.here ⟨rfl, rfl, rfl⟩ ?_ | refine Sel.consw (Pick.there Pick.here) ⟨rfl, rfl, rfl⟩ ?_ | refine Sel.consw (Pick.there (Pick.there Pick.here)) ⟨rfl, rfl, rfl⟩ ?_ | refine Sel.consw (Pick.there (Pick.there (Pick.there Pick.here))) ⟨rfl, rfl, rfl⟩ ?_ | refine Sel.consw (Pick.there (Pick.there (Pick.there (Pick.there Pick.here)))) ⟨rfl, rfl, rfl⟩ ?_ | refine Sel.consw (Pick.there (Pick.there (Pick.there (Pick.there (Pick.there Pick.here))))) ⟨rfl, rfl, rfl⟩ ?_ | refine Sel.consw (Pick.there (Pick.there (Pick.there (Pick.there (Pick.there (Pick.there Pick.here)))))) ⟨rfl, rfl, rfl⟩ ?_ | refine Sel.consw (Pick.there (Pick.there (Pick.there (Pick.there (Pick.there (Pick.there (Pick.there Pick.here))))))) ⟨rfl, rfl, rfl⟩ ?_ | refine Sel.consw (Pick.there (Pick.there (Pick.there (Pick.there (Pick.there (Pick.there (Pick.there (Pick.there Pick.here)))))))) ⟨rfl, rfl, rfl⟩ ?_ | refine Sel.consw (Pick.there (Pick.there (Pick.there (Pick.there (Pick.there (Pick.there (Pick.there (Pick.there (Pick.there Pick.here))))))))) ⟨rfl, rfl, rfl⟩ ?_ | refine Sel.consw (Pick.there (Pick.there (Pick.there (Pick.there (Pick.there (Pick.there (Pick.there (Pick.there (Pick.there (Pick.there Pick.here)))))))))) ⟨rfl, rfl, rfl⟩ ?_ | refine Sel.consw (Pick.there (Pick.there (Pick.there (Pick.there (Pick.there (Pick.there (Pick.there (Pick.there (Pick.there (Pick.there (Pick.there Pick.here))))))))))) ⟨rfl, rfl, rfl⟩ ?_ | refine Sel.snoc Pick.here ?_ | refine Sel.snoc (Pick.there Pick.here) ?_ | refine Sel.snoc (Pick.there (Pick.there Pick.here)) ?_ | refine Sel.snoc (Pick.there (Pick.there (Pick.there Pick.here))) ?_ | refine Sel.snoc (Pick.there (Pick.there (Pick.there (Pick.there Pick.here)))) ?_ | refine Sel.snoc (Pick.there (Pick.there (Pick.there (Pick.there (Pick.there Pick.here))))) ?_ | refine Sel.snoc (Pick.there (Pick.there (Pick.there (Pick.there (Pick.there (Pick.there Pick.here)))))) ?_ | refine Sel.snoc (Pick.there (Pick.there (Pick.there (Pick.there (Pick.there (Pick.there (Pick.there Pick.here))))))) ?_ | refine Sel.snoc (Pick.there (Pick.there (Pick.there (Pick.there (Pick.there (Pick.there (Pick.there (Pick.there Pick.here)))))))) ?_ | refine Sel.snoc (Pick.there (Pick.there (Pick.there (Pick.there (Pick.there (Pick.there (Pick.there (Pick.there (Pick.there Pick.here))))))))) ?_ | refine Sel.snoc (Pick.there (Pick.there (Pick.there (Pick.there (Pick.there (Pick.there (Pick.there (Pick.there (Pick.there (Pick.there Pick.here)))))))))) ?_ | refine Sel.snoc (Pick.there (Pick.there (Pick.there (Pick.there (Pick.there (Pick.there (Pick.there (Pick.there (Pick.there (Pick.there (Pick.there Pick.here))))))))))) ?_ | refine Sel.drop ?_)), by (first | (simp only [addL_eq, addL_rec]; omega) | omega | exact Nat.le_refl _), u + 1, by omega, rfl, rfl, rfl, rfl, rfl⟩
        · rename_i q1 q2 q3 q4
          have q1 : (x : Int) ≤ (u : Int) := ilt_f q1
          rw [exw] at q2
          have q2 : (u : Int) < ((x + w : Nat) : Int) := ilt_t q2
          have q3 : (y : Int) ≤ (v : Int) := ilt_f q3
          rw [eyh] at q4
          have q4 : ((y + h : Nat) : Int) ≤ (v : Int) := ilt_f q4
          have hno : ¬ insB x y w h u v := fun ⟨⟨g1, g2⟩, g3, g4⟩ => by omega
          have eS : sumN (v * (W - 1) + (u + 1)) (fS (grid ng W) (W - 1) x y w h) = sumN (v * (W - 1) + u) (fS (grid ng W) (W - 1) x y w h) := (by show sumN (v * (W - 1) + u) _ + fS _ _ _ _ _ _ (v * (W - 1) + u) = _; rw [hfS, if_neg hno]; exact Int.add_zero _)
          have eM : sumN (v * (W - 1) + (u + 1)) (fM (grid ng W) (W - 1) x y w h) = sumN (v * (W - 1) + u) (fM (grid ng W) (W - 1) x y w h) := (by show sumN (v * (W - 1) + u) _ + fM _ _ _ _ _ _ (v * (W - 1) + u) = _; rw [hfM, if_neg (by intro hq; exact hq.2 hz)]; exact Int.add_zero _)
          have eK : Int.ofNat ((hits (grid ng W) (W - 1) (v * (W - 1) + u)).length) = Int.ofNat ((hits (grid ng W) (W - 1) (v * (W - 1) + (u + 1))).length) := by rw [← Nat.add_assoc, hits_f (by rw [hx]; exact hz)]
          exact ⟨W - (u + 1), [(5, .ptr 2 b5 0), (6, .ptr 3 b6 0), (7, i64 (sumN (v * (W - 1) + (u + 1)) (fS (grid ng W) (W - 1) x y w h))), (8, i64 (sumN (v * (W - 1) + (u + 1)) (fM (grid ng W) (W - 1) x y w h))), (9, .sl 600 a1 L.length L.length), (10, .sl 601 a2 L.length L.length), (11, i64 0), (12, .int .i64 (Int.ofNat ((hits (grid ng W) (W - 1) (v * (W - 1) + (u + 1))).length))), (13, .int .i64 (Int.ofNat v)), (14, .int .i64 (Int.ofNat (u + 1)))], _, addL (R + 76000 + 76000 * (((W - 1) * (H - 1)) - (v * (W - 1) + (u + 1)))) 200, 100, by omega, ⟨eqF_rfl _, eqF_rfl _, ⟨congrArg (Value.int .i64) eS.symm, rfl⟩, ⟨congrArg (Value.int .i64) eM.symm, rfl⟩, eqF_rfl _, eqF_rfl _, eqF_rfl _, ⟨congrArg (Value.int .i64) eK, rfl⟩, eqF_rfl _, ⟨congrArg (Value.int .i64) (wr_nat (i := u + 1) (by omega)), rfl⟩, trivial⟩, (by refine Sel.wk ?_; (try simp only [List.cons_append, List.nil_append]); repeat' (first | exact Sel.nil | exact Sel.all | exact Sel.left | refine Sel.cons Pick.here ?_ | refine Sel.cons (Pick.there Pick.here) ?_ | refine Sel.cons (Pick.there (Pick.there Pick.here)) ?_ | refine Sel.cons (Pick.there (Pick.there (Pick.there Pick.here))) ?_ | refine Sel.cons (Pick.there (Pick.there (Pick.there (Pick.there Pick.here)))) ?_ | refine Sel.cons (Pick.there (Pick.there (Pick.there (Pick.there (Pick.there Pick.here))))) ?_ | refine Sel.cons (Pick.there (Pick.there (Pick.there (Pick.there (Pick.there (Pick.there Pick.here)))))) ?_ | refine Sel.cons (Pick.there (Pick.there (Pick.there (Pick.there (Pick.there (Pick.there (Pick.there Pick.here))))))) ?_ | refine Sel.cons (Pick.there (Pick.there (Pick.there (Pick.there (Pick.there (Pick.there (Pick.there (Pick.there Pick.here)))))))) ?_ | refine Sel.cons (Pick.there (Pick.there (Pick.there (Pick.there (Pick.there (Pick.there (Pick.there (Pick.there (Pick.there Pick.here))))))))) ?_ | refine Sel.cons (Pick.there (Pick.there (Pick.there (Pick.there (Pick.there (Pick.there (Pick.there (Pick.there (Pick.there (Pick.there Pick.here)))))))))) ?_ | refine Sel.cons (Pick.there (Pick.there (Pick.there (Pick.there (Pick.there (Pick.there (Pick.there (Pick.there (Pick.there (Pick.there (Pick.there Pick.here))))))))))) ?_ | refine Sel.consw Pick.here ⟨rfl, rfl, rfl⟩ ?_ | refine Sel.consw (Pick.there Pick.here) ⟨rfl, rfl, rfl⟩ ?_ | refine Sel.consw (Pick.there (Pick.there Pick.here)) ⟨rfl, rfl, rfl⟩ ?_ | refine Sel.consw (Pick.there (Pick.there (Pick.there Pick.here))) ⟨rfl, rfl, rfl⟩ ?_ | refine Sel.consw (Pick.there (Pick.there (Pick.there (Pick.there Pick.here)))) ⟨rfl, rfl, rfl⟩ ?_ | refine Sel.consw (Pick.there (Pick.there (Pick.there (Pick.there (Pick.there Pick.here))))) ⟨rfl, rfl, rfl⟩ ?_ | refine Sel.consw (Pick.there (Pick.there (Pick.there (Pick.there (Pick.there (Pick.there Pick.here)))))) ⟨rfl, rfl, rfl⟩ ?_ | refine Sel.consw (Pick.there (Pick.there (Pick.there (Pick.there (Pick.there (Pick.there (Pick.there Pick.here))))))) ⟨rfl, rfl, rfl⟩ ?_ | refine Sel.consw (Pick.there (Pick.there (Pick.there (Pick.there (Pick.there (Pick.there (Pick.there (Pick.there Pick.here)))))))) ⟨rfl, rfl, rfl⟩ ?_ | refine Sel.consw (Pick.there (Pick.there (Pick.there (Pick.there (Pick.there (Pick.there (Pick.there (Pick.there (Pick.there Pick.here))))))))) ⟨rfl, rfl, rfl⟩ ?_ | refine Sel.consw (Pick.there (Pick.there (Pick.there (Pick.there (Pick.there (Pick.there (Pick.there (Pick.there (Pick.there (Pick.there Pick.here)))))))))) ⟨rfl, rfl, rfl⟩ ?_ | refine Sel.consw (Pick.there (Pick.there (Pick.there (Pick.there (Pick.there (Pick.there (Pick.there (Pick.there (Pick.there (Pick.there (Pick.there Pick.here))))))))))) ⟨rfl, rfl, rfl⟩ ?_ | refine Sel.snoc Pick.here ?_ | refine Sel.snoc (Pick.there Pick.here) ?_ | refine Sel.snoc (Pick.there (Pick.there Pick.here)) ?_ | refine Sel.snoc (Pick.there (Pick.there (Pick.there Pick.here))) ?_ | refine Sel.snoc (Pick.there (Pick.there (Pick.there (Pick.there Pick.here)))) ?_ | refine Sel.snoc (Pick.there (Pick.there (Pick.there (Pick.there (Pick.there Pick.here))))) ?_ | refine Sel.snoc (Pick.there (Pick.there (Pick.there (Pick.there (Pick.there (Pick.there Pick.here)))))) ?_ | refine Sel.snoc (Pick.there (Pick.there (Pick.there (Pick.there (Pick.there (Pick.there (Pick.there Pick.here))))))) ?_ | refine Sel.snoc (Pick.there (Pick.there (Pick.there (Pick.there (Pick.there (Pick.there (Pick.there (Pick.there Pick.here)))))))) ?_ | refine Sel.snoc (Pick.there (Pick.there (Pick.there (Pick.there (Pick.there (Pick.there (Pick.there (Pick.there (Pick.there Pick.here))))))))) ?_ | refine Sel.snoc (Pick.there (Pick.there (Pick.there (Pick.there (Pick.there (Pick.there (Pick.there (Pick.there (Pick.there (Pick.there Pick.here)))))))))) ?_ | refine Sel.snoc (Pick.there (Pick.there (Pick.there (Pick.there (Pick.there (Pick.there (Pick.there (Pick.there (Pick.there (Pick.there (Pick.there Pick.here))))))))))) ?_ | refine Sel.drop ?_)), by (first | (simp only [addL_eq, addL_rec]; omega) | omega | exact Nat.le_refl _), u + 1, by omega, rfl, rfl, rfl, rfl, rfl⟩
        · rename_i q1 q2
          have q1 : (x : Int) ≤ (u : Int) := ilt_f q1
          rw [exw] at q2
          have q2 : ((x + w : Nat) : Int) ≤ (u : Int) := ilt_f q2
          have hno : ¬ insB x y w h u v := fun ⟨⟨g1, g2⟩, g3, g4⟩ => by omega
          have eS : sumN (v * (W - 1) + (u + 1)) (fS (grid ng W) (W - 1) x y w h) = sumN (v * (W - 1) + u) (fS (grid ng W) (W - 1) x y w h) := (by show sumN (v * (W - 1) + u) _ + fS _ _ _ _ _ _ (v * (W - 1) + u) = _; rw [hfS, if_neg hno]; exact Int.add_zero _)
          have eM : sumN (v * (W - 1) + (u + 1)) (fM (grid ng W) (W - 1) x y w h) = sumN (v * (W - 1) + u) (fM (grid ng W) (W - 1) x y w h) := (by show sumN (v * (W - 1) + u) _ + fM _ _ _ _ _ _ (v * (W - 1) + u) = _; rw [hfM, if_neg (by intro hq; exact hq.2 hz)]; exact Int.add_zero _)
          have eK : Int.ofNat ((hits (grid ng W) (W - 1) (v * (W - 1) + u)).length) = Int.ofNat ((hits (grid ng W) (W - 1) (v * (W - 1) + (u + 1))).length) := by rw [← Nat.add_assoc, hits_f (by rw [hx]; exact hz)]
          exact ⟨W - (u + 1), [(5, .ptr 2 b5 0), (6, .ptr 3 b6 0), (7, i64 (sumN (v * (W - 1) + (u + 1)) (fS (grid ng W) (W - 1) x y w h))), (8, i64 (sumN (v * (W - 1) + (u + 1)) (fM (grid ng W) (W - 1) x y w h))), (9, .sl 600 a1 L.length L.length), (10, .sl 601 a2 L.length L.length), (11, i64 0), (12, .int .i64 (Int.ofNat ((hits (grid ng W) (W - 1) (v * (W - 1) + (u + 1))).length))), (13, .int .i64 (Int.ofNat v)), (14, .int .i64 (Int.ofNat (u + 1)))], _, addL (R + 76000 + 76000 * (((W - 1) * (H - 1)) - (v * (W - 1) + (u + 1)))) 200, 100, by omega, ⟨eqF_rfl _, eqF_rfl _, ⟨congrArg (Value.int .i64) eS.symm, rfl⟩, ⟨congrArg (Value.int .i64) eM.symm, rfl⟩, eqF_rfl _, eqF_rfl _, eqF_rfl _, ⟨congrArg (Value.int .i64) eK, rfl⟩, eqF_rfl _, ⟨congrArg (Value.int .i64) (wr_nat (i := u + 1) (by omega)), rfl⟩, trivial⟩, (by refine Sel.wk ?_; (try simp only [List.cons_append, List.nil_append]); repeat' (first | exact Sel.nil | exact Sel.all | exact Sel.left | refine Sel.cons Pick.here ?_ | refine Sel.cons (Pick.there Pick.here) ?_ | refine Sel.cons (Pick.there (Pick.there Pick.here)) ?_ | refine Sel.cons (Pick.there (Pick.there (Pick.there Pick.here))) ?_ | refine Sel.cons (Pick.there (Pick.there (Pick.there (Pick.there Pick.here)))) ?_ | refine Sel.cons (Pick.there (Pick.there (Pick.there (Pick.there (Pick.there Pick.here))))) ?_ | refine Sel.cons (Pick.there (Pick.there (Pick.there (Pick.there (Pick.there (Pick.there Pick.here)))))) ?_ | refine Sel.cons (Pick.there (Pick.there (Pick.there (Pick.there (Pick.there (Pick.there (Pick.there Pick.here))))))) ?_ | refine Sel.cons (Pick.there (Pick.there (Pick.there (Pick.there (Pick.there (Pick.there (Pick.there (Pick.there Pick.here)))))))) ?_ | refine Sel.cons (Pick.there (Pick.there (Pick.there (Pick.there (Pick.there (Pick.there (Pick.there (Pick.there (Pick.there Pick.here))))))))) ?_ | refine Sel.cons (Pick.there (Pick.there (Pick.there (Pick.there (Pick.there (Pick.there (Pick.there (Pick.there (Pick.there (Pick.there Pick.here)))))))))) ?_ | refine Sel.cons (Pick.there (Pick.there (Pick.there (Pick.there (Pick.there (Pick.there (Pick.there (Pick.there (Pick.there (Pick.there (Pick.there Pick.here))))))))))) ?_ | refine Sel.consw Pick.here ⟨rfl, rfl, rfl⟩ ?_ | refine Sel.consw (Pick.there Pick.here) ⟨rfl, rfl, rfl⟩ ?_ | refine Sel.consw (Pick.there (Pick.there Pick.here)) ⟨rfl, rfl, rfl⟩ ?_ | refine Sel.consw (Pick.there (Pick.there (Pick.there Pick.here))) ⟨rfl, rfl, rfl⟩ ?_ | refine Sel.consw (Pick.there (Pick.there (Pick.there (Pick.there Pick.here)))) ⟨rfl, rfl, rfl⟩ ?_ | refine Sel.consw (Pick.there (Pick.there (Pick.there (Pick.there (Pick.there Pick.here))))) ⟨rfl, rfl, rfl⟩ ?_ | refine Sel.consw (Pick.there (Pick.there (Pick.there (Pick.there (Pick.there (Pick.there Pick.here)))))) ⟨rfl, rfl, rfl⟩ ?_ | refine Sel.consw (Pick.there (Pick.there (Pick.there (Pick.there (Pick.there (Pick.there (Pick.there Pick.here))))))) ⟨rfl, rfl, rfl⟩ ?_ | refine Sel.consw (Pick.there (Pick.there (Pick.there (Pick.there (Pick.there (Pick.there (Pick.there (Pick.there Pick.here)))))))) ⟨rfl, rfl, rfl⟩ ?_ | refine Sel.consw (Pick.there (Pick.there (Pick.there (Pick.there (Pick.there (Pick.there (Pick.there (Pick.there (Pick.there Pick.here))))))))) ⟨rfl, rfl, rfl⟩ ?_ | refine Sel.consw (Pick.there (Pick.there (Pick.there (Pick.there (Pick.there (Pick.there (Pick.there (Pick.there (Pick.there (Pick.there Pick.here)))))))))) ⟨rfl, rfl, rfl⟩ ?_ | refine Sel.consw (Pick.there (Pick.there (Pick.there (Pick.there (Pick.there (Pick.there (Pick.there (Pick.there (Pick.there (Pick.there (Pick.there Pick.here))))))))))) ⟨rfl, rfl, rfl⟩ ?_ | refine Sel.snoc Pick.here ?_ | refine Sel.snoc (Pick.there Pick.here) ?_ | refine Sel.snoc (Pick.there (Pick.there Pick.here)) ?_ | refine Sel.snoc (Pick.there (Pick.there (Pick.there Pick.here))) ?_ | refine Sel.snoc (Pick.there (Pick.there (Pick.there (Pick.there Pick.here)))) ?_ | refine Sel.snoc (Pick.there (Pick.there (Pick.there (Pick.there (Pick.there Pick.here))))) ?_ | refine Sel.snoc (Pick.there (Pick.there (Pick.there (Pick.there (Pick.there (Pick.there Pick.here)))))) ?_ | refine Sel.snoc (Pick.there (Pick.there (Pick.there (Pick.there (Pick.there (Pick.there (Pick.there Pick.here))))))) ?_ | refine Sel.snoc (Pick.there (Pick.there (Pick.there (Pick.there (Pick.there (Pick.there (Pick.there (Pick.there Pick.here)))))))) ?_ | refine Sel.snoc (Pick.there (Pick.there (Pick.there (Pick.there (Pick.there (Pick.there (Pick.there (Pick.there (Pick.there Pick.here))))))))) ?_ | refine Sel.snoc (Pick.there (Pick.there (Pick.there (Pick.there (Pick.there (Pick.there (Pick.there (Pick.there (Pick.there (Pick.there Pick.here)))))))))) ?_ | refine Sel.snoc (Pick.there (Pick.there (Pick.there (Pick.there (Pick.there (Pick.there (Pick.there (Pick.there (Pick.there (Pick.there (Pick.there Pick.here))))))))))) ?_ | refine Sel.drop ?_)), by (first | (simp only [addL_eq, addL_rec]; omega) | omega | exact Nat.le_refl _), u + 1, by omega, rfl, rfl, rfl, rfl, rfl⟩
      · as_aux_lemma =>
        have fz : iEq ((bsum (grid ng W) u v 1 1).tdiv 3600) 0 = false := by rw [iEq_eq]; exact decide_eq_false hz
        obtain ⟨hk, hgk⟩ := hget (v * (W - 1) + u) qa (by rw [hx]; exact hz)
        have g1 : iLt (Int.ofNat ((hits (grid ng W) (W - 1) (v * (W - 1) + u)).length)) (Int.ofNat L.length) = true := iltn hk
        have heq : eqV Try.prog 40 35 (.agg ⟨[.int .i64 ((0 + L.getD ((hits (grid ng W) (W - 1) (v * (W - 1) + u)).length) 0 % (W - 1) : Nat) : Int), .int .i64 ((0 + L.getD ((hits (grid ng W) (W - 1) (v * (W - 1) + u)).length) 0 / (W - 1) : Nat) : Int), .int .i64 1, .int .i64 1]⟩) (.agg ⟨[.int .i64 (Int.ofNat u), .int .i64 (Int.ofNat v), .int .i64 1, .int .i64 1]⟩) = some true := eq35t (by rw [hgk, qb, Nat.zero_add]; rfl) (by rw [hgk, qc, Nat.zero_add]; rfl) rfl rfl
        have g2 : iEq (ixk (grid ng W) (W - 1) (L.getD ((hits (grid ng W) (W - 1) (v * (W - 1) + u)).length) 0)) ((bsum (grid ng W) u v 1 1).tdiv 3600) = true := by rw [hgk, hx]; exact iEq_self _
        repeat' ((conv => whnf); first
                 | refine eqS_rfl ?_
                 | refine eqA_rfl ?_
                 | refine eqA_of (by assumption) ?_
                 | refine eqS_of (by rfl) ?_
                 | refine eqL_rfl ?_
                 | refine eqJ_rfl ?_
                 | refine flE_intro (fun _ _ => rfl) ?_
                 | refine seS_rfl ?_
                 | refine brS_tt ?_
                 | refine brS_ff ?_
                 | refine brS_not ?_
                 | refine brS_t (iEq_self _) ?_
                 | refine brS_t (by assumption) ?_
                 | refine brS_f (by assumption) ?_
                 | refine brS_intro (fun _ => ?_) (fun _ => ?_)
                 | refine ltS_intro (by first | assumption | decide | exact Nat.le_of_ble_eq_true rfl | omega) ?_
                 | refine ixS_of rfl (by first | assumption | decide | omega) ?_
                 | refine okS_intro (by first | assumption | kernel_rfl) ?_
                 | refine nzS_intro (by first | decide | assumption) ?_
                 | refine call_pure (c34 F _ _ _ _ _) ?_
                 | refine call_readL (c33 F (d + 7) (by omega) W H u v o a0 (W * H) (W * H) ng hD hs (by omega) (by omega) huW hvH rfl) (addL (75800 + (R + 76000 + 76000 * (((W - 1) * (H - 1)) - (v * (W - 1) + (u + 1))))) 150) (by rfl) (by exact SeesM.cons 1000 (sees_gr (i := 700) (by rfl)) (SeesM.nil _) (fun _ _ _ _ _ _ x hx => by cases hx)) (by (first | (simp only [addL_eq, addL_rec]; omega) | omega | exact Nat.le_refl _)) ?_
                 | refine call_readL i20 (addL (R + 76000 + 76000 * (((W - 1) * (H - 1)) - (v * (W - 1) + (u + 1)))) 400) (by rfl) (by exact SeesM.cons 1000 (sees_gr (i := 700) (by rfl)) (SeesM.nil _) (fun _ _ _ _ _ _ x hx => by cases hx)) (by (first | (simp only [addL_eq, addL_rec]; omega) | omega | exact Nat.le_refl _)) ?_
                 | refine ixS_of rfl hk ?_
                 | refine ltS_intro hk ?_
                 | refine agS.mk (by kernel_rfl) ?_
                 | refine eqvS_of heq ?_
                 | intro _)
        all_goals conv => whnf
        · rename_i q1
          have q1 : (u : Int) < (x : Int) := ilt_t q1
          have hno : ¬ insB x y w h u v := fun ⟨⟨g1, g2⟩, g3, g4⟩ => by omega
          have eS : sumN (v * (W - 1) + (u + 1)) (fS (grid ng W) (W - 1) x y w h) = sumN (v * (W - 1) + u) (fS (grid ng W) (W - 1) x y w h) := (by show sumN (v * (W - 1) + u) _ + fS _ _ _ _ _ _ (v * (W - 1) + u) = _; rw [hfS, if_neg hno]; exact Int.add_zero _)
          have eM : sumN (v * (W - 1) + (u + 1)) (fM (grid ng W) (W - 1) x y w h) = sumN (v * (W - 1) + u) (fM (grid ng W) (W - 1) x y w h) := (by show sumN (v * (W - 1) + u) _ + fM _ _ _ _ _ _ (v * (W - 1) + u) = _; rw [hfM, if_neg (by intro hq; exact hno hq.1)]; exact Int.add_zero _)
          have eK : wr .i64 (Int.add (Int.ofNat ((hits (grid ng W) (W - 1) (v * (W - 1) + u)).length)) 1) = Int.ofNat ((hits (grid ng W) (W - 1) (v * (W - 1) + (u + 1))).length) := by rw [← Nat.add_assoc, hits_t (by rw [hx]; exact hz), List.length_append]; exact (sm (n := (((hits (grid ng W) (W - 1) (v * (W - 1) + u)).length : Nat) : Int) + 1) (by omega))
          exact ⟨W - (u + 1), [(5, .ptr 2 b5 0), (6, .ptr 3 b6 0), (7, i64 (sumN (v * (W - 1) + (u + 1)) (fS (grid ng W) (W - 1) x y w h))), (8, i64 (sumN (v * (W - 1) + (u + 1)) (fM (grid ng W) (W - 1) x y w h))), (9, .sl 600 a1 L.length L.length), (10, .sl 601 a2 L.length L.length), (11, i64 0), (12, .int .i64 (Int.ofNat ((hits (grid ng W) (W - 1) (v * (W - 1) + (u + 1))).length))), (13, .int .i64 (Int.ofNat v)), (14, .int .i64 (Int.ofNat (u + 1)))], _, addL (R + 76000 + 76000 * (((W - 1) * (H - 1)) - (v * (W - 1) + (u + 1)))) 200, 100, by omega, ⟨eqF_rfl _, eqF_rfl _, ⟨congrArg (Value.int .i64) eS.symm, rfl⟩, ⟨congrArg (Value.int .i64) eM.symm, rfl⟩, eqF_rfl _, eqF_rfl _, eqF_rfl _, ⟨congrArg (Value.int .i64) eK, rfl⟩, eqF_rfl _, ⟨congrArg (Value.int .i64) (wr_nat (i := u + 1) (by omega)), rfl⟩, trivial⟩, (by refine Sel.wk ?_; (try simp only [List.cons_append, List.nil_append]); repeat' (first | exact Sel.nil | exact Sel.all | exact Sel.left | refine Sel.cons Pick.here ?_ | refine Sel.cons (Pick.there Pick.here) ?_ | refine Sel.cons (Pick.there (Pick.there Pick.here)) ?_ | refine Sel.cons (Pick.there (Pick.there (Pick.there Pick.here))) ?_ | refine Sel.cons (Pick.there (Pick.there (Pick.there (Pick.there Pick.here)))) ?_ | refine Sel.cons (Pick.there (Pick.there (Pick.there (Pick.there (Pick.there Pick.here))))) ?_ | refine Sel.cons (Pick.there (Pick.there (Pick.there (Pick.there (Pick.there (Pick.there Pick.here)))))) ?_ | refine Sel.cons (Pick.there (Pick.there (Pick.there (Pick.there (Pick.there (Pick.there (Pick.there Pick.here))))))) ?_ | refine Sel.cons (Pick.there (Pick.there (Pick.there (Pick.there (Pick.there (Pick.there (Pick.there (Pick.there Pick.here)))))))) ?_ | refine Sel.cons (Pick.there (Pick.there (Pick.there (Pick.there (Pick.there (Pick.there (Pick.there (Pick.there (Pick.there Pick.here))))))))) ?_ | refine Sel.cons (Pick.there (Pick.there (Pick.there (Pick.there (Pick.there (Pick.there (Pick.there (Pick.there (Pick.there (Pick.there Pick.here)))))))))) ?_ | refine Sel.cons (Pick.there (Pick.there (Pick.there (Pick.there (Pick.there (Pick.there (Pick.there (Pick.there (Pick.there (Pick.there (Pick.there Pick.here))))))))))) ?_ | refine Sel.consw Pick.here ⟨rfl, rfl, rfl⟩ ?_ | refine Sel.consw (Pick.there Pick.here) ⟨rfl, rfl, rfl⟩ ?_ | refine Sel.consw (Pick.there (Pick.there Pick.here)) ⟨rfl, rfl, rfl⟩ ?_ | refine Sel.consw (Pick.there (Pick.there (Pick.there Pick.here))) ⟨rfl, rfl, rfl⟩ ?_ | refine Sel.consw (Pick.there (Pick.there (Pick.there (Pick.there Pick.here)))) ⟨rfl, rfl, rfl⟩ ?_ | refine Sel.consw (Pick.there (Pick.there (Pick.there (Pick.there (Pick.there Pick.here))))) ⟨rfl, rfl, rfl⟩ ?_ | refine Sel.consw (Pick.there (Pick.there (Pick.there (Pick.there (Pick.there (Pick.there Pick.here)))))) ⟨rfl, rfl, rfl⟩ ?_ | refine Sel.consw (Pick.there (Pick.there (Pick.there (Pick.there (Pick.there (Pick.there (Pick.there Pick.here))))))) ⟨rfl, rfl, rfl⟩ ?_ | refine Sel.consw (Pick.there (Pick.there (Pick.there (Pick.there (Pick.there (Pick.there (Pick.there (Pick.there Pick.here)))))))) ⟨rfl, rfl, rfl⟩ ?_ | refine Sel.consw (Pick.there (Pick.there (Pick.there (Pick.there (Pick.there (Pick.there (Pick.there (Pick.there (Pick.there Pick.here))))))))) ⟨rfl, rfl, rfl⟩ ?_ | refine Sel.consw (Pick.there (Pick.there (Pick.there (Pick.there (Pick.there (Pick.there (Pick.there (Pick.there (Pick.there (Pick.there Pick.here)))))))))) ⟨rfl, rfl, rfl⟩ ?_ | refine Sel.consw (Pick.there (Pick.there (Pick.there (Pick.there (Pick.there (Pick.there (Pick.there (Pick.there (Pick.there (Pick.there (Pick.there Pick.here))))))))))) ⟨rfl, rfl, rfl⟩ ?_ | refine Sel.snoc Pick.here ?_ | refine Sel.snoc (Pick.there Pick.here) ?_ | refine Sel.snoc (Pick.there (Pick.there Pick.here)) ?_ | refine Sel.snoc (Pick.there (Pick.there (Pick.there Pick.here))) ?_ | refine Sel.snoc (Pick.there (Pick.there (Pick.there (Pick.there Pick.here)))) ?_ | refine Sel.snoc (Pick.there (Pick.there (Pick.there (Pick.there (Pick.there Pick.here))))) ?_ | refine Sel.snoc (Pick.there (Pick.there (Pick.there (Pick.there (Pick.there (Pick.there Pick.here)))))) ?_ | refine Sel.snoc (Pick.there (Pick.there (Pick.there (Pick.there (Pick.there (Pick.there (Pick.there Pick.here))))))) ?_ | refine Sel.snoc (Pick.there (Pick.there (Pick.there (Pick.there (Pick.there (Pick.there (Pick.there (Pick.there Pick.here)))))))) ?_ | refine Sel.snoc (Pick.there (Pick.there (Pick.there (Pick.there (Pick.there (Pick.there (Pick.there (Pick.there (Pick.there Pick.here))))))))) ?_ | refine Sel.snoc (Pick.there (Pick.there (Pick.there (Pick.there (Pick.there (Pick.there (Pick.there (Pick.there (Pick.there (Pick.there Pick.here)))))))))) ?_ | refine Sel.snoc (Pick.there (Pick.there (Pick.there (Pick.there (Pick.there (Pick.there (Pick.there (Pick.there (Pick.there (Pick.there (Pick.there Pick.here))))))))))) ?_ | refine Sel.drop ?_)), by (first | (simp only [addL_eq, addL_rec]; omega) | omega | exact Nat.le_refl _), u + 1, by omega, rfl, rfl, rfl, rfl, rfl⟩
        · rename_i q1 q2 q3
          have q1 : (x : Int) ≤ (u : Int) := ilt_f q1
          rw [exw] at q2
          have q2 : (u : Int) < ((x + w : Nat) : Int) := ilt_t q2
          have q3 : (v : Int) < (y : Int) := ilt_t q3
          have hno : ¬ insB x y w h u v := fun ⟨⟨g1, g2⟩, g3, g4⟩ => by omega
          have eS : sumN (v * (W - 1) + (u + 1)) (fS (grid ng W) (W - 1) x y w h) = sumN (v * (W - 1) + u) (fS (grid ng W) (W - 1) x y w h) := (by show sumN (v * (W - 1) + u) _ + fS _ _ _ _ _ _ (v * (W - 1) + u) = _; rw [hfS, if_neg hno]; exact Int.add_zero _)
          have eM : sumN (v * (W - 1) + (u + 1)) (fM (grid ng W) (W - 1) x y w h) = sumN (v * (W - 1) + u) (fM (grid ng W) (W - 1) x y w h) := (by show sumN (v * (W - 1) + u) _ + fM _ _ _ _ _ _ (v * (W - 1) + u) = _; rw [hfM, if_neg (by intro hq; exact hno hq.1)]; exact Int.add_zero _)
          have eK : wr .i64 (Int.add (Int.ofNat ((hits (grid ng W) (W - 1) (v * (W - 1) + u)).length)) 1) = Int.ofNat ((hits (grid ng W) (W - 1) (v * (W - 1) + (u + 1))).length) := by rw [← Nat.add_assoc, hits_t (by rw [hx]; exact hz), List.length_append]; exact (sm (n := (((hits (grid ng W) (W - 1) (v * (W - 1) + u)).length : Nat) : Int) + 1) (by omega))
          exact ⟨W - (u + 1), [(5, .ptr 2 b5 0), (6, .ptr 3 b6 0), (7, i64 (sumN (v * (W - 1) + (u + 1)) (fS (grid ng W) (W - 1) x y w h))), (8, i64 (sumN (v * (W - 1) + (u + 1)) (fM (grid ng W) (W - 1) x y w h))), (9, .sl 600 a1 L.length L.length), (10, .sl 601 a2 L.length L.length), (11, i64 0), (12, .int .i64 (Int.ofNat ((hits (grid ng W) (W - 1) (v * (W - 1) + (u + 1))).length))), (13, .int .i64 (Int.ofNat v)), (14, .int .i64 (Int.ofNat (u + 1)))], _, addL (R + 76000 + 76000 * (((W - 1) * (H - 1)) - (v * (W - 1) + (u + 1)))) 200, 100, by omega, ⟨eqF_rfl _, eqF_rfl _, ⟨congrArg (Value.int .i64) eS.symm, rfl⟩, ⟨congrArg (Value.int .i64) eM.symm, rfl⟩, eqF_rfl _, eqF_rfl _, eqF_rfl _, ⟨congrArg (Value.int .i64) eK, rfl⟩, eqF_rfl _, ⟨congrArg (Value.int .i64) (wr_nat (i := u + 1) (by omega)), rfl⟩, trivial⟩, (by refine Sel.wk ?_; (try simp only [List.cons_append, List.nil_append]); repeat' (first | exact Sel.nil | exact Sel.all | exact Sel.left | refine Sel.cons Pick.here ?_ | refine Sel.cons (Pick.there Pick.here) ?_ | refine Sel.cons (Pick.there (Pick.there Pick.here)) ?_ | refine Sel.cons (Pick.there (Pick.there (Pick.there Pick.here))) ?_ | refine Sel.cons (Pick.there (Pick.there (Pick.there (Pick.there Pick.here)))) ?_ | refine Sel.cons (Pick.there (Pick.there (Pick.there (Pick.there (Pick.there Pick.here))))) ?_ | refine Sel.cons (Pick.there (Pick.there (Pick.there (Pick.there (Pick.there (Pick.there Pick.here)))))) ?_ | refine Sel.cons (Pick.there (Pick.there (Pick.there (Pick.there (Pick.there (Pick.there (Pick.there Pick.here))))))) ?_ | refine Sel.cons (Pick.there (Pick.there (Pick.there (Pick.there (Pick.there (Pick.there (Pick.there (Pick.there Pick.here)))))))) ?_ | refine Sel.cons (Pick.there (Pick.there (Pick.there (Pick.there (Pick.there (Pick.there (Pick.there (Pick.there (Pick.there Pick.here))))))))) ?_ | refine Sel.cons (Pick.there (Pick.there (Pick.there (Pick.there (Pick.there (Pick.there (Pick.there (Pick.there (Pick.there (Pick.there Pick.here)))))))))) ?_ | refine Sel.cons (Pick.there (Pick.there (Pick.there (Pick.there (Pick.there (Pick.there (Pick.there (Pick.there (Pick.there (Pick.there (Pick.there Pick.here))))))))))) ?_ | refine Sel.consw Pick.here ⟨rfl, rfl, rfl⟩ ?_ | refine Sel.consw (Pick.there Pick.here) ⟨rfl, rfl, rfl⟩ ?_ | refine Sel.consw (Pick.there (Pick.there Pick.here)) ⟨rfl, rfl, rfl⟩ ?_ | refine Sel.consw (Pick.there (Pick.there (Pick.there Pick.here))) ⟨rfl, rfl, rfl⟩ ?_ | refine Sel.consw (Pick.there (Pick.there (Pick.there (Pick.there Pick.here)))) ⟨rfl, rfl, rfl⟩ ?_ | refine Sel.consw (Pick.there (Pick.there (Pick.there (Pick.there (Pick.there Pick.here))))) ⟨rfl, rfl, rfl⟩ ?_ | refine Sel.consw (Pick.there (Pick.there (Pick.there (Pick.there (Pick.there (Pick.there Pick.here)))))) ⟨rfl, rfl, rfl⟩ ?_ | refine Sel.consw (Pick.there (Pick.there (Pick.there (Pick.there (Pick.there (Pick.there (Pick.there Pick.here))))))) ⟨rfl, rfl, rfl⟩ ?_ | refine Sel.consw (Pick.there (Pick.there (Pick.there (Pick.there (Pick.there (Pick.there (Pick.there (Pick.there Pick.here)))))))) ⟨rfl, rfl, rfl⟩ ?_ | refine Sel.consw (Pick.there (Pick.there (Pick.there (Pick.there (Pick.there (Pick.there (Pick.there (Pick.there (Pick.there Pick.here))))))))) ⟨rfl, rfl, rfl⟩ ?_ | refine Sel.consw (Pick.there (Pick.there (Pick.there (Pick.there (Pick.there (Pick.there (Pick.there (Pick.there (Pick.there (Pick.there Pick.here)))))))))) ⟨rfl, rfl, rfl⟩ ?_ | refine Sel.consw (Pick.there (Pick.there (Pick.there (Pick.there (Pick.there (Pick.there (Pick.there (Pick.there (Pick.there (Pick.there (Pick.there Pick.here))))))))))) ⟨rfl, rfl, rfl⟩ ?_ | refine Sel.snoc Pick.here ?_ | refine Sel.snoc (Pick.there Pick.here) ?_ | refine Sel.snoc (Pick.there (Pick.there Pick.here)) ?_ | refine Sel.snoc (Pick.there (Pick.there (Pick.there Pick.here))) ?_ | refine Sel.snoc (Pick.there (Pick.there (Pick.there (Pick.there Pick.here)))) ?_ | refine Sel.snoc (Pick.there (Pick.there (Pick.there (Pick.there (Pick.there Pick.here))))) ?_ | refine Sel.snoc (Pick.there (Pick.there (Pick.there (Pick.there (Pick.there (Pick.there Pick.here)))))) ?_ | refine Sel.snoc (Pick.there (Pick.there (Pick.there (Pick.there (Pick.there (Pick.there (Pick.there Pick.here))))))) ?_ | refine Sel.snoc (Pick.there (Pick.there (Pick.there (Pick.there (Pick.there (Pick.there (Pick.there (Pick.there Pick.here)))))))) ?_ | refine Sel.snoc (Pick.there (Pick.there (Pick.there (Pick.there (Pick.there (Pick.there (Pick.there (Pick.there (Pick.there Pick.here))))))))) ?_ | refine Sel.snoc (Pick.there (Pick.there (Pick.there (Pick.there (Pick.there (Pick.there (Pick.there (Pick.there (Pick.there (Pick.there Pick.here)))))))))) ?_ | refine Sel.snoc (Pick.there (Pick.there (Pick.there (Pick.there (Pick.there (Pick.there (Pick.there (Pick.there (Pick.there (Pick.there (Pick.there Pick.here))))))))))) ?_ | refine Sel.drop ?_)), by (first | (simp only [addL_eq, addL_rec]; omega) | omega | exact Nat.le_refl _), u + 1, by omega, rfl, rfl, rfl, rfl, rfl⟩
        · rename_i q1 q2 q3 q4
          have q1 : (x : Int) ≤ (u : Int) := ilt_f q1
          rw [exw] at q2
          have q2 : (u : Int) < ((x + w : Nat) : Int) := ilt_t q2
          have q3 : (y : Int) ≤ (v : Int) := ilt_f q3
          rw [eyh] at q4
          have q4 : (v : Int) < ((y + h : Nat) : Int) := ilt_t q4
          have hin : insB x y w h u v := ⟨⟨by omega, by omega⟩, by omega, by omega⟩
          have eS : sumN (v * (W - 1) + (u + 1)) (fS (grid ng W) (W - 1) x y w h) = wr .i64 (Int.add (sumN (v * (W - 1) + u) (fS (grid ng W) (W - 1) x y w h)) ((bsum (grid ng W) u v 1 1).tdiv 3600)) := (by show sumN (v * (W - 1) + u) _ + fS _ _ _ _ _ _ (v * (W - 1) + u) = _; rw [hfS, if_pos hin]; exact (sm (n := sumN (v * (W - 1) + u) (fS (grid ng W) (W - 1) x y w h) + (bsum (grid ng W) u v 1 1).tdiv 3600) (by omega)).symm)
          have eM : sumN (v * (W - 1) + (u + 1)) (fM (grid ng W) (W - 1) x y w h) = wr .i64 (Int.add (sumN (v * (W - 1) + u) (fM (grid ng W) (W - 1) x y w h)) 1) := (by show sumN (v * (W - 1) + u) _ + fM _ _ _ _ _ _ (v * (W - 1) + u) = _; rw [hfM, if_pos ⟨hin, hz⟩]; exact (sm (n := sumN (v * (W - 1) + u) (fM (grid ng W) (W - 1) x y w h) + 1) (by omega)).symm)
          have eK : wr .i64 (Int.add (Int.ofNat ((hits (grid ng W) (W - 1) (v * (W - 1) + u)).length)) 1) = Int.ofNat ((hits (grid ng W) (W - 1) (v * (W - 1) + (u + 1))).length) := by rw [← Nat.add_assoc, hits_t (by rw [hx]; exact hz), List.length_append]; exact (sm (n := (((hits (grid ng W) (W - 1) (v * (W - 1) + u)).length : Nat) : Int) + 1) (by omega))
          exact ⟨W - (u + 1), [(5, .ptr 2 b5 0), (6, .ptr 3 b6 0), (7, i64 (sumN (v * (W - 1) + (u + 1)) (fS (grid ng W) (W - 1) x y w h))), (8, i64 (sumN (v * (W - 1) + (u + 1)) (fM (grid ng W) (W - 1) x y w h))), (9, .sl 600 a1 L.length L.length), (10, .sl 601 a2 L.length L.length), (11, i64 0), (12, .int .i64 (Int.ofNat ((hits (grid ng W) (W - 1) (v * (W - 1) + (u + 1))).length))), (13, .int .i64 (Int.ofNat v)), (14, .int .i64 (Int.ofNat (u + 1)))], _, addL (R + 76000 + 76000 * (((W - 1) * (H - 1)) - (v * (W - 1) + (u + 1)))) 200, 100, by omega, ⟨eqF_rfl _, eqF_rfl _, ⟨congrArg (Value.int .i64) eS.symm, rfl⟩, ⟨congrArg (Value.int .i64) eM.symm, rfl⟩, eqF_rfl _, eqF_rfl _, eqF_rfl _, ⟨congrArg (Value.int .i64) eK, rfl⟩, eqF_rfl _, ⟨congrArg (Value.int .i64) (wr_nat (i := u + 1) (by omega)), rfl⟩, trivial⟩, (by refine Sel.wk ?_; (try simp only [List.cons_append, List.nil_append]); repeat' (first | exact Sel.nil | exact Sel.all | exact Sel.left | refine Sel.cons Pick.here ?_ | refine Sel.cons (Pick.there Pick.here) ?_ | refine Sel.cons (Pick.there (Pick.there Pick.here)) ?_ | refine Sel.cons (Pick.there (Pick.there (Pick.there Pick.here))) ?_ | refine Sel.cons (Pick.there (Pick.there (Pick.there (Pick.there Pick.here)))) ?_ | refine Sel.cons (Pick.there (Pick.there (Pick.there (Pick.there (Pick.there Pick.here))))) ?_ | refine Sel.cons (Pick.there (Pick.there (Pick.there (Pick.there (Pick.there (Pick.there Pick.here)))))) ?_ | refine Sel.cons (Pick.there (Pick.there (Pick.there (Pick.there (Pick.there (Pick.there (Pick.there Pick.here))))))) ?_ | refine Sel.cons (Pick.there (Pick.there (Pick.there (Pick.there (Pick.there (Pick.there (Pick.there (Pick.there Pick.here)))))))) ?_ | refine Sel.cons (Pick.there (Pick.there (Pick.there (Pick.there (Pick.there (Pick.there (Pick.there (Pick.there (Pick.there Pick.here))))))))) ?_ | refine Sel.cons (Pick.there (Pick.there (Pick.there (Pick.there (Pick.there (Pick.there (Pick.there (Pick.there (Pick.there (Pick.there Pick.here)))))))))) ?_ | refine Sel.cons (Pick.there (Pick.there (Pick.there (Pick.there (Pick.there (Pick.there (Pick.there (Pick.there (Pick.there (Pick.there (Pick.there Pick.here))))))))))) ?_ | refine Sel.consw Pick.here ⟨rfl, rfl, rfl⟩ ?_ | refine Sel.consw (Pick.there Pick.here) ⟨rfl, rfl, rfl⟩ ?_ | refine Sel.consw (Pick.there (Pick.there Pick.here)) ⟨rfl, rfl, rfl⟩ ?_ | refine Sel.consw (Pick.there (Pick.there (Pick.there Pick.here))) ⟨rfl, rfl, rfl⟩ ?_ | refine Sel.consw (Pick.there (Pick.there (Pick.there (Pick.there Pick.here)))) ⟨rfl, rfl, rfl⟩ ?_ | refine Sel.consw (Pick.there (Pick.there (Pick.there (Pick.there (Pick.there Pick.here))))) ⟨rfl, rfl, rfl⟩ ?_ | refine Sel.consw (Pick.there (Pick.there (Pick.there (Pick.there (Pick.there (Pick.there Pick.here)))))) ⟨rfl, rfl, rfl⟩ ?_ | refine Sel.consw (Pick.there (Pick.there (Pick.there (Pick.there (Pick.there (Pick.there (Pick.there Pick.here))))))) ⟨rfl, rfl, rfl⟩ ?_ | refine Sel.consw (Pick.there (Pick.there (Pick.there (Pick.there (Pick.there (Pick.there (Pick.there (Pick.there Pick.here)))))))) ⟨rfl, rfl, rfl⟩ ?_ | refine Sel.consw (Pick.there (Pick.there (Pick.there (Pick.there (Pick.there (Pick.there (Pick.there (Pick.there (Pick.there Pick.here))))))))) ⟨rfl, rfl, rfl⟩ ?_ | refine Sel.consw (Pick.there (Pick.there (Pick.there (Pick.there (Pick.there (Pick.there (Pick.there (Pick.there (Pick.there (Pick.there Pick.here)))))))))) ⟨rfl, rfl, rfl⟩ ?_ | refine Sel.consw (Pick.there (Pick.there (Pick.there (Pick.there (Pick.there (Pick.there (Pick.there (Pick.there (Pick.there (Pick.there (Pick.there Pick.here))))))))))) ⟨rfl, rfl, rfl⟩ ?_ | refine Sel.snoc Pick.here ?_ | refine Sel.snoc (Pick.there Pick.here) ?_ | refine Sel.snoc (Pick.there (Pick.there Pick.here)) ?_ | refine Sel.snoc (Pick.there (Pick.there (Pick.there Pick.here))) ?_ | refine Sel.snoc (Pick.there (Pick.there (Pick.there (Pick.there Pick.here)))) ?_ | refine Sel.snoc (Pick.there (Pick.there (Pick.there (Pick.there (Pick.there Pick.here))))) ?_ | refine Sel.snoc (Pick.there (Pick.there (Pick.there (Pick.there (Pick.there (Pick.there Pick.here)))))) ?_ | refine Sel.snoc (Pick.there (Pick.there (Pick.there (Pick.there (Pick.there (Pick.there (Pick.there Pick.here))))))) ?_ | refine Sel.snoc (Pick.there (Pick.there (Pick.there (Pick.there (Pick.there (Pick.there (Pick.there (Pick.there Pick.here)))))))) ?_ | refine Sel.snoc (Pick.there (Pick.there (Pick.there (Pick.there (Pick.there (Pick.there (Pick.there (Pick.there (Pick.there Pick.here))))))))) ?_ | refine Sel.snoc (Pick.there (Pick.there (Pick.there (Pick.there (Pick.there (Pick.there (Pick.there (Pick.there (Pick.there (Pick.there Pick.here)))))))))) ?_ | refine Sel.snoc (Pick.there (Pick.there (Pick.there (Pick.there (Pick.there (Pick.there (Pick.there (Pick.there (Pick.there (Pick.there (Pick.there Pick.here))))))))))) ?_ | refine Sel.drop ?_)), by (first | (simp only [addL_eq, addL_rec]; omega) | omega | exact Nat.le_refl _), u + 1, by omega, rfl, rfl, rfl, rfl, rfl⟩
        · rename_i q1 q2 q3 q4
          have q1 : (x : Int) ≤ (u : Int) := ilt_f q1
          rw [exw] at q2
          have q2 : (u : Int) < ((x + w : Nat) : Int) := ilt_t q2
          have q3 : (y : Int) ≤ (v : Int) := ilt_f q3
          rw [eyh] at q4
          have q4 : ((y + h : Nat) : Int) ≤ (v : Int) := ilt_f q4
          have hno : ¬ insB x y w h u v := fun ⟨⟨g1, g2⟩, g3, g4⟩ => by omega
          have eS : sumN (v * (W - 1) + (u + 1)) (fS (grid ng W) (W - 1) x y w h) = sumN (v * (W - 1) + u) (fS (grid ng W) (W - 1) x y w h) := (by show sumN (v * (W - 1) + u) _ + fS _ _ _ _ _ _ (v * (W - 1) + u) = _; rw [hfS, if_neg hno]; exact Int.add_zero _)
          have eM : sumN (v * (W - 1) + (u + 1)) (fM (grid ng W) (W - 1) x y w h) = sumN (v * (W - 1) + u) (fM (grid ng W) (W - 1) x y w h) := (by show sumN (v * (W - 1) + u) _ + fM _ _ _ _ _ _ (v * (W - 1) + u) = _; rw [hfM, if_neg (by intro hq; exact hno hq.1)]; exact Int.add_zero _)
          have eK : wr .i64 (Int.add (Int.ofNat ((hits (grid ng W) (W - 1) (v * (W - 1) + u)).length)) 1) = Int.ofNat ((hits (grid ng W) (W - 1) (v * (W - 1) + (u + 1))).length) := by rw [← Nat.add_assoc, hits_t (by rw [hx]; exact hz), List.length_append]; exact (sm (n := (((hits (grid ng W) (W - 1) (v * (W - 1) + u)).length : Nat) : Int) + 1) (by omega))
          exact ⟨W - (u + 1), [(5, .ptr 2 b5 0), (6, .ptr 3 b6 0), (7, i64 (sumN (v * (W - 1) + (u + 1)) (fS (grid ng W) (W - 1) x y w h))), (8, i64 (sumN (v * (W - 1) + (u + 1)) (fM (grid ng W) (W - 1) x y w h))), (9, .sl 600 a1 L.length L.length), (10, .sl 601 a2 L.length L.length), (11, i64 0), (12, .int .i64 (Int.ofNat ((hits (grid ng W) (W - 1) (v * (W - 1) + (u + 1))).length))), (13, .int .i64 (Int.ofNat v)), (14, .int .i64 (Int.ofNat (u + 1)))], _, addL (R + 76000 + 76000 * (((W - 1) * (H - 1)) - (v * (W - 1) + (u + 1)))) 200, 100, by omega, ⟨eqF_rfl _, eqF_rfl _, ⟨congrArg (Value.int .i64) eS.symm, rfl⟩, ⟨congrArg (Value.int .i64) eM.symm, rfl⟩, eqF_rfl _, eqF_rfl _, eqF_rfl _, ⟨congrArg (Value.int .i64) eK, rfl⟩, eqF_rfl _, ⟨congrArg (Value.int .i64) (wr_nat (i := u + 1) (by omega)), rfl⟩, trivial⟩, (by refine Sel.wk ?_; (try simp only [List.cons_append, List.nil_append]); repeat' (first | exact Sel.nil | exact Sel.all | exact Sel.left | refine Sel.cons Pick.here ?_ | refine Sel.cons (Pick.there Pick.here) ?_ | refine Sel.cons (Pick.there (Pick.there Pick.here)) ?_ | refine Sel.cons (Pick.there (Pick.there (Pick.there Pick.here))) ?_ | refine Sel.cons (Pick.there (Pick.there (Pick.there (Pick.there Pick.here)))) ?_ | refine Sel.cons (Pick.there (Pick.there (Pick.there (Pick.there (Pick.there Pick.here))))) ?_ | refine Sel.cons (Pick.there (Pick.there (Pick.there (Pick.there (Pick.there (Pick.there Pick.here)))))) ?_ | refine Sel.cons (Pick.there (Pick.there (Pick.there (Pick.there (Pick.there (Pick.there (Pick.there Pick.here))))))) ?_ | refine Sel.cons (Pick.there (Pick.there (Pick.there (Pick.there (Pick.there (Pick.there (Pick.there (Pick.there Pick.here)))))))) ?_ | refine Sel.cons (Pick.there (Pick.there (Pick.there (Pick.there (Pick.there (Pick.there (Pick.there (Pick.there (Pick.there Pick.here))))))))) ?_ | refine Sel.cons (Pick.there (Pick.there (Pick.there (Pick.there (Pick.there (Pick.there (Pick.there (Pick.there (Pick.there (Pick.there Pick.here)))))))))) ?_ | refine Sel.cons (Pick.there (Pick.there (Pick.there (Pick.there (Pick.there (Pick.there (Pick.there (Pick.there (Pick.there (Pick.there (Pick.there Pick.here))))))))))) ?_ | refine Sel.consw Pick.here ⟨rfl, rfl, rfl⟩ ?_ | refine Sel.consw (Pick.there Pick.here) ⟨rfl, rfl, rfl⟩ ?_ | refine Sel.consw (Pick.there (Pick.there Pick.here)) ⟨rfl, rfl, rfl⟩ ?_ | refine Sel.consw (Pick.there (Pick.there (Pick.there Pick.here))) ⟨rfl, rfl, rfl⟩ ?_ | refine Sel.consw (Pick.there (Pick.there (Pick.there (Pick.there Pick.here)))) ⟨rfl, rfl, rfl⟩ ?_ | refine Sel.consw (Pick.there (Pick.there (Pick.there (Pick.there (Pick.there Pick.here))))) ⟨rfl, rfl, rfl⟩ ?_ | refine Sel.consw (Pick.there (Pick.there (Pick.there (Pick.there (Pick.there (Pick.there Pick.here)))))) ⟨rfl, rfl, rfl⟩ ?_ | refine Sel.consw (Pick.there (Pick.there (Pick.there (Pick.there (Pick.there (Pick.there (Pick.there Pick.here))))))) ⟨rfl, rfl, rfl⟩ ?_ | refine Sel.consw (Pick.there (Pick.there (Pick.there (Pick.there (Pick.there (Pick.there (Pick.there (Pick.there Pick.here)))))))) ⟨rfl, rfl, rfl⟩ ?_ | refine Sel.consw (Pick.there (Pick.there (Pick.there (Pick.there (Pick.there (Pick.there (Pick.there (Pick.there (Pick.there Pick.here))))))))) ⟨rfl, rfl, rfl⟩ ?_ | refine Sel.consw (Pick.there (Pick.there (Pick.there (Pick.there (Pick.there (Pick.there (Pick.there (Pick.there (Pick.there (Pick.there Pick.here)))))))))) ⟨rfl, rfl, rfl⟩ ?_ | refine Sel.consw (Pick.there (Pick.there (Pick.there (Pick.there (Pick.there (Pick.there (Pick.there (Pick.there (Pick.there (Pick.there (Pick.there Pick.here))))))))))) ⟨rfl, rfl, rfl⟩ ?_ | refine Sel.snoc Pick.here ?_ | refine Sel.snoc (Pick.there Pick.here) ?_ | refine Sel.snoc (Pick.there (Pick.there Pick.here)) ?_ | refine Sel.snoc (Pick.there (Pick.there (Pick.there Pick.here))) ?_ | refine Sel.snoc (Pick.there (Pick.there (Pick.there (Pick.there Pick.here)))) ?_ | refine Sel.snoc (Pick.there (Pick.there (Pick.there (Pick.there (Pick.there Pick.here))))) ?_ | refine Sel.snoc (Pick.there (Pick.there (Pick.there (Pick.there (Pick.there (Pick.there Pick.here)))))) ?_ | refine Sel.snoc (Pick.there (Pick.there (Pick.there (Pick.there (Pick.there (Pick.there (Pick.there Pick.here))))))) ?_ | refine Sel.snoc (Pick.there (Pick.there (Pick.there (Pick.there (Pick.there (Pick.there (Pick.there (Pick.there Pick.here)))))))) ?_ | refine Sel.snoc (Pick.there (Pick.there (Pick.there (Pick.there (Pick.there (Pick.there (Pick.there (Pick.there (Pick.there Pick.here))))))))) ?_ | refine Sel.snoc (Pick.there (Pick.there (Pick.there (Pick.there (Pick.there (Pick.there (Pick.there (Pick.there (Pick.there (Pick.there Pick.here)))))))))) ?_ | refine Sel.snoc (Pick.there (Pick.there (Pick.there (Pick.there (Pick.there (Pick.there (Pick.there (Pick.there (Pick.there (Pick.there (Pick.there Pick.here))))))))))) ?_ | refine Sel.drop ?_)), by (first | (simp only [addL_eq, addL_rec]; omega) | omega | exact Nat.le_refl _), u + 1, by omega, rfl, rfl, rfl, rfl, rfl⟩
        · rename_i q1 q2
          have q1 : (x : Int) ≤ (u : Int) := ilt_f q1
          rw [exw] at q2
          have q2 : ((x + w : Nat) : Int) ≤ (u : Int) := ilt_f q2
          have hno : ¬ insB x y w h u v := fun ⟨⟨g1, g2⟩, g3, g4⟩ => by omega
          have eS : sumN (v * (W - 1) + (u + 1)) (fS (grid ng W) (W - 1) x y w h) = sumN (v * (W - 1) + u) (fS (grid ng W) (W - 1) x y w h) := (by show sumN (v * (W - 1) + u) _ + fS _ _ _ _ _ _ (v * (W - 1) + u) = _; rw [hfS, if_neg hno]; exact Int.add_zero _)
          have eM : sumN (v * (W - 1) + (u + 1)) (fM (grid ng W) (W - 1) x y w h) = sumN (v * (W - 1) + u) (fM (grid ng W) (W - 1) x y w h) := (by show sumN (v * (W - 1) + u) _ + fM _ _ _ _ _ _ (v * (W - 1) + u) = _; rw [hfM, if_neg (by intro hq; exact hno hq.1)]; exact Int.add_zero _)
          have eK : wr .i64 (Int.add (Int.ofNat ((hits (grid ng W) (W - 1) (v * (W - 1) + u)).length)) 1) = Int.ofNat ((hits (grid ng W) (W - 1) (v * (W - 1) + (u + 1))).length) := by rw [← Nat.add_assoc, hits_t (by rw [hx]; exact hz), List.length_append]; exact (sm (n := (((hits (grid ng W) (W - 1) (v * (W - 1) + u)).length : Nat) : Int) + 1) (by omega))
          exact ⟨W - (u + 1), [(5, .ptr 2 b5 0), (6, .ptr 3 b6 0), (7, i64 (sumN (v * (W - 1) + (u + 1)) (fS (grid ng W) (W - 1) x y w h))), (8, i64 (sumN (v * (W - 1) + (u + 1)) (fM (grid ng W) (W - 1) x y w h))), (9, .sl 600 a1 L.length L.length), (10, .sl 601 a2 L.length L.length), (11, i64 0), (12, .int .i64 (Int.ofNat ((hits (grid ng W) (W - 1) (v * (W - 1) + (u + 1))).length))), (13, .int .i64 (Int.ofNat v)), (14, .int .i64 (Int.ofNat (u + 1)))], _, addL (R + 76000 + 76000 * (((W - 1) * (H - 1)) - (v * (W - 1) + (u + 1)))) 200, 100, by omega, ⟨eqF_rfl _, eqF_rfl _, ⟨congrArg (Value.int .i64) eS.symm, rfl⟩, ⟨congrArg (Value.int .i64) eM.symm, rfl⟩, eqF_rfl _, eqF_rfl _, eqF_rfl _, ⟨congrArg (Value.int .i64) eK, rfl⟩, eqF_rfl _, ⟨congrArg (Value.int .i64) (wr_nat (i := u + 1) (by omega)), rfl⟩, trivial⟩, (by refine Sel.wk ?_; (try simp only [List.cons_append, List.nil_append]); repeat' (first | exact Sel.nil | exact Sel.all | exact Sel.left | refine Sel.cons Pick.here ?_ | refine Sel.cons (Pick.there Pick.here) ?_ | refine Sel.cons (Pick.there (Pick.there Pick.here)) ?_ | refine Sel.cons (Pick.there (Pick.there (Pick.there Pick.here))) ?_ | refine Sel.cons (Pick.there (Pick.there (Pick.there (Pick.there Pick.here)))) ?_ | refine Sel.cons (Pick.there (Pick.there (Pick.there (Pick.there (Pick.there Pick.here))))) ?_ | refine Sel.cons (Pick.there (Pick.there (Pick.there (Pick.there (Pick.there (Pick.there Pick.here)))))) ?_ | refine Sel.cons (Pick.there (Pick.there (Pick.there (Pick.there (Pick.there (Pick.there (Pick.there Pick.here))))))) ?_ | refine Sel.cons (Pick.there (Pick.there (Pick.there (Pick.there (Pick.there (Pick.there (Pick.there (Pick.there Pick.here)))))))) ?_ | refine Sel.cons (Pick.there (Pick.there (Pick.there (Pick.there (Pick.there (Pick.there (Pick.there (Pick.there (Pick.there Pick.here))))))))) ?_ | refine Sel.cons (Pick.there (Pick.there (Pick.there (Pick.there (Pick.there (Pick.there (Pick.there (Pick.there (Pick.there (Pick.there Pick.here)))))))))) ?_ | refine Sel.cons (Pick.there (Pick.there (Pick.there (Pick.there (Pick.there (Pick.there (Pick.there (Pick.there (Pick.there (Pick.there (Pick.there Pick.here))))))))))) ?_ | refine Sel.consw Pick.here ⟨rfl, rfl, rfl⟩ ?_ | refine Sel.consw (Pick.there Pick.here) ⟨rfl, rfl, rfl⟩ ?_ | refine Sel.consw (Pick.there (Pick.there Pick.here)) ⟨rfl, rfl, rfl⟩ ?_ | refine Sel.consw (Pick.there (Pick.there (Pick.there Pick.here))) ⟨rfl, rfl, rfl⟩ ?_ | refine Sel.consw (Pick.there (Pick.there (Pick.there (Pick.there Pick.here)))) ⟨rfl, rfl, rfl⟩ ?_ | refine Sel.consw (Pick.there (Pick.there (Pick.there (Pick.there (Pick.there Pick.here))))) ⟨rfl, rfl, rfl⟩ ?_ | refine Sel.consw (Pick.there (Pick.there (Pick.there (Pick.there (Pick.there (Pick.there Pick.here)))))) ⟨rfl, rfl, rfl⟩ ?_ | refine Sel.consw (Pick.there (Pick.there (Pick.there (Pick.there (Pick.there (Pick.there (Pick.there Pick.here))))))) ⟨rfl, rfl, rfl⟩ ?_ | refine Sel.consw (Pick.there (Pick.there (Pick.there (Pick.there (Pick.there (Pick.there (Pick.there (Pick.there Pick.here)))))))) ⟨rfl, rfl, rfl⟩ ?_ | refine Sel.consw (Pick.there (Pick.there (Pick.there (Pick.there (Pick.there (Pick.there (Pick.there (Pick.there (Pick.there Pick.here))))))))) ⟨rfl, rfl, rfl⟩ ?_ | refine Sel.consw (Pick.there (Pick.there (Pick.there (Pick.there (Pick.there (Pick.there (Pick.there (Pick.there (Pick.there (Pick.there Pick.here)))))))))) ⟨rfl, rfl, rfl⟩ ?_ | refine Sel.consw (Pick.there (Pick.there (Pick.there (Pick.there (Pick.there (Pick.there (Pick.there (Pick.there (Pick.there (Pick.there (Pick.there Pick.here))))))))))) ⟨rfl, rfl, rfl⟩ ?_ | refine Sel.snoc Pick.here ?_ | refine Sel.snoc (Pick.there Pick.here) ?_ | refine Sel.snoc (Pick.there (Pick.there Pick.here)) ?_ | refine Sel.snoc (Pick.there (Pick.there (Pick.there Pick.here))) ?_ | refine Sel.snoc (Pick.there (Pick.there (Pick.there (Pick.there Pick.here)))) ?_ | refine Sel.snoc (Pick.there (Pick.there (Pick.there (Pick.there (Pick.there Pick.here))))) ?_ | refine Sel.snoc (Pick.there (Pick.there (Pick.there (Pick.there (Pick.there (Pick.there Pick.here)))))) ?_ | refine Sel.snoc (Pick.there (Pick.there (Pick.there (Pick.there (Pick.there (Pick.there (Pick.there Pick.here))))))) ?_ | refine Sel.snoc (Pick.there (Pick.there (Pick.there (Pick.there (Pick.there (Pick.there (Pick.there (Pick.there Pick.here)))))))) ?_ | refine Sel.snoc (Pick.there (Pick.there (Pick.there (Pick.there (Pick.there (Pick.there (Pick.there (Pick.there (Pick.there Pick.here))))))))) ?_ | refine Sel.snoc (Pick.there (Pick.there (Pick.there (Pick.there (Pick.there (Pick.there (Pick.there (Pick.there (Pick.there (Pick.there Pick.here)))))))))) ?_ | refine Sel.snoc (Pick.there (Pick.there (Pick.there (Pick.there (Pick.there (Pick.there (Pick.there (Pick.there (Pick.there (Pick.there (Pick.there Pick.here))))))))))) ?_ | refine Sel.drop ?_)), by (first | (simp only [addL_eq, addL_rec]; omega) | omega | exact Nat.le_refl _), u + 1, by omega, rfl, rfl, rfl, rfl, rfl⟩
    · have du : iLt (wr .i64 (Int.add (Int.ofNat u) 1)) (W : Nat) = false := by rw [show wr .i64 (Int.add (Int.ofNat u) 1) = ((u + 1 : Nat) : Int) from wr_nat (i := u + 1) (by omega), iLt_eq]; exact decide_eq_false (by omega)
      have huW2 : W - 1 = u := by omega
      have e2 : v * (W - 1) + u = (v + 1) * (W - 1) := by rw [Nat.succ_mul, huW2]
      repeat' ((conv => whnf); first
               | refine eqS_rfl ?_
               | refine eqA_rfl ?_
               | refine eqA_of (by assumption) ?_
               | refine eqS_of (by rfl) ?_
               | refine eqL_rfl ?_
               | refine eqJ_rfl ?_
               | refine flE_intro (fun _ _ => rfl) ?_
               | refine seS_rfl ?_
               | refine brS_tt ?_
               | refine brS_ff ?_
               | refine brS_not ?_
               | refine brS_t (iEq_self _) ?_
               | refine brS_t (by assumption) ?_
               | refine brS_f (by assumption) ?_
               | refine brS_intro (fun _ => ?_) (fun _ => ?_)
               | refine ltS_intro (by first | assumption | decide | exact Nat.le_of_ble_eq_true rfl | omega) ?_
               | refine ixS_of rfl (by first | assumption | decide | omega) ?_
               | refine okS_intro (by first | assumption | kernel_rfl) ?_
               | refine nzS_intro (by first | decide | assumption) ?_
               | intro _)
      conv => whnf
      refine ⟨H - (v + 1), [(5, .ptr 2 b5 0), (6, .ptr 3 b6 0), (7, i64 (sumN ((v + 1) * (W - 1)) (fS (grid ng W) (W - 1) x y w h))), (8, i64 (sumN ((v + 1) * (W - 1)) (fM (grid ng W) (W - 1) x y w h))), (9, .sl 600 a1 L.length L.length), (10, .sl 601 a2 L.length L.length), (11, i64 0), (12, .int .i64 (Int.ofNat ((hits (grid ng W) (W - 1) ((v + 1) * (W - 1))).length))), (13, .int .i64 (Int.ofNat (v + 1)))], [(3, .own b6 35 [i64 x, i64 y, i64 w, i64 h]), (2, .own b5 24 [i64 W, i64 H, i64 o, .sl 700 a0 (W * H) (W * H)]), (700, .gr a0 (W * H) 3 1 fun j => [i64 (ng j)]), (600, .gr a1 L.length 35 4 (fC (W - 1) L)), (601, .gr a2 L.length 3 1 (fX (grid ng W) (W - 1) L))], addL (R + 76000 + 76000 * (((W - 1) * (H - 1)) - ((v + 1) * (W - 1)))) 200, 100, by omega, ?_, WkM.refl _, by rw [← e2]; (first | (simp only [addL_eq, addL_rec]; omega) | omega | exact Nat.le_refl _), v + 1, by omega, rfl, rfl, rfl, rfl, rfl⟩
      rw [← e2]
      exact ⟨eqF_rfl _, eqF_rfl _, eqF_rfl _, eqF_rfl _, eqF_rfl _, eqF_rfl _, eqF_rfl _, eqF_rfl _, ⟨congrArg (Value.int .i64) (wr_nat (i := v + 1) (by omega)), rfl⟩, trivial⟩
  · have dv : iLt (wr .i64 (Int.add (Int.ofNat v) 1)) (H : Nat) = false := by rw [show wr .i64 (Int.add (Int.ofNat v) 1) = ((v + 1 : Nat) : Int) from wr_nat (i := v + 1) (by omega), iLt_eq]; exact decide_eq_false (by omega)
    have e3 : v * (W - 1) = (W - 1) * (H - 1) := by rw [Nat.mul_comm]; congr 1; omega
    have hms := hMS ((W - 1) * (H - 1)) (Nat.le_refl _)
    have hib := (idx_sm (grid ng W) x y w h (by omega)).2.2
    rw [hfin] at hms
    have t1 : iEq ((bsum (grid ng W) x y w h).tdiv 3600) (sumN (v * (W - 1)) (fS (grid ng W) (W - 1) x y w h)) = true := by rw [e3, hfin]; exact iEq_self _
    have t3 : iEq (Int.ofNat ((hits (grid ng W) (W - 1) (v * (W - 1))).length)) (Int.ofNat L.length) = true := by rw [e3, ← hL]; exact iEq_self _
    have t2 : iLt (sumN (v * (W - 1)) (fM (grid ng W) (W - 1) x y w h)) (bif iLt ((bsum (grid ng W) x y w h).tdiv 3600) (wr .i64 (Int.sub 0 ((bsum (grid ng W) x y w h).tdiv 3600))) then wr .i64 (Int.sub 0 ((bsum (grid ng W) x y w h).tdiv 3600)) else (bsum (grid ng W) x y w h).tdiv 3600) = false := by
      rw [e3, show wr .i64 (Int.sub 0 ((bsum (grid ng W) x y w h).tdiv 3600)) = - (bsum (grid ng W) x y w h).tdiv 3600 from (sm (n := 0 - (bsum (grid ng W) x y w h).tdiv 3600) (by omega)).trans (by omega), iLt_eq]
      refine decide_eq_false ?_
      cases iLt ((bsum (grid ng W) x y w h).tdiv 3600) (- (bsum (grid ng W) x y w h).tdiv 3600) with
      | true => show ¬ _ < - (bsum (grid ng W) x y w h).tdiv 3600; omega
      | false => show ¬ _ < (bsum (grid ng W) x y w h).tdiv 3600; omega
    repeat' ((conv => whnf); first
             | refine eqS_rfl ?_
             | refine eqA_rfl ?_
             | refine eqA_of (by assumption) ?_
             | refine eqS_of (by rfl) ?_
             | refine eqL_rfl ?_
             | refine eqJ_rfl ?_
             | refine flE_intro (fun _ _ => rfl) ?_
             | refine seS_rfl ?_
             | refine brS_tt ?_
             | refine brS_ff ?_
             | refine brS_not ?_
             | refine brS_t (iEq_self _) ?_
             | refine brS_t (by assumption) ?_
             | refine brS_f (by assumption) ?_
             | refine brS_intro (fun _ => ?_) (fun _ => ?_)
             | refine ltS_intro (by first | assumption | decide | exact Nat.le_of_ble_eq_true rfl | omega) ?_
             | refine ixS_of rfl (by first | assumption | decide | omega) ?_
             | refine okS_intro (by first | assumption | kernel_rfl) ?_
             | refine nzS_intro (by first | decide | assumption) ?_
             | refine call_w rfl ?_
             | refine call_readL (iB a0) (addL R 100) (by rfl) (by exact SeesM.cons 1000 (sees_gr (i := 700) (by rfl)) (SeesM.nil _) (fun _ _ _ _ _ _ x hx => by cases hx)) (by (first | (simp only [addL_eq, addL_rec]; omega) | omega | exact Nat.le_refl _)) ?_
             | intro _)
    conv => whnf
    exact ⟨rfl, by (first | (simp only [addL_eq, addL_rec]; omega) | omega | exact Nat.le_refl _)⟩
end Go.Proofs.Ytbpdmbgkoijfbaa
