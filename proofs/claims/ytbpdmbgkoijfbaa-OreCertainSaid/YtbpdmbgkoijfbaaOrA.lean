/- Ore: numbers. -/
import Derived.Test.YtbpdmbgkoijfbaaProg
import Derived.Test.YtbpdmbgkoijfbaaEngSx
import Derived.KernelRfl
namespace Go.Proofs.Ytbpdmbgkoijfbaa
open Go.Ab
attribute [local irreducible] aggOk drwOK
set_option maxRecDepth 100000
set_option maxHeartbeats 4000000
set_option linter.unusedVariables false
set_option linter.unusedSimpArgs false
noncomputable abbrev CL (F d : Nat) : CallT := callF Try.prog F (extB [] 14) d
abbrev i64 (n : Int) : SV := .int .i64 n
abbrev pt (x y : Int) : SV := .agg [i64 x, i64 y]
abbrev bl (x y w h : Int) : SV := .agg [i64 x, i64 y, i64 w, i64 h]
theorem lt_of_iLt {a b : Nat} (h : iLt (Int.ofNat a) (Int.ofNat b) = true) : a < b := by rw [iLt_eq] at h; simpa using h
theorem ge_of_iLt {a b : Nat} (h : iLt (Int.ofNat a) (Int.ofNat b) = false) : b ≤ a := by rw [iLt_eq] at h; simpa using h
theorem ilt_t {a b : Int} (h : iLt a b = true) : a < b := by rw [iLt_eq] at h; simpa using h
theorem ilt_f {a b : Int} (h : iLt a b = false) : b ≤ a := by rw [iLt_eq] at h; simpa using h
theorem ieq_t {a b : Int} (h : iEq a b = true) : a = b := by rw [iEq_eq] at h; simpa using h
theorem ieq_f {a b : Int} (h : iEq a b = false) : a ≠ b := by rw [iEq_eq] at h; simpa using h
theorem tm_t {n k : Int} (h : n % k = 0) : iEq (Int.tmod n k) 0 = true := by rw [iEq_eq, Int.tmod_eq_zero_of_dvd (Int.dvd_of_emod_eq_zero h)]; rfl
theorem tm_f {n k : Int} (h : n % k ≠ 0) : iEq (Int.tmod n k) 0 = false := by
  cases h' : iEq (Int.tmod n k) 0 with
  | false => rfl
  | true => exact absurd (Int.emod_eq_zero_of_dvd (Int.dvd_of_tmod_eq_zero (ieq_t h'))) h
theorem sm {n : Int} (h : -1000000000000 ≤ n ∧ n ≤ 1000000000000) : wr .i64 n = n := wr_id (by omega) (by omega)
/-- a sum -/
def sumN : Nat → (Nat → Int) → Int
  | 0, _ => 0
  | n + 1, f => sumN n f + f n
theorem sumN_congr {f g : Nat → Int} : ∀ {n : Nat}, (∀ k, k < n → f k = g k) → sumN n f = sumN n g
  | 0, _ => rfl
  | n + 1, h => by show sumN n f + f n = sumN n g + g n; rw [sumN_congr fun k hk => h k (by omega), h n (by omega)]
theorem sumN_add {f g : Nat → Int} : ∀ {n : Nat}, sumN n (fun k => f k + g k) = sumN n f + sumN n g
  | 0 => rfl
  | n + 1 => by show sumN n _ + (f n + g n) = _; rw [sumN_add]; show _ = (sumN n f + f n) + (sumN n g + g n); omega
theorem sumN_neg {f : Nat → Int} : ∀ {n : Nat}, sumN n (fun k => - f k) = - sumN n f
  | 0 => rfl
  | n + 1 => by show sumN n _ + (- f n) = _; rw [sumN_neg]; show _ = - (sumN n f + f n); omega
theorem sumN_app {f : Nat → Int} {n : Nat} : ∀ {m : Nat}, sumN (n + m) f = sumN n f + sumN m (fun k => f (n + k))
  | 0 => by show sumN n f = sumN n f + 0; omega
  | m + 1 => by show sumN (n + m) f + f (n + m) = sumN n f + (sumN m _ + f (n + m)); rw [sumN_app]; omega
theorem sumN_first {f : Nat → Int} {n : Nat} : sumN (n + 1) f = f 0 + sumN n (fun k => f (k + 1)) := by
  rw [show n + 1 = 1 + n by omega, sumN_app]
  show (0 + f 0) + _ = _
  rw [sumN_congr fun k _ => show f (1 + k) = f (k + 1) by rw [Nat.add_comm]]
  omega
theorem sumN_rev {f : Nat → Int} : ∀ {n : Nat}, sumN n (fun k => f (n - 1 - k)) = sumN n f
  | 0 => rfl
  | n + 1 => by
    rw [sumN_first, sumN_congr (g := fun k => f (n - 1 - k)) fun k hk => show f (n + 1 - 1 - (k + 1)) = f (n - 1 - k) by congr 1; omega, sumN_rev]
    show f (n + 1 - 1 - 0) + _ = sumN n f + f n
    rw [show n + 1 - 1 - 0 = n by omega]; omega
theorem sumN_tele {g : Nat → Int} : ∀ {n : Nat}, sumN n (fun k => g (k + 1) - g k) = g n - g 0
  | 0 => by show (0 : Int) = _; omega
  | n + 1 => by show sumN n _ + (g (n + 1) - g n) = _; rw [sumN_tele]; omega
theorem sumN_bd {f : Nat → Int} {B : Nat} : ∀ {n : Nat}, (∀ k, k < n → -(B : Int) ≤ f k ∧ f k ≤ B) → -((n * B : Nat) : Int) ≤ sumN n f ∧ sumN n f ≤ ((n * B : Nat) : Int)
  | 0, _ => by show _ ≤ (0 : Int) ∧ (0 : Int) ≤ _; omega
  | n + 1, h => by
    have h1 := sumN_bd (f := f) (n := n) fun k hk => h k (by omega)
    have h2 := h n (by omega)
    have e : (n + 1) * B = n * B + B := Nat.succ_mul _ _
    rw [e]
    show _ ≤ sumN n f + f n ∧ sumN n f + f n ≤ _
    omega
theorem sumN_zero {f : Nat → Int} {n : Nat} (h : ∀ k, k < n → f k = 0) : sumN n f = 0 := by
  rw [sumN_congr (g := fun _ => 0) h]
  have := sumN_bd (f := fun _ => 0) (B := 0) (n := n) fun _ _ => by omega
  omega
/-- the turn from one number to another one, from -1800 on -/
def T (a b : Int) : Int := (b - a + 5400) % 3600 - 1800
/-- a direction -/
abbrev Dir (n : Int) : Prop := 0 ≤ n ∧ n < 3600
theorem T_bd (a b : Int) : -1800 ≤ T a b ∧ T a b < 1800 := by unfold T; omega
theorem T_mod (a b : Int) : ∃ q, T a b = b - a + 3600 * q := ⟨-((b - a + 5400) / 3600) + 1, by unfold T; omega⟩
theorem T_neg {a b : Int} (h : T a b ≠ -1800) : T b a = - T a b := by unfold T at *; omega
theorem T_neg' {a b : Int} (h : T a b = -1800) : T b a = -1800 := by unfold T at *; omega
/-- a turn and its number of steps -/
theorem T_of {a b t : Int} (h1 : -1800 ≤ t) (h2 : t < 1800) (h3 : ∃ q, t = b - a + 3600 * q) : T a b = t := by
  obtain ⟨q, h3⟩ := h3; unfold T; omega
/-- needles: a number for each point -/
abbrev Grid := Nat → Nat → Int
def hor (g : Grid) (x y : Nat) : Int := T (g x y) (g (x + 1) y)
def ver (g : Grid) (x y : Nat) : Int := T (g x y) (g x (y + 1))
/-- the k-th point along the border of a block -/
def bpx (x w h k : Nat) : Nat := if k ≤ w then x + k else if k ≤ w + h then x + w else if k ≤ 2 * w + h then x + w - (k - w - h) else x
def bpy (y w h k : Nat) : Nat := if k ≤ w then y else if k ≤ w + h then y + (k - w) else if k ≤ 2 * w + h then y + h else y + h - (k - 2 * w - h)
def btn (g : Grid) (x y w h k : Nat) : Int := T (g (bpx x w h k) (bpy y w h k)) (g (bpx x w h (k + 1)) (bpy y w h (k + 1)))
/-- the sum of turns along the border -/
def bsum (g : Grid) (x y w h : Nat) : Int := sumN (2 * w + 2 * h) (btn g x y w h)
theorem bsum_eq (g : Grid) (x y w h : Nat) : bsum g x y w h = sumN w (fun k => T (g (x + k) y) (g (x + k + 1) y)) + sumN h (fun k => T (g (x + w) (y + k)) (g (x + w) (y + k + 1))) + sumN w (fun k => T (g (x + k + 1) (y + h)) (g (x + k) (y + h))) + sumN h (fun k => T (g x (y + k + 1)) (g x (y + k))) := by
  unfold bsum
  rw [show 2 * w + 2 * h = w + (h + (w + h)) by omega, sumN_app, sumN_app, sumN_app]
  have e1 : sumN w (btn g x y w h) = sumN w (fun k => T (g (x + k) y) (g (x + k + 1) y)) := sumN_congr fun k hk => by
    unfold btn bpx bpy; rw [if_pos (by omega), if_pos (by omega), if_pos (by omega), if_pos (by omega)]; rfl
  have e2 : sumN h (fun k => btn g x y w h (w + k)) = sumN h (fun k => T (g (x + w) (y + k)) (g (x + w) (y + k + 1))) := sumN_congr fun k hk => by
    show T (g (bpx x w h (w + k)) (bpy y w h (w + k))) (g (bpx x w h (w + k + 1)) (bpy y w h (w + k + 1))) = _
    have a1 : bpx x w h (w + k) = x + w := by unfold bpx; split <;> (try split) <;> omega
    have a2 : bpy y w h (w + k) = y + k := by unfold bpy; split <;> (try split) <;> omega
    have a3 : bpx x w h (w + k + 1) = x + w := by unfold bpx; split <;> (try split) <;> (try split) <;> omega
    have a4 : bpy y w h (w + k + 1) = y + k + 1 := by unfold bpy; split <;> (try split) <;> (try split) <;> omega
    rw [a1, a2, a3, a4]
  have e3 : sumN w (fun k => btn g x y w h (w + (h + k))) = sumN w (fun k => T (g (x + k + 1) (y + h)) (g (x + k) (y + h))) := by
    rw [← sumN_rev (f := fun k => T (g (x + k + 1) (y + h)) (g (x + k) (y + h)))]
    refine sumN_congr fun k hk => ?_
    show T (g (bpx x w h (w + (h + k))) (bpy y w h (w + (h + k)))) (g (bpx x w h (w + (h + k) + 1)) (bpy y w h (w + (h + k) + 1))) = T (g (x + (w - 1 - k) + 1) (y + h)) (g (x + (w - 1 - k)) (y + h))
    have a1 : bpx x w h (w + (h + k)) = x + (w - 1 - k) + 1 := by unfold bpx; split <;> (try split) <;> (try split) <;> omega
    have a2 : bpy y w h (w + (h + k)) = y + h := by unfold bpy; split <;> (try split) <;> (try split) <;> omega
    have a3 : bpx x w h (w + (h + k) + 1) = x + (w - 1 - k) := by unfold bpx; split <;> (try split) <;> (try split) <;> omega
    have a4 : bpy y w h (w + (h + k) + 1) = y + h := by unfold bpy; split <;> (try split) <;> (try split) <;> omega
    rw [a1, a2, a3, a4]
  have e4 : sumN h (fun k => btn g x y w h (w + (h + (w + k)))) = sumN h (fun k => T (g x (y + k + 1)) (g x (y + k))) := by
    rw [← sumN_rev (f := fun k => T (g x (y + k + 1)) (g x (y + k)))]
    refine sumN_congr fun k hk => ?_
    show T (g (bpx x w h (w + (h + (w + k)))) (bpy y w h (w + (h + (w + k))))) (g (bpx x w h (w + (h + (w + k)) + 1)) (bpy y w h (w + (h + (w + k)) + 1))) = T (g x (y + (h - 1 - k) + 1)) (g x (y + (h - 1 - k)))
    have a1 : bpx x w h (w + (h + (w + k))) = x := by unfold bpx; split <;> (try split) <;> (try split) <;> omega
    have a2 : bpy y w h (w + (h + (w + k))) = y + (h - 1 - k) + 1 := by unfold bpy; split <;> (try split) <;> (try split) <;> omega
    have a3 : bpx x w h (w + (h + (w + k)) + 1) = x := by unfold bpx; split <;> (try split) <;> (try split) <;> omega
    have a4 : bpy y w h (w + (h + (w + k)) + 1) = y + (h - 1 - k) := by unfold bpy; split <;> (try split) <;> (try split) <;> omega
    rw [a1, a2, a3, a4]
  rw [e1, e2, e3, e4]; omega
/-- a cell's sum -/
abbrev cel (g : Grid) (x y : Nat) : Int := bsum g x y 1 1
theorem cel_eq (g : Grid) (x y : Nat) : cel g x y = T (g x y) (g (x + 1) y) + T (g (x + 1) y) (g (x + 1) (y + 1)) + T (g (x + 1) (y + 1)) (g x (y + 1)) + T (g x (y + 1)) (g x y) := by
  unfold cel; rw [bsum_eq]; simp only [sumN, Nat.add_zero, Int.zero_add]
/-- no turn of a block is half a turn -/
def Sure (g : Grid) (W H : Nat) : Prop := (∀ x y, x + 1 < W → y < H → T (g x y) (g (x + 1) y) ≠ -1800) ∧ ∀ x y, x < W → y + 1 < H → T (g x y) (g x (y + 1)) ≠ -1800
theorem bsum_hv {g : Grid} {W H x y w h : Nat} (hs : Sure g W H) (hw : x + w < W) (hh : y + h < H) : bsum g x y w h = (sumN w (fun k => hor g (x + k) y) - sumN w (fun k => hor g (x + k) (y + h))) + (sumN h (fun k => ver g (x + w) (y + k)) - sumN h (fun k => ver g x (y + k))) := by
  rw [bsum_eq]
  have e3 : sumN w (fun k => T (g (x + k + 1) (y + h)) (g (x + k) (y + h))) = - sumN w (fun k => hor g (x + k) (y + h)) := by
    rw [← sumN_neg]; exact sumN_congr fun k hk => T_neg (hs.1 (x + k) (y + h) (by omega) (by omega))
  have e4 : sumN h (fun k => T (g x (y + k + 1)) (g x (y + k))) = - sumN h (fun k => ver g x (y + k)) := by
    rw [← sumN_neg]; exact sumN_congr fun k hk => T_neg (hs.2 x (y + k) (by omega) (by omega))
  rw [e3, e4]
  show sumN w (fun k => hor g (x + k) y) + sumN h (fun k => ver g (x + w) (y + k)) + _ + _ = _
  omega
/-- THE BORDER: a block's sum is that of its cells -/
theorem bsum_row {g : Grid} {W H x y : Nat} (hs : Sure g W H) (hh : y + 1 < H) : ∀ {w : Nat}, x + w < W → bsum g x y w 1 = sumN w (fun k => cel g (x + k) y)
  | 0, hw => by rw [bsum_hv (w := 0) (h := 1) hs hw hh]; simp only [sumN, Nat.add_zero]; omega
  | w + 1, hw => by
    have h1 := bsum_row (x := x) hs hh (w := w) (by omega)
    have h2 := bsum_hv hs (x := x) (w := w) (h := 1) (by omega) hh
    have h3 := bsum_hv hs (x := x) (w := w + 1) (h := 1) (by omega) hh
    have h4 : cel g (x + w) y = _ := bsum_hv hs (x := x + w) (w := 1) (by omega) hh
    show _ = sumN w (fun k => cel g (x + k) y) + cel g (x + w) y
    rw [← h1, h2, h3, h4]
    simp only [sumN, Nat.add_zero, Int.zero_add, ← Nat.add_assoc]
    omega
theorem bsum_cells {g : Grid} {W H x y w : Nat} (hs : Sure g W H) (hw : x + w < W) : ∀ {h : Nat}, y + h < H → bsum g x y w h = sumN h (fun j => sumN w (fun k => cel g (x + k) (y + j)))
  | 0, hh => by rw [bsum_hv (h := 0) hs hw hh]; simp only [sumN, Nat.add_zero]; omega
  | h + 1, hh => by
    have h1 := bsum_cells (y := y) hs hw (h := h) (by omega)
    have h2 := bsum_hv hs hw (y := y) (h := h) (by omega)
    have h3 := bsum_hv hs hw (y := y) (h := h + 1) (by omega)
    have h4 := bsum_hv hs hw (y := y + h) (h := 1) (by omega)
    have h5 := bsum_row hs (y := y + h) (by omega) hw
    show _ = sumN h _ + sumN w (fun k => cel g (x + k) (y + h))
    rw [← h1, ← h5, h2, h3, h4]
    simp only [sumN, Nat.add_zero, Int.zero_add, ← Nat.add_assoc]
    omega
/-- around a block turns make whole ones -/
theorem sumT_mod {p : Nat → Int} : ∀ {n : Nat}, ∃ q, sumN n (fun k => T (p k) (p (k + 1))) = p n - p 0 + 3600 * q
  | 0 => ⟨0, by show (0 : Int) = _; omega⟩
  | n + 1 => by
    obtain ⟨q, hq⟩ := sumT_mod (p := p) (n := n)
    obtain ⟨r, hr⟩ := T_mod (p n) (p (n + 1))
    exact ⟨q + r, by show sumN n _ + T (p n) (p (n + 1)) = _; rw [hq, hr]; omega⟩
theorem bsum_mod (g : Grid) (x y w h : Nat) : ∃ q, bsum g x y w h = 3600 * q := by
  obtain ⟨q, hq⟩ := sumT_mod (p := fun k => g (bpx x w h k) (bpy y w h k)) (n := 2 * w + 2 * h)
  refine ⟨q, ?_⟩
  have a1 : bpx x w h (2 * w + 2 * h) = x := by unfold bpx; split <;> (try split) <;> (try split) <;> omega
  have a2 : bpy y w h (2 * w + 2 * h) = y := by unfold bpy; split <;> (try split) <;> (try split) <;> omega
  have a3 : bpx x w h 0 = x := by unfold bpx; split <;> omega
  have a4 : bpy y w h 0 = y := by unfold bpy; split <;> omega
  have hq : bsum g x y w h = g (bpx x w h (2 * w + 2 * h)) (bpy y w h (2 * w + 2 * h)) - g (bpx x w h 0) (bpy y w h 0) + 3600 * q := hq
  rw [a1, a2, a3, a4] at hq
  omega

theorem turn_eq {a b : Int} (ha : Dir a) (hb : Dir b) : wr .i64 (Int.sub (Int.tmod (wr .i64 (Int.add (wr .i64 (Int.add (wr .i64 (Int.sub b a)) 3600)) 1800)) 3600) 1800) = T a b := by
  rw [show wr .i64 (Int.sub b a) = b - a from sm (n := b - a) (by omega), show wr .i64 (Int.add (b - a) 3600) = b - a + 3600 from sm (n := b - a + 3600) (by omega), show wr .i64 (Int.add (b - a + 3600) 1800) = b - a + 5400 from (sm (n := b - a + 3600 + 1800) (by omega)).trans (by omega)]
  rw [Int.tmod_eq_emod_of_nonneg (by omega)]
  exact sm (n := (b - a + 5400) % 3600 - 1800) (by omega)
/-- the reference's turn -/
def RT (a b : Int) : Int := if T a b = -1800 then 1800 else T a b
theorem rt_t {a b : Int} (h : iEq (RT a b) 1800 = true) : T a b = -1800 := by
  have h := ieq_t h
  have := T_bd a b
  unfold RT at h; split at h <;> omega
theorem rt_f {a b : Int} (h : iEq (RT a b) 1800 = false) : T a b ≠ -1800 := fun e => ieq_f h (by unfold RT; rw [if_pos e])
theorem RT_eq {a b : Int} (h : T a b ≠ -1800) : RT a b = T a b := by unfold RT; rw [if_neg h]
theorem c40 (F d : Nat) (n a b : Int) : PureC (CL F (d + 1)) 40 [i64 n, i64 a, i64 b] 0 (.bool (decide (a ≤ n ∧ n ≤ b))) := by
  intro m R
  refine call_in (n := 15) Try.func40 rfl rfl rfl rfl rfl rfl rfl ?_
  repeat' ((conv => whnf); first
           | refine eqS_rfl ?_
           | refine eqA_rfl ?_
           | refine eqA_of (by assumption) ?_
           | refine eqS_of (by rfl) ?_
           | refine eqL_rfl ?_
           | refine eqJ_rfl ?_
           | refine flE_intro (fun _ _ => rfl) ?_
           | refine seS_rfl ?_
           | refine brS_tt ?_
           | refine brS_ff ?_
           | refine brS_not ?_
           | refine brS_t (iEq_self _) ?_
           | refine brS_t (by assumption) ?_
           | refine brS_f (by assumption) ?_
           | refine brS_intro (fun _ => ?_) (fun _ => ?_)
           | refine ltS_intro (by first | assumption | decide | exact Nat.le_of_ble_eq_true rfl | omega) ?_
           | refine ixS_of rfl (by first | assumption | decide | omega) ?_
           | refine okS_intro (by first | assumption | kernel_rfl) ?_
           | refine nzS_intro (by first | decide | assumption) ?_
           | intro _)
  all_goals (conv => whnf)
  all_goals refine ⟨?_, by repeat' (first | exact WkM.refl _ | refine WkM.drop ?_), by repeat' (first | exact Nat.le_refl _ | refine Nat.le_succ_of_le ?_)⟩
  all_goals ((simp only [iLt_eq, decide_eq_true_eq, decide_eq_false_iff_not] at *; refine congrArg Value.bool (Bool.eq_iff_iff.2 ?_); simp only [Bool.not_eq_true', decide_eq_true_eq, decide_eq_false_iff_not, Bool.false_eq_true, false_iff]; omega))

theorem c54 (F d : Nat) (n a b : Int) : PureC (CL F (d + 1)) 54 [i64 n, i64 a, i64 b] 0 (.bool (decide (a ≤ n ∧ n ≤ b))) := by
  intro m R
  refine call_in (n := 15) Try.func54 rfl rfl rfl rfl rfl rfl rfl ?_
  repeat' ((conv => whnf); first
           | refine eqS_rfl ?_
           | refine eqA_rfl ?_
           | refine eqA_of (by assumption) ?_
           | refine eqS_of (by rfl) ?_
           | refine eqL_rfl ?_
           | refine eqJ_rfl ?_
           | refine flE_intro (fun _ _ => rfl) ?_
           | refine seS_rfl ?_
           | refine brS_tt ?_
           | refine brS_ff ?_
           | refine brS_not ?_
           | refine brS_t (iEq_self _) ?_
           | refine brS_t (by assumption) ?_
           | refine brS_f (by assumption) ?_
           | refine brS_intro (fun _ => ?_) (fun _ => ?_)
           | refine ltS_intro (by first | assumption | decide | exact Nat.le_of_ble_eq_true rfl | omega) ?_
           | refine ixS_of rfl (by first | assumption | decide | omega) ?_
           | refine okS_intro (by first | assumption | kernel_rfl) ?_
           | refine nzS_intro (by first | decide | assumption) ?_
           | intro _)
  all_goals (conv => whnf)
  all_goals refine ⟨?_, by repeat' (first | exact WkM.refl _ | refine WkM.drop ?_), by repeat' (first | exact Nat.le_refl _ | refine Nat.le_succ_of_le ?_)⟩
  all_goals ((simp only [iLt_eq, decide_eq_true_eq, decide_eq_false_iff_not] at *; refine congrArg Value.bool (Bool.eq_iff_iff.2 ?_); simp only [Bool.not_eq_true', decide_eq_true_eq, decide_eq_false_iff_not, Bool.false_eq_true, false_iff]; omega))

theorem c38 (F d : Nat) (n a b : Int) : PureC (CL F (d + 2)) 38 [i64 n, i64 a, i64 b] 0 (.bool (decide (a ≤ n ∧ n ≤ b))) := by
  intro m R
  refine call_in (n := 11) Try.func38 rfl rfl rfl rfl rfl rfl rfl ?_
  repeat' ((conv => whnf); first
           | refine eqS_rfl ?_
           | refine eqA_rfl ?_
           | refine eqA_of (by assumption) ?_
           | refine eqS_of (by rfl) ?_
           | refine eqL_rfl ?_
           | refine eqJ_rfl ?_
           | refine flE_intro (fun _ _ => rfl) ?_
           | refine seS_rfl ?_
           | refine brS_tt ?_
           | refine brS_ff ?_
           | refine brS_not ?_
           | refine brS_t (iEq_self _) ?_
           | refine brS_t (by assumption) ?_
           | refine brS_f (by assumption) ?_
           | refine brS_intro (fun _ => ?_) (fun _ => ?_)
           | refine ltS_intro (by first | assumption | decide | exact Nat.le_of_ble_eq_true rfl | omega) ?_
           | refine ixS_of rfl (by first | assumption | decide | omega) ?_
           | refine okS_intro (by first | assumption | kernel_rfl) ?_
           | refine nzS_intro (by first | decide | assumption) ?_
           | refine call_pure (c54 F _ _ _ _) ?_
           | intro _)
  all_goals (conv => whnf)
  all_goals refine ⟨?_, by repeat' (first | exact WkM.refl _ | refine WkM.drop ?_), by repeat' (first | exact Nat.le_refl _ | refine Nat.le_succ_of_le ?_)⟩
  all_goals (rfl)

theorem c36 (F d : Nat) (n : Int) : PureC (CL F (d + 2)) 36 [i64 n] 0 (.bool (decide (0 ≤ n ∧ n ≤ 3599))) := by
  intro m R
  refine call_in (n := 5) Try.func36 rfl rfl rfl rfl rfl rfl rfl ?_
  repeat' ((conv => whnf); first
           | refine eqS_rfl ?_
           | refine eqA_rfl ?_
           | refine eqA_of (by assumption) ?_
           | refine eqS_of (by rfl) ?_
           | refine eqL_rfl ?_
           | refine eqJ_rfl ?_
           | refine flE_intro (fun _ _ => rfl) ?_
           | refine seS_rfl ?_
           | refine brS_tt ?_
           | refine brS_ff ?_
           | refine brS_not ?_
           | refine brS_t (iEq_self _) ?_
           | refine brS_t (by assumption) ?_
           | refine brS_f (by assumption) ?_
           | refine brS_intro (fun _ => ?_) (fun _ => ?_)
           | refine ltS_intro (by first | assumption | decide | exact Nat.le_of_ble_eq_true rfl | omega) ?_
           | refine ixS_of rfl (by first | assumption | decide | omega) ?_
           | refine okS_intro (by first | assumption | kernel_rfl) ?_
           | refine nzS_intro (by first | decide | assumption) ?_
           | refine call_pure (c40 F _ _ _ _) ?_
           | intro _)
  all_goals (conv => whnf)
  all_goals refine ⟨?_, by repeat' (first | exact WkM.refl _ | refine WkM.drop ?_), by repeat' (first | exact Nat.le_refl _ | refine Nat.le_succ_of_le ?_)⟩
  all_goals (rfl)

theorem c37 (F d : Nat) (a b : Int) (ha : Dir a) (hb : Dir b) : PureC (CL F (d + 1)) 37 [i64 a, i64 b] 0 (i64 (T a b)) := by
  intro m R
  refine call_in (n := 12) Try.func37 rfl rfl rfl rfl rfl rfl rfl ?_
  repeat' ((conv => whnf); first
           | refine eqS_rfl ?_
           | refine eqA_rfl ?_
           | refine eqA_of (by assumption) ?_
           | refine eqS_of (by rfl) ?_
           | refine eqL_rfl ?_
           | refine eqJ_rfl ?_
           | refine flE_intro (fun _ _ => rfl) ?_
           | refine seS_rfl ?_
           | refine brS_tt ?_
           | refine brS_ff ?_
           | refine brS_not ?_
           | refine brS_t (iEq_self _) ?_
           | refine brS_t (by assumption) ?_
           | refine brS_f (by assumption) ?_
           | refine brS_intro (fun _ => ?_) (fun _ => ?_)
           | refine ltS_intro (by first | assumption | decide | exact Nat.le_of_ble_eq_true rfl | omega) ?_
           | refine ixS_of rfl (by first | assumption | decide | omega) ?_
           | refine okS_intro (by first | assumption | kernel_rfl) ?_
           | refine nzS_intro (by first | decide | assumption) ?_
           | intro _)
  all_goals (conv => whnf)
  all_goals refine ⟨?_, by repeat' (first | exact WkM.refl _ | refine WkM.drop ?_), by repeat' (first | exact Nat.le_refl _ | refine Nat.le_succ_of_le ?_)⟩
  all_goals (exact congrArg (Value.int .i64) (turn_eq ha hb))

theorem c39 (F d : Nat) (a b : Int) (ha : Dir a) (hb : Dir b) : PureC (CL F (d + 1)) 39 [i64 a, i64 b] 0 (i64 (RT a b)) := by
  have e1 : wr .i64 (Int.sub b a) = b - a := sm (n := b - a) (by omega)
  have e2 : wr .i64 (Int.sub (b - a) 3600) = b - a - 3600 := sm (n := b - a - 3600) (by omega)
  have e3 : wr .i64 (Int.add (b - a) 3600) = b - a + 3600 := sm (n := b - a + 3600) (by omega)
  have e4 : wr .i64 (Int.add (b - a - 3600) 3600) = b - a := (sm (n := b - a - 3600 + 3600) (by omega)).trans (by omega)
  intro m R
  refine call_in (n := 18) Try.func39 rfl rfl rfl rfl rfl rfl rfl ?_
  repeat' ((conv => whnf); first
           | refine eqS_rfl ?_
           | refine eqA_rfl ?_
           | refine eqA_of (by assumption) ?_
           | refine eqS_of (by rfl) ?_
           | refine eqL_rfl ?_
           | refine eqJ_rfl ?_
           | refine flE_intro (fun _ _ => rfl) ?_
           | refine seS_rfl ?_
           | refine brS_tt ?_
           | refine brS_ff ?_
           | refine brS_not ?_
           | refine brS_t (iEq_self _) ?_
           | refine brS_t (by assumption) ?_
           | refine brS_f (by assumption) ?_
           | refine brS_intro (fun _ => ?_) (fun _ => ?_)
           | refine ltS_intro (by first | assumption | decide | exact Nat.le_of_ble_eq_true rfl | omega) ?_
           | refine ixS_of rfl (by first | assumption | decide | omega) ?_
           | refine okS_intro (by first | assumption | kernel_rfl) ?_
           | refine nzS_intro (by first | decide | assumption) ?_
           | intro _)
  all_goals (conv => whnf)
  all_goals refine ⟨?_, by repeat' (first | exact WkM.refl _ | refine WkM.drop ?_), by repeat' (first | exact Nat.le_refl _ | refine Nat.le_succ_of_le ?_)⟩
  all_goals ((refine congrArg (Value.int .i64) ?_; (try rw [e1] at *); (try rw [e2] at *); (try rw [e3] at *); (try rw [e4] at *); simp only [iLt_eq, decide_eq_true_eq, decide_eq_false_iff_not, Bool.not_eq_true', Bool.not_eq_false'] at *; unfold RT T; split <;> omega))

def turnV (a b : Int) : SV := if (0 ≤ a ∧ a ≤ 3599) ∧ (0 ≤ b ∧ b ≤ 3599) then (if T a b = -1800 then .tup [i64 0, i64 14] else .tup [i64 (T a b), i64 0]) else .tup [i64 0, i64 1]
theorem c15 (F d : Nat) (a b : Int) : PureC (CL F (d + 3)) 15 [i64 a, i64 b] 0 (turnV a b) := by
  intro m R
  refine call_in (n := 21) Try.func15 rfl rfl rfl rfl rfl rfl rfl ?_
  repeat' ((conv => whnf); first
           | refine eqS_rfl ?_
           | refine eqA_rfl ?_
           | refine eqA_of (by assumption) ?_
           | refine eqS_of (by rfl) ?_
           | refine eqL_rfl ?_
           | refine eqJ_rfl ?_
           | refine flE_intro (fun _ _ => rfl) ?_
           | refine seS_rfl ?_
           | refine brS_tt ?_
           | refine brS_ff ?_
           | refine brS_not ?_
           | refine brS_t (iEq_self _) ?_
           | refine brS_t (by assumption) ?_
           | refine brS_f (by assumption) ?_
           | refine brS_intro (fun _ => ?_) (fun _ => ?_)
           | refine ltS_intro (by first | assumption | decide | exact Nat.le_of_ble_eq_true rfl | omega) ?_
           | refine ixS_of rfl (by first | assumption | decide | omega) ?_
           | refine okS_intro (by first | assumption | kernel_rfl) ?_
           | refine nzS_intro (by first | decide | assumption) ?_
           | refine call_pure (c36 F _ _) ?_
           | refine call_pure (c37 F _ _ _ (by simp only [decide_eq_true_eq, decide_eq_false_iff_not] at *; omega) (by simp only [decide_eq_true_eq, decide_eq_false_iff_not] at *; omega)) ?_
           | intro _)
  all_goals (conv => whnf)
  all_goals refine ⟨?_, by repeat' (first | exact WkM.refl _ | refine WkM.drop ?_), by repeat' (first | exact Nat.le_refl _ | refine Nat.le_succ_of_le ?_)⟩
  all_goals ((simp only [decide_eq_true_eq, decide_eq_false_iff_not] at *; unfold turnV; first | (rw [if_pos ⟨by assumption, by assumption⟩, if_pos (ieq_t (by assumption))]; done) | (rw [if_pos ⟨by assumption, by assumption⟩, if_neg (ieq_f (by assumption))]; done) | (rw [if_neg (by omega)]; done)))

theorem c16 (F d : Nat) (a b : Int) : PureC (CL F (d + 3)) 16 [i64 a, i64 b] 0 (turnV a b) := by
  intro m R
  refine call_in (n := 21) Try.func16 rfl rfl rfl rfl rfl rfl rfl ?_
  repeat' ((conv => whnf); first
           | refine eqS_rfl ?_
           | refine eqA_rfl ?_
           | refine eqA_of (by assumption) ?_
           | refine eqS_of (by rfl) ?_
           | refine eqL_rfl ?_
           | refine eqJ_rfl ?_
           | refine flE_intro (fun _ _ => rfl) ?_
           | refine seS_rfl ?_
           | refine brS_tt ?_
           | refine brS_ff ?_
           | refine brS_not ?_
           | refine brS_t (iEq_self _) ?_
           | refine brS_t (by assumption) ?_
           | refine brS_f (by assumption) ?_
           | refine brS_intro (fun _ => ?_) (fun _ => ?_)
           | refine ltS_intro (by first | assumption | decide | exact Nat.le_of_ble_eq_true rfl | omega) ?_
           | refine ixS_of rfl (by first | assumption | decide | omega) ?_
           | refine okS_intro (by first | assumption | kernel_rfl) ?_
           | refine nzS_intro (by first | decide | assumption) ?_
           | refine call_pure (c38 F _ _ _ _) ?_
           | refine call_pure (c39 F _ _ _ (by simp only [decide_eq_true_eq, decide_eq_false_iff_not] at *; omega) (by simp only [decide_eq_true_eq, decide_eq_false_iff_not] at *; omega)) ?_
           | intro _)
  all_goals (conv => whnf)
  all_goals refine ⟨?_, by repeat' (first | exact WkM.refl _ | refine WkM.drop ?_), by repeat' (first | exact Nat.le_refl _ | refine Nat.le_succ_of_le ?_)⟩
  all_goals ((simp only [decide_eq_true_eq, decide_eq_false_iff_not] at *; unfold turnV; first | (rw [if_pos ⟨by assumption, by assumption⟩, if_pos (rt_t (by assumption))]; done) | (rw [if_pos ⟨by assumption, by assumption⟩, if_neg (rt_f (by assumption)), RT_eq (rt_f (by assumption))]; done) | (rw [if_neg (by omega)]; done)))

end Go.Proofs.Ytbpdmbgkoijfbaa
