/- Ore: needles, borders, cells, indices; is a field certain? -/
import Derived.Test.YtbpdmbgkoijfbaaOrA
import Derived.KernelRfl
namespace Go.Proofs.Ytbpdmbgkoijfbaa
open Go.Ab
attribute [local irreducible] aggOk drwOK
set_option maxRecDepth 100000
set_option maxHeartbeats 4000000
set_option linter.unusedVariables false
set_option linter.unusedSimpArgs false
/-- needles in memory -/
abbrev roN (a : Option Addr) (n c : Nat) (nf : Nat → Int) : Ent := .ro a n c 1 fun j => [i64 (nf j)]
abbrev fld (w h o : Int) (a : Option Addr) (n c : Nat) : SV := .agg [i64 w, i64 h, i64 o, .sl 1000 a n c]
theorem cg2 {α β γ : Type} (f : α → β → γ) {a a2 : α} {b b2 : β} (h : a = a2) (k : b = b2) : f a b = f a2 b2 := by rw [h, k]
theorem at_eq {w x y : Nat} (hw : w ≤ 100) (hx : x ≤ 100) (hy : y ≤ 100) : wr .i64 (Int.add (wr .i64 (Int.mul (Int.ofNat y) (Int.ofNat w))) (Int.ofNat x)) = Int.ofNat (y * w + x) := by
  have h1 : y * w ≤ 100 * 100 := Nat.mul_le_mul hy hw
  have e1 : wr .i64 (Int.mul (Int.ofNat y) (Int.ofNat w)) = Int.ofNat (y * w) := wr_nat (i := y * w) (by omega)
  rw [e1]
  exact wr_nat (i := y * w + x) (by omega)
theorem c62 (F d : Nat) (w x y : Nat) (h o : Int) (a : Option Addr) (n c : Nat) (nf : Nat → Int) (hw : w ≤ 100) (hx : x ≤ 100) (hy : y ≤ 100) (hq : y * w + x < n) : ReadC (CL F (d + 1)) 62 [fld w h o a n c, pt x y] [(1000, roN a n c nf)] 2 (i64 (nf (y * w + x))) := by
  intro R
  refine call_in (n := 17) Try.func62 rfl rfl rfl rfl rfl rfl rfl ?_
  repeat' ((conv => whnf); first
           | refine eqS_rfl ?_
           | refine eqA_rfl ?_
           | refine eqA_of (by assumption) ?_
           | refine eqS_of (by rfl) ?_
           | refine eqL_rfl ?_
           | refine eqJ_rfl ?_
           | refine flE_intro (fun _ _ => rfl) ?_
           | refine seS_rfl ?_
           | refine brS_tt ?_
           | refine brS_ff ?_
           | refine brS_not ?_
           | refine brS_t (iEq_self _) ?_
           | refine brS_t (by assumption) ?_
           | refine brS_f (by assumption) ?_
           | refine brS_intro (fun _ => ?_) (fun _ => ?_)
           | refine ltS_intro (by first | assumption | decide | exact Nat.le_of_ble_eq_true rfl | omega) ?_
           | refine ixS_of rfl (by first | assumption | decide | omega) ?_
           | refine okS_intro (by first | assumption | kernel_rfl) ?_
           | refine nzS_intro (by first | decide | assumption) ?_
           | refine ixS_of (at_eq hw hx hy) hq ?_
           | intro _)
  conv => whnf
  exact ⟨rfl, by (first | exact Nat.le_refl _ | (simp only [addL_eq, addL_rec]; omega))⟩
theorem c56 (F d : Nat) (w x y u v : Nat) (h o : Int) (a : Option Addr) (n c : Nat) (nf : Nat → Int) (hD : ∀ j, Dir (nf j)) (hw : w ≤ 100) (hx : x ≤ 100) (hy : y ≤ 100) (hq : y * w + x < n) (hu : u ≤ 100) (hv : v ≤ 100) (hr : v * w + u < n) : ReadC (CL F (d + 2)) 56 [fld w h o a n c, pt x y, pt u v] [(1000, roN a n c nf)] 30 (i64 (T (nf (y * w + x)) (nf (v * w + u)))) := by
  intro R
  refine call_in (n := 14) Try.func56 rfl rfl rfl rfl rfl rfl rfl ?_
  repeat' ((conv => whnf); first
           | refine eqS_rfl ?_
           | refine eqA_rfl ?_
           | refine eqA_of (by assumption) ?_
           | refine eqS_of (by rfl) ?_
           | refine eqL_rfl ?_
           | refine eqJ_rfl ?_
           | refine flE_intro (fun _ _ => rfl) ?_
           | refine seS_rfl ?_
           | refine brS_tt ?_
           | refine brS_ff ?_
           | refine brS_not ?_
           | refine brS_t (iEq_self _) ?_
           | refine brS_t (by assumption) ?_
           | refine brS_f (by assumption) ?_
           | refine brS_intro (fun _ => ?_) (fun _ => ?_)
           | refine ltS_intro (by first | assumption | decide | exact Nat.le_of_ble_eq_true rfl | omega) ?_
           | refine ixS_of rfl (by first | assumption | decide | omega) ?_
           | refine okS_intro (by first | assumption | kernel_rfl) ?_
           | refine nzS_intro (by first | decide | assumption) ?_
           | refine call_read (c62 F d w x y h o a n c nf hw hx hy hq) (by rfl) (by exact SeesM.cons 1000 (sees_ro (i := 1000) (by rfl)) (SeesM.nil _) (fun _ _ _ _ _ _ x hx => by cases hx)) ?_
           | refine call_read (c62 F d w u v h o a n c nf hw hu hv hr) (by rfl) (by exact SeesM.cons 1000 (sees_ro (i := 1000) (by rfl)) (SeesM.nil _) (fun _ _ _ _ _ _ x hx => by cases hx)) ?_
           | refine call_pure (c37 F _ _ _ (hD _) (hD _)) ?_
           | intro _)
  conv => whnf
  exact ⟨rfl, by (first | exact Nat.le_refl _ | (simp only [addL_eq, addL_rec]; omega))⟩
theorem c60 (F d c : Nat) (hF : 100 < F) (bb : Nat) (x y w h : Nat) (hw : x + w ≤ 10) (hh : y + h ≤ 10) : IterC (CL F (d + 1)) (CL F (d + 2)) (.fn 60 [] [.ptr 900 bb 0]) [(900, .own bb 35 [i64 x, i64 y, i64 w, i64 h])] ((2 * w + 2 * h) * (c + 50) + 400) c (2 * w + 2 * h) (fun k => [pt (bpx x w h k) (bpy y w h k), pt (bpx x w h (k + 1)) (bpy y w h (k + 1))]) := by
  intro i b I Q hr m hI R
  refine call_in (n := 52) Try.func60 rfl rfl rfl rfl rfl rfl rfl ?_

  rw [show (2 * w + 2 * h) * (c + 50) + 400 = ((2 * w + 2 * h) * (c + 50) + 300) + 100 by omega, addL_eq, ← Nat.add_assoc, ← addL_eq _ 100]
  repeat' ((conv => whnf); first
           | refine eqS_rfl ?_
           | refine eqA_rfl ?_
           | refine eqA_of (by assumption) ?_
           | refine eqS_of (by rfl) ?_
           | refine eqL_rfl ?_
           | refine eqJ_rfl ?_
           | refine flE_intro (fun _ _ => rfl) ?_
           | refine seS_rfl ?_
           | refine brS_tt ?_
           | refine brS_ff ?_
           | refine brS_not ?_
           | refine brS_t (iEq_self _) ?_
           | refine brS_t (by assumption) ?_
           | refine brS_f (by assumption) ?_
           | refine brS_intro (fun _ => ?_) (fun _ => ?_)
           | refine ltS_intro (by first | assumption | decide | exact Nat.le_of_ble_eq_true rfl | omega) ?_
           | refine ixS_of rfl (by first | assumption | decide | omega) ?_
           | refine okS_intro (by first | assumption | kernel_rfl) ?_
           | refine nzS_intro (by first | decide | assumption) ?_
           | intro _)
  conv => whnf
  refine loS_u 5 (by omega) ?_
  repeat' ((conv => whnf); first
           | refine eqS_rfl ?_
           | refine eqA_rfl ?_
           | refine eqA_of (by assumption) ?_
           | refine eqS_of (by rfl) ?_
           | refine eqL_rfl ?_
           | refine eqJ_rfl ?_
           | refine flE_intro (fun _ _ => rfl) ?_
           | refine seS_rfl ?_
           | refine brS_tt ?_
           | refine brS_ff ?_
           | refine brS_not ?_
           | refine brS_t (iEq_self _) ?_
           | refine brS_t (by assumption) ?_
           | refine brS_f (by assumption) ?_
           | refine brS_intro (fun _ => ?_) (fun _ => ?_)
           | refine ltS_intro (by first | assumption | decide | exact Nat.le_of_ble_eq_true rfl | omega) ?_
           | refine ixS_of rfl (by first | assumption | decide | omega) ?_
           | refine okS_intro (by first | assumption | kernel_rfl) ?_
           | refine nzS_intro (by first | decide | assumption) ?_
           | refine call_in (n := 12) Try.func61 rfl rfl rfl rfl rfl rfl rfl ?_
           | intro _)
  rename_i b3 _ _ _ _ b9 _ _
  conv => whnf
  refine loS_i (fun jj f mm R' ni => ∃ (j : Nat) (m1 : Mem), j ≤ w ∧ jj = w - j + 1 ∧ f = [(0, .yf i b), (1, .ptr 900 bb 0), (3, .ptr 500 b3 0), (9, .ptr 505 b9 0), (24, .agg [i64 1, i64 0, i64 0, i64 1, i64 (-1), i64 0, i64 0, i64 (-1)]), (25, i64 0), (30, i64 w), (31, .int .i64 (Int.ofNat j))] ∧ mm = [(505, .own b9 102 [i64 1, i64 0]), (500, .own b3 102 [i64 (bpx x w h (0 + j)), i64 (bpy y w h (0 + j))]), (900, .own bb 35 [i64 x, i64 y, i64 w, i64 h])] ++ m1 ∧ I (0 + j) m1 ∧ R' = addL (R + (c + 50) * (2 * w + 2 * h - (0 + j)) + 50 * (4 - 0)) 50 ∧ ni = 600) (w + 1) (by omega)
    ⟨[(0, .yf i b), (1, .ptr 900 bb 0), (3, .ptr 500 b3 0), (9, .ptr 505 b9 0), (24, .agg [i64 1, i64 0, i64 0, i64 1, i64 (-1), i64 0, i64 0, i64 (-1)]), (25, i64 0), (30, i64 w), (31, .int .i64 (Int.ofNat 0))], [(505, .own b9 102 [i64 1, i64 0]), (500, .own b3 102 [i64 (bpx x w h (0 + 0)), i64 (bpy y w h (0 + 0))]), (900, .own bb 35 [i64 x, i64 y, i64 w, i64 h])] ++ m, addL (R + (c + 50) * (2 * w + 2 * h - (0 + 0)) + 50 * (4 - 0)) 50, 600, ?_, ?_, ?_, 0, m, by omega, by omega, rfl, rfl, hI, rfl, rfl⟩ ?_
  · exact ⟨eqF_rfl _, eqF_rfl _, eqF_rfl _, eqF_rfl _, eqF_rfl _, eqF_rfl _, eqF_rfl _, eqF_rfl _, trivial⟩
  · have e0 : bpx x w h (0 + 0) = x ∧ bpy y w h (0 + 0) = y := by unfold bpx bpy; (repeat' split) <;> omega
    rw [e0.1, e0.2]
    exact by (first | exact WkM.refl _ | (refine WkM.sub ?_; repeat' (first | exact List.Sublist.refl _ | refine List.Sublist.cons_cons _ ?_ | refine List.Sublist.cons _ ?_)))
  · have : (c + 50) * (2 * w + 2 * h - (0 + 0)) = (2 * w + 2 * h) * (c + 50) := Nat.mul_comm _ _
    (first | exact Nat.le_refl _ | (simp only [addL_eq, addL_rec]; omega))
  · rintro _ _ _ _ _ ⟨j, m1, hj, rfl, rfl, rfl, hI, rfl, rfl⟩
    have hy2 : j < w → (c + 50) * (2 * w + 2 * h - (0 + j)) = (c + 50) * (2 * w + 2 * h - (0 + (j + 1))) + (c + 50) := fun hlt => by rw [← Nat.mul_succ]; congr 1; omega
    have ex : j < w → wr .i64 (Int.add (bpx x w h (0 + j) : Nat) 1) = ((bpx x w h (0 + (j + 1)) : Nat) : Int) := fun hlt => (sm (n := ((bpx x w h (0 + j) : Nat) : Int) + 1) (by unfold bpx; (repeat' split) <;> omega)).trans (by unfold bpx; (repeat' split) <;> omega)
    have ey : j < w → wr .i64 (Int.add (bpy y w h (0 + j) : Nat) 0) = ((bpy y w h (0 + (j + 1)) : Nat) : Int) := fun hlt => (sm (n := ((bpy y w h (0 + j) : Nat) : Int) + 0) (by unfold bpy; (repeat' split) <;> omega)).trans (by unfold bpy; (repeat' split) <;> omega)
    repeat' ((conv => whnf); first
             | refine eqS_rfl ?_
             | refine eqA_rfl ?_
             | refine eqA_of (by assumption) ?_
             | refine eqS_of (by rfl) ?_
             | refine eqL_rfl ?_
             | refine eqJ_rfl ?_
             | refine flE_intro (fun _ _ => rfl) ?_
             | refine seS_rfl ?_
             | refine brS_tt ?_
             | refine brS_ff ?_
             | refine brS_not ?_
             | refine brS_t (iEq_self _) ?_
             | refine brS_t (by assumption) ?_
             | refine brS_f (by assumption) ?_
             | refine brS_intro (fun _ => ?_) (fun _ => ?_)
             | refine ltS_intro (by first | assumption | decide | exact Nat.le_of_ble_eq_true rfl | omega) ?_
             | refine ixS_of rfl (by first | assumption | decide | omega) ?_
             | refine okS_intro (by first | assumption | kernel_rfl) ?_
             | refine nzS_intro (by first | decide | assumption) ?_
             | intro _)
    rotate_left
    · have hge := ge_of_iLt ‹iLt (Int.ofNat j) (Int.ofNat w) = false›
      have hj : j = w := by omega
      have ho : 0 + j = w + 0 := by omega
      have hb : (c + 50) * (2 * w + 2 * h - (0 + j)) = (c + 50) * (2 * w + 2 * h - (w + 0)) := congrArg (fun z => (c + 50) * (2 * w + 2 * h - z)) ho
      rw [ho] at hI
      repeat' ((conv => whnf); first
               | refine eqS_rfl ?_
               | refine eqA_rfl ?_
               | refine eqA_of (by assumption) ?_
               | refine eqS_of (by rfl) ?_
               | refine eqL_rfl ?_
               | refine eqJ_rfl ?_
               | refine flE_intro (fun _ _ => rfl) ?_
               | refine seS_rfl ?_
               | refine brS_tt ?_
               | refine brS_ff ?_
               | refine brS_not ?_
               | refine brS_t (iEq_self _) ?_
               | refine brS_t (by assumption) ?_
               | refine brS_f (by assumption) ?_
               | refine brS_intro (fun _ => ?_) (fun _ => ?_)
               | refine ltS_intro (by first | assumption | decide | exact Nat.le_of_ble_eq_true rfl | omega) ?_
               | refine ixS_of rfl (by first | assumption | decide | omega) ?_
               | refine okS_intro (by first | assumption | kernel_rfl) ?_
               | refine nzS_intro (by first | decide | assumption) ?_
               | refine call_in (n := 12) Try.func61 rfl rfl rfl rfl rfl rfl rfl ?_
               | intro _)
      rename_i b9 _ _
      conv => whnf
      refine loS_i (fun jj f mm R' ni => ∃ (j : Nat) (m1 : Mem), j ≤ h ∧ jj = h - j + 1 ∧ f = [(0, .yf i b), (1, .ptr 900 bb 0), (3, .ptr 500 b3 0), (9, .ptr 600 b9 0), (24, .agg [i64 1, i64 0, i64 0, i64 1, i64 (-1), i64 0, i64 0, i64 (-1)]), (25, i64 1), (30, i64 h), (31, .int .i64 (Int.ofNat j))] ∧ mm = [(600, .own b9 102 [i64 0, i64 1]), (500, .own b3 102 [i64 (bpx x w h (w + j)), i64 (bpy y w h (w + j))]), (900, .own bb 35 [i64 x, i64 y, i64 w, i64 h])] ++ m1 ∧ I (w + j) m1 ∧ R' = addL (R + (c + 50) * (2 * w + 2 * h - (w + j)) + 50 * (4 - 1)) 50 ∧ ni = 700) (h + 1) (by omega)
        ⟨[(0, .yf i b), (1, .ptr 900 bb 0), (3, .ptr 500 b3 0), (9, .ptr 600 b9 0), (24, .agg [i64 1, i64 0, i64 0, i64 1, i64 (-1), i64 0, i64 0, i64 (-1)]), (25, i64 1), (30, i64 h), (31, .int .i64 (Int.ofNat 0))], [(600, .own b9 102 [i64 0, i64 1]), (500, .own b3 102 [i64 (bpx x w h (w + 0)), i64 (bpy y w h (w + 0))]), (900, .own bb 35 [i64 x, i64 y, i64 w, i64 h])] ++ m1, addL (R + (c + 50) * (2 * w + 2 * h - (w + 0)) + 50 * (4 - 1)) 50, 700, ?_, ?_, ?_, 0, m1, by omega, by omega, rfl, rfl, hI, rfl, rfl⟩ ?_
      · exact ⟨eqF_rfl _, eqF_rfl _, eqF_rfl _, eqF_rfl _, eqF_rfl _, eqF_rfl _, eqF_rfl _, eqF_rfl _, trivial⟩
      · have e0 : bpx x w h (w + 0) = x + w ∧ bpy y w h (w + 0) = y := by unfold bpx bpy; (repeat' split) <;> omega
        rw [← ho]
        exact by (first | exact WkM.refl _ | (refine WkM.sub ?_; repeat' (first | exact List.Sublist.refl _ | refine List.Sublist.cons_cons _ ?_ | refine List.Sublist.cons _ ?_)))
      · (first | exact Nat.le_refl _ | (simp only [addL_eq, addL_rec]; omega))
      · rintro _ _ _ _ _ ⟨j, m1, hj, rfl, rfl, rfl, hI, rfl, rfl⟩
        have hy2 : j < h → (c + 50) * (2 * w + 2 * h - (w + j)) = (c + 50) * (2 * w + 2 * h - (w + (j + 1))) + (c + 50) := fun hlt => by rw [← Nat.mul_succ]; congr 1; omega
        have ex : j < h → wr .i64 (Int.add (bpx x w h (w + j) : Nat) 0) = ((bpx x w h (w + (j + 1)) : Nat) : Int) := fun hlt => (sm (n := ((bpx x w h (w + j) : Nat) : Int) + 0) (by unfold bpx; (repeat' split) <;> omega)).trans (by unfold bpx; (repeat' split) <;> omega)
        have ey : j < h → wr .i64 (Int.add (bpy y w h (w + j) : Nat) 1) = ((bpy y w h (w + (j + 1)) : Nat) : Int) := fun hlt => (sm (n := ((bpy y w h (w + j) : Nat) : Int) + 1) (by unfold bpy; (repeat' split) <;> omega)).trans (by unfold bpy; (repeat' split) <;> omega)
        repeat' ((conv => whnf); first
                 | refine eqS_rfl ?_
                 | refine eqA_rfl ?_
                 | refine eqA_of (by assumption) ?_
                 | refine eqS_of (by rfl) ?_
                 | refine eqL_rfl ?_
                 | refine eqJ_rfl ?_
                 | refine flE_intro (fun _ _ => rfl) ?_
                 | refine seS_rfl ?_
                 | refine brS_tt ?_
                 | refine brS_ff ?_
                 | refine brS_not ?_
                 | refine brS_t (iEq_self _) ?_
                 | refine brS_t (by assumption) ?_
                 | refine brS_f (by assumption) ?_
                 | refine brS_intro (fun _ => ?_) (fun _ => ?_)
                 | refine ltS_intro (by first | assumption | decide | exact Nat.le_of_ble_eq_true rfl | omega) ?_
                 | refine ixS_of rfl (by first | assumption | decide | omega) ?_
                 | refine okS_intro (by first | assumption | kernel_rfl) ?_
                 | refine nzS_intro (by first | decide | assumption) ?_
                 | intro _)
        rotate_left
        · have hge := ge_of_iLt ‹iLt (Int.ofNat j) (Int.ofNat h) = false›
          have hj : j = h := by omega
          have ho : w + j = (w + h) + 0 := by omega
          have hb : (c + 50) * (2 * w + 2 * h - (w + j)) = (c + 50) * (2 * w + 2 * h - ((w + h) + 0)) := congrArg (fun z => (c + 50) * (2 * w + 2 * h - z)) ho
          rw [ho] at hI
          repeat' ((conv => whnf); first
                   | refine eqS_rfl ?_
                   | refine eqA_rfl ?_
                   | refine eqA_of (by assumption) ?_
                   | refine eqS_of (by rfl) ?_
                   | refine eqL_rfl ?_
                   | refine eqJ_rfl ?_
                   | refine flE_intro (fun _ _ => rfl) ?_
                   | refine seS_rfl ?_
                   | refine brS_tt ?_
                   | refine brS_ff ?_
                   | refine brS_not ?_
                   | refine brS_t (iEq_self _) ?_
                   | refine brS_t (by assumption) ?_
                   | refine brS_f (by assumption) ?_
                   | refine brS_intro (fun _ => ?_) (fun _ => ?_)
                   | refine ltS_intro (by first | assumption | decide | exact Nat.le_of_ble_eq_true rfl | omega) ?_
                   | refine ixS_of rfl (by first | assumption | decide | omega) ?_
                   | refine okS_intro (by first | assumption | kernel_rfl) ?_
                   | refine nzS_intro (by first | decide | assumption) ?_
                   | refine call_in (n := 12) Try.func61 rfl rfl rfl rfl rfl rfl rfl ?_
                   | intro _)
          rename_i b9 _ _
          conv => whnf
          refine loS_i (fun jj f mm R' ni => ∃ (j : Nat) (m1 : Mem), j ≤ w ∧ jj = w - j + 1 ∧ f = [(0, .yf i b), (1, .ptr 900 bb 0), (3, .ptr 500 b3 0), (9, .ptr 700 b9 0), (24, .agg [i64 1, i64 0, i64 0, i64 1, i64 (-1), i64 0, i64 0, i64 (-1)]), (25, i64 2), (30, i64 w), (31, .int .i64 (Int.ofNat j))] ∧ mm = [(700, .own b9 102 [i64 (-1), i64 0]), (500, .own b3 102 [i64 (bpx x w h ((w + h) + j)), i64 (bpy y w h ((w + h) + j))]), (900, .own bb 35 [i64 x, i64 y, i64 w, i64 h])] ++ m1 ∧ I ((w + h) + j) m1 ∧ R' = addL (R + (c + 50) * (2 * w + 2 * h - ((w + h) + j)) + 50 * (4 - 2)) 50 ∧ ni = 800) (w + 1) (by omega)
            ⟨[(0, .yf i b), (1, .ptr 900 bb 0), (3, .ptr 500 b3 0), (9, .ptr 700 b9 0), (24, .agg [i64 1, i64 0, i64 0, i64 1, i64 (-1), i64 0, i64 0, i64 (-1)]), (25, i64 2), (30, i64 w), (31, .int .i64 (Int.ofNat 0))], [(700, .own b9 102 [i64 (-1), i64 0]), (500, .own b3 102 [i64 (bpx x w h ((w + h) + 0)), i64 (bpy y w h ((w + h) + 0))]), (900, .own bb 35 [i64 x, i64 y, i64 w, i64 h])] ++ m1, addL (R + (c + 50) * (2 * w + 2 * h - ((w + h) + 0)) + 50 * (4 - 2)) 50, 800, ?_, ?_, ?_, 0, m1, by omega, by omega, rfl, rfl, hI, rfl, rfl⟩ ?_
          · exact ⟨eqF_rfl _, eqF_rfl _, eqF_rfl _, eqF_rfl _, eqF_rfl _, eqF_rfl _, eqF_rfl _, eqF_rfl _, trivial⟩
          · have e0 : bpx x w h ((w + h) + 0) = x + w ∧ bpy y w h ((w + h) + 0) = y + h := by unfold bpx bpy; (repeat' split) <;> omega
            rw [← ho]
            exact by (first | exact WkM.refl _ | (refine WkM.sub ?_; repeat' (first | exact List.Sublist.refl _ | refine List.Sublist.cons_cons _ ?_ | refine List.Sublist.cons _ ?_)))
          · (first | exact Nat.le_refl _ | (simp only [addL_eq, addL_rec]; omega))
          · rintro _ _ _ _ _ ⟨j, m1, hj, rfl, rfl, rfl, hI, rfl, rfl⟩
            have hy2 : j < w → (c + 50) * (2 * w + 2 * h - ((w + h) + j)) = (c + 50) * (2 * w + 2 * h - ((w + h) + (j + 1))) + (c + 50) := fun hlt => by rw [← Nat.mul_succ]; congr 1; omega
            have ex : j < w → wr .i64 (Int.add (bpx x w h ((w + h) + j) : Nat) (-1)) = ((bpx x w h ((w + h) + (j + 1)) : Nat) : Int) := fun hlt => (sm (n := ((bpx x w h ((w + h) + j) : Nat) : Int) + (-1)) (by unfold bpx; (repeat' split) <;> omega)).trans (by unfold bpx; (repeat' split) <;> omega)
            have ey : j < w → wr .i64 (Int.add (bpy y w h ((w + h) + j) : Nat) 0) = ((bpy y w h ((w + h) + (j + 1)) : Nat) : Int) := fun hlt => (sm (n := ((bpy y w h ((w + h) + j) : Nat) : Int) + 0) (by unfold bpy; (repeat' split) <;> omega)).trans (by unfold bpy; (repeat' split) <;> omega)
            repeat' ((conv => whnf); first
                     | refine eqS_rfl ?_
                     | refine eqA_rfl ?_
                     | refine eqA_of (by assumption) ?_
                     | refine eqS_of (by rfl) ?_
                     | refine eqL_rfl ?_
                     | refine eqJ_rfl ?_
                     | refine flE_intro (fun _ _ => rfl) ?_
                     | refine seS_rfl ?_
                     | refine brS_tt ?_
                     | refine brS_ff ?_
                     | refine brS_not ?_
                     | refine brS_t (iEq_self _) ?_
                     | refine brS_t (by assumption) ?_
                     | refine brS_f (by assumption) ?_
                     | refine brS_intro (fun _ => ?_) (fun _ => ?_)
                     | refine ltS_intro (by first | assumption | decide | exact Nat.le_of_ble_eq_true rfl | omega) ?_
                     | refine ixS_of rfl (by first | assumption | decide | omega) ?_
                     | refine okS_intro (by first | assumption | kernel_rfl) ?_
                     | refine nzS_intro (by first | decide | assumption) ?_
                     | intro _)
            rotate_left
            · have hge := ge_of_iLt ‹iLt (Int.ofNat j) (Int.ofNat w) = false›
              have hj : j = w := by omega
              have ho : (w + h) + j = (w + h + w) + 0 := by omega
              have hb : (c + 50) * (2 * w + 2 * h - ((w + h) + j)) = (c + 50) * (2 * w + 2 * h - ((w + h + w) + 0)) := congrArg (fun z => (c + 50) * (2 * w + 2 * h - z)) ho
              rw [ho] at hI
              repeat' ((conv => whnf); first
                       | refine eqS_rfl ?_
                       | refine eqA_rfl ?_
                       | refine eqA_of (by assumption) ?_
                       | refine eqS_of (by rfl) ?_
                       | refine eqL_rfl ?_
                       | refine eqJ_rfl ?_
                       | refine flE_intro (fun _ _ => rfl) ?_
                       | refine seS_rfl ?_
                       | refine brS_tt ?_
                       | refine brS_ff ?_
                       | refine brS_not ?_
                       | refine brS_t (iEq_self _) ?_
                       | refine brS_t (by assumption) ?_
                       | refine brS_f (by assumption) ?_
                       | refine brS_intro (fun _ => ?_) (fun _ => ?_)
                       | refine ltS_intro (by first | assumption | decide | exact Nat.le_of_ble_eq_true rfl | omega) ?_
                       | refine ixS_of rfl (by first | assumption | decide | omega) ?_
                       | refine okS_intro (by first | assumption | kernel_rfl) ?_
                       | refine nzS_intro (by first | decide | assumption) ?_
                       | refine call_in (n := 12) Try.func61 rfl rfl rfl rfl rfl rfl rfl ?_
                       | intro _)
              rename_i b9 _ _
              conv => whnf
              refine loS_i (fun jj f mm R' ni => ∃ (j : Nat) (m1 : Mem), j ≤ h ∧ jj = h - j + 1 ∧ f = [(0, .yf i b), (1, .ptr 900 bb 0), (3, .ptr 500 b3 0), (9, .ptr 800 b9 0), (24, .agg [i64 1, i64 0, i64 0, i64 1, i64 (-1), i64 0, i64 0, i64 (-1)]), (25, i64 3), (30, i64 h), (31, .int .i64 (Int.ofNat j))] ∧ mm = [(800, .own b9 102 [i64 0, i64 (-1)]), (500, .own b3 102 [i64 (bpx x w h ((w + h + w) + j)), i64 (bpy y w h ((w + h + w) + j))]), (900, .own bb 35 [i64 x, i64 y, i64 w, i64 h])] ++ m1 ∧ I ((w + h + w) + j) m1 ∧ R' = addL (R + (c + 50) * (2 * w + 2 * h - ((w + h + w) + j)) + 50 * (4 - 3)) 50 ∧ ni = 900) (h + 1) (by omega)
                ⟨[(0, .yf i b), (1, .ptr 900 bb 0), (3, .ptr 500 b3 0), (9, .ptr 800 b9 0), (24, .agg [i64 1, i64 0, i64 0, i64 1, i64 (-1), i64 0, i64 0, i64 (-1)]), (25, i64 3), (30, i64 h), (31, .int .i64 (Int.ofNat 0))], [(800, .own b9 102 [i64 0, i64 (-1)]), (500, .own b3 102 [i64 (bpx x w h ((w + h + w) + 0)), i64 (bpy y w h ((w + h + w) + 0))]), (900, .own bb 35 [i64 x, i64 y, i64 w, i64 h])] ++ m1, addL (R + (c + 50) * (2 * w + 2 * h - ((w + h + w) + 0)) + 50 * (4 - 3)) 50, 900, ?_, ?_, ?_, 0, m1, by omega, by omega, rfl, rfl, hI, rfl, rfl⟩ ?_
              · exact ⟨eqF_rfl _, eqF_rfl _, eqF_rfl _, eqF_rfl _, eqF_rfl _, eqF_rfl _, eqF_rfl _, eqF_rfl _, trivial⟩
              · have e0 : bpx x w h ((w + h + w) + 0) = x ∧ bpy y w h ((w + h + w) + 0) = y + h := by unfold bpx bpy; (repeat' split) <;> omega
                rw [← ho]
                exact by (first | exact WkM.refl _ | (refine WkM.sub ?_; repeat' (first | exact List.Sublist.refl _ | refine List.Sublist.cons_cons _ ?_ | refine List.Sublist.cons _ ?_)))
              · (first | exact Nat.le_refl _ | (simp only [addL_eq, addL_rec]; omega))
              · rintro _ _ _ _ _ ⟨j, m1, hj, rfl, rfl, rfl, hI, rfl, rfl⟩
                have hy2 : j < h → (c + 50) * (2 * w + 2 * h - ((w + h + w) + j)) = (c + 50) * (2 * w + 2 * h - ((w + h + w) + (j + 1))) + (c + 50) := fun hlt => by rw [← Nat.mul_succ]; congr 1; omega
                have ex : j < h → wr .i64 (Int.add (bpx x w h ((w + h + w) + j) : Nat) 0) = ((bpx x w h ((w + h + w) + (j + 1)) : Nat) : Int) := fun hlt => (sm (n := ((bpx x w h ((w + h + w) + j) : Nat) : Int) + 0) (by unfold bpx; (repeat' split) <;> omega)).trans (by unfold bpx; (repeat' split) <;> omega)
                have ey : j < h → wr .i64 (Int.add (bpy y w h ((w + h + w) + j) : Nat) (-1)) = ((bpy y w h ((w + h + w) + (j + 1)) : Nat) : Int) := fun hlt => (sm (n := ((bpy y w h ((w + h + w) + j) : Nat) : Int) + (-1)) (by unfold bpy; (repeat' split) <;> omega)).trans (by unfold bpy; (repeat' split) <;> omega)
                repeat' ((conv => whnf); first
                         | refine eqS_rfl ?_
                         | refine eqA_rfl ?_
                         | refine eqA_of (by assumption) ?_
                         | refine eqS_of (by rfl) ?_
                         | refine eqL_rfl ?_
                         | refine eqJ_rfl ?_
                         | refine flE_intro (fun _ _ => rfl) ?_
                         | refine seS_rfl ?_
                         | refine brS_tt ?_
                         | refine brS_ff ?_
                         | refine brS_not ?_
                         | refine brS_t (iEq_self _) ?_
                         | refine brS_t (by assumption) ?_
                         | refine brS_f (by assumption) ?_
                         | refine brS_intro (fun _ => ?_) (fun _ => ?_)
                         | refine ltS_intro (by first | assumption | decide | exact Nat.le_of_ble_eq_true rfl | omega) ?_
                         | refine ixS_of rfl (by first | assumption | decide | omega) ?_
                         | refine okS_intro (by first | assumption | kernel_rfl) ?_
                         | refine nzS_intro (by first | decide | assumption) ?_
                         | intro _)
                rotate_left
                · have hge := ge_of_iLt ‹iLt (Int.ofNat j) (Int.ofNat h) = false›
                  have hj : j = h := by omega
                  have ho : (w + h + w) + j = (w + h + w + h) + 0 := by omega
                  have hb : (c + 50) * (2 * w + 2 * h - ((w + h + w) + j)) = (c + 50) * (2 * w + 2 * h - ((w + h + w + h) + 0)) := congrArg (fun z => (c + 50) * (2 * w + 2 * h - z)) ho
                  rw [ho] at hI
                  repeat' ((conv => whnf); first
                           | refine eqS_rfl ?_
                           | refine eqA_rfl ?_
                           | refine eqA_of (by assumption) ?_
                           | refine eqS_of (by rfl) ?_
                           | refine eqL_rfl ?_
                           | refine eqJ_rfl ?_
                           | refine flE_intro (fun _ _ => rfl) ?_
                           | refine seS_rfl ?_
                           | refine brS_tt ?_
                           | refine brS_ff ?_
                           | refine brS_not ?_
                           | refine brS_t (iEq_self _) ?_
                           | refine brS_t (by assumption) ?_
                           | refine brS_f (by assumption) ?_
                           | refine brS_intro (fun _ => ?_) (fun _ => ?_)
                           | refine ltS_intro (by first | assumption | decide | exact Nat.le_of_ble_eq_true rfl | omega) ?_
                           | refine ixS_of rfl (by first | assumption | decide | omega) ?_
                           | refine okS_intro (by first | assumption | kernel_rfl) ?_
                           | refine nzS_intro (by first | decide | assumption) ?_
                           | intro _)
                  conv => whnf
                  exact ⟨by (first | exact Nat.le_refl _ | (simp only [addL_eq, addL_rec]; omega)), m1, by repeat' (first | exact WkM.comm [(900, _)] _ | refine WkM.drop ?_), .inl (by rw [show 2 * w + 2 * h = w + h + w + h + 0 by omega]; exact hI)⟩
                · have hlt := lt_of_iLt ‹iLt (Int.ofNat j) (Int.ofNat h) = true›
                  have hy3 := hy2 hlt
                  repeat' ((conv => whnf); first
                           | refine eqS_rfl ?_
                           | refine eqA_rfl ?_
                           | refine eqA_of (by assumption) ?_
                           | refine eqS_of (by rfl) ?_
                           | refine eqL_rfl ?_
                           | refine eqJ_rfl ?_
                           | refine flE_intro (fun _ _ => rfl) ?_
                           | refine seS_rfl ?_
                           | refine brS_tt ?_
                           | refine brS_ff ?_
                           | refine brS_not ?_
                           | refine brS_t (iEq_self _) ?_
                           | refine brS_t (by assumption) ?_
                           | refine brS_f (by assumption) ?_
                           | refine brS_intro (fun _ => ?_) (fun _ => ?_)
                           | refine ltS_intro (by first | assumption | decide | exact Nat.le_of_ble_eq_true rfl | omega) ?_
                           | refine ixS_of rfl (by first | assumption | decide | omega) ?_
                           | refine okS_intro (by first | assumption | kernel_rfl) ?_
                           | refine nzS_intro (by first | decide | assumption) ?_
                           | refine call_round hI (hr ((w + h + w) + j) (by omega)) [_, _, _, _] (addL (R + (c + 50) * (2 * w + 2 * h - ((w + h + w) + (j + 1))) + 50 * (4 - 3)) 70) (by exact cg2 (fun u v => dens [pt _ _, pt u v]) (ex hlt) (ey hlt)) (by exact WkM.refl _) (by (first | exact Nat.le_refl _ | (simp only [addL_eq, addL_rec]; omega))) ?_ ?_
                           | intro _)
                  all_goals conv => whnf
                  · rename_i m2 hI2
                    exact ⟨h - (j + 1) + 1, [(0, .yf i b), (1, .ptr 900 bb 0), (3, .ptr 500 b3 0), (9, .ptr 800 b9 0), (24, .agg [i64 1, i64 0, i64 0, i64 1, i64 (-1), i64 0, i64 0, i64 (-1)]), (25, i64 3), (30, i64 h), (31, .int .i64 (Int.ofNat (j + 1)))], _, addL (R + (c + 50) * (2 * w + 2 * h - ((w + h + w) + (j + 1))) + 50 * (4 - 3)) 50, 900, by omega, ⟨eqF_rfl _, eqF_rfl _, eqF_rfl _, eqF_rfl _, eqF_rfl _, eqF_rfl _, eqF_rfl _, ⟨congrArg (Value.int .i64) (wr_nat (i := j + 1) (by omega)), rfl⟩, trivial⟩, WkM.drop (WkM.refl _), by (first | exact Nat.le_refl _ | (simp only [addL_eq, addL_rec]; omega)), j + 1, m2, by omega, rfl, rfl, by rw [← ex hlt, ← ey hlt]; rfl, hI2, rfl, rfl⟩
                  · rename_i m2 hQ2
                    exact ⟨by (first | exact Nat.le_refl _ | (simp only [addL_eq, addL_rec]; omega)), m2, by repeat' (first | exact WkM.comm [(900, _)] _ | refine WkM.drop ?_), .inr hQ2⟩
            · have hlt := lt_of_iLt ‹iLt (Int.ofNat j) (Int.ofNat w) = true›
              have hy3 := hy2 hlt
              repeat' ((conv => whnf); first
                       | refine eqS_rfl ?_
                       | refine eqA_rfl ?_
                       | refine eqA_of (by assumption) ?_
                       | refine eqS_of (by rfl) ?_
                       | refine eqL_rfl ?_
                       | refine eqJ_rfl ?_
                       | refine flE_intro (fun _ _ => rfl) ?_
                       | refine seS_rfl ?_
                       | refine brS_tt ?_
                       | refine brS_ff ?_
                       | refine brS_not ?_
                       | refine brS_t (iEq_self _) ?_
                       | refine brS_t (by assumption) ?_
                       | refine brS_f (by assumption) ?_
                       | refine brS_intro (fun _ => ?_) (fun _ => ?_)
                       | refine ltS_intro (by first | assumption | decide | exact Nat.le_of_ble_eq_true rfl | omega) ?_
                       | refine ixS_of rfl (by first | assumption | decide | omega) ?_
                       | refine okS_intro (by first | assumption | kernel_rfl) ?_
                       | refine nzS_intro (by first | decide | assumption) ?_
                       | refine call_round hI (hr ((w + h) + j) (by omega)) [_, _, _, _] (addL (R + (c + 50) * (2 * w + 2 * h - ((w + h) + (j + 1))) + 50 * (4 - 2)) 70) (by exact cg2 (fun u v => dens [pt _ _, pt u v]) (ex hlt) (ey hlt)) (by exact WkM.refl _) (by (first | exact Nat.le_refl _ | (simp only [addL_eq, addL_rec]; omega))) ?_ ?_
                       | intro _)
              all_goals conv => whnf
              · rename_i m2 hI2
                exact ⟨w - (j + 1) + 1, [(0, .yf i b), (1, .ptr 900 bb 0), (3, .ptr 500 b3 0), (9, .ptr 700 b9 0), (24, .agg [i64 1, i64 0, i64 0, i64 1, i64 (-1), i64 0, i64 0, i64 (-1)]), (25, i64 2), (30, i64 w), (31, .int .i64 (Int.ofNat (j + 1)))], _, addL (R + (c + 50) * (2 * w + 2 * h - ((w + h) + (j + 1))) + 50 * (4 - 2)) 50, 800, by omega, ⟨eqF_rfl _, eqF_rfl _, eqF_rfl _, eqF_rfl _, eqF_rfl _, eqF_rfl _, eqF_rfl _, ⟨congrArg (Value.int .i64) (wr_nat (i := j + 1) (by omega)), rfl⟩, trivial⟩, WkM.drop (WkM.refl _), by (first | exact Nat.le_refl _ | (simp only [addL_eq, addL_rec]; omega)), j + 1, m2, by omega, rfl, rfl, by rw [← ex hlt, ← ey hlt]; rfl, hI2, rfl, rfl⟩
              · rename_i m2 hQ2
                exact ⟨by (first | exact Nat.le_refl _ | (simp only [addL_eq, addL_rec]; omega)), m2, by repeat' (first | exact WkM.comm [(900, _)] _ | refine WkM.drop ?_), .inr hQ2⟩
        · have hlt := lt_of_iLt ‹iLt (Int.ofNat j) (Int.ofNat h) = true›
          have hy3 := hy2 hlt
          repeat' ((conv => whnf); first
                   | refine eqS_rfl ?_
                   | refine eqA_rfl ?_
                   | refine eqA_of (by assumption) ?_
                   | refine eqS_of (by rfl) ?_
                   | refine eqL_rfl ?_
                   | refine eqJ_rfl ?_
                   | refine flE_intro (fun _ _ => rfl) ?_
                   | refine seS_rfl ?_
                   | refine brS_tt ?_
                   | refine brS_ff ?_
                   | refine brS_not ?_
                   | refine brS_t (iEq_self _) ?_
                   | refine brS_t (by assumption) ?_
                   | refine brS_f (by assumption) ?_
                   | refine brS_intro (fun _ => ?_) (fun _ => ?_)
                   | refine ltS_intro (by first | assumption | decide | exact Nat.le_of_ble_eq_true rfl | omega) ?_
                   | refine ixS_of rfl (by first | assumption | decide | omega) ?_
                   | refine okS_intro (by first | assumption | kernel_rfl) ?_
                   | refine nzS_intro (by first | decide | assumption) ?_
                   | refine call_round hI (hr (w + j) (by omega)) [_, _, _, _] (addL (R + (c + 50) * (2 * w + 2 * h - (w + (j + 1))) + 50 * (4 - 1)) 70) (by exact cg2 (fun u v => dens [pt _ _, pt u v]) (ex hlt) (ey hlt)) (by exact WkM.refl _) (by (first | exact Nat.le_refl _ | (simp only [addL_eq, addL_rec]; omega))) ?_ ?_
                   | intro _)
          all_goals conv => whnf
          · rename_i m2 hI2
            exact ⟨h - (j + 1) + 1, [(0, .yf i b), (1, .ptr 900 bb 0), (3, .ptr 500 b3 0), (9, .ptr 600 b9 0), (24, .agg [i64 1, i64 0, i64 0, i64 1, i64 (-1), i64 0, i64 0, i64 (-1)]), (25, i64 1), (30, i64 h), (31, .int .i64 (Int.ofNat (j + 1)))], _, addL (R + (c + 50) * (2 * w + 2 * h - (w + (j + 1))) + 50 * (4 - 1)) 50, 700, by omega, ⟨eqF_rfl _, eqF_rfl _, eqF_rfl _, eqF_rfl _, eqF_rfl _, eqF_rfl _, eqF_rfl _, ⟨congrArg (Value.int .i64) (wr_nat (i := j + 1) (by omega)), rfl⟩, trivial⟩, WkM.drop (WkM.refl _), by (first | exact Nat.le_refl _ | (simp only [addL_eq, addL_rec]; omega)), j + 1, m2, by omega, rfl, rfl, by rw [← ex hlt, ← ey hlt]; rfl, hI2, rfl, rfl⟩
          · rename_i m2 hQ2
            exact ⟨by (first | exact Nat.le_refl _ | (simp only [addL_eq, addL_rec]; omega)), m2, by repeat' (first | exact WkM.comm [(900, _)] _ | refine WkM.drop ?_), .inr hQ2⟩
    · have hlt := lt_of_iLt ‹iLt (Int.ofNat j) (Int.ofNat w) = true›
      have hy3 := hy2 hlt
      repeat' ((conv => whnf); first
               | refine eqS_rfl ?_
               | refine eqA_rfl ?_
               | refine eqA_of (by assumption) ?_
               | refine eqS_of (by rfl) ?_
               | refine eqL_rfl ?_
               | refine eqJ_rfl ?_
               | refine flE_intro (fun _ _ => rfl) ?_
               | refine seS_rfl ?_
               | refine brS_tt ?_
               | refine brS_ff ?_
               | refine brS_not ?_
               | refine brS_t (iEq_self _) ?_
               | refine brS_t (by assumption) ?_
               | refine brS_f (by assumption) ?_
               | refine brS_intro (fun _ => ?_) (fun _ => ?_)
               | refine ltS_intro (by first | assumption | decide | exact Nat.le_of_ble_eq_true rfl | omega) ?_
               | refine ixS_of rfl (by first | assumption | decide | omega) ?_
               | refine okS_intro (by first | assumption | kernel_rfl) ?_
               | refine nzS_intro (by first | decide | assumption) ?_
               | refine call_round hI (hr (0 + j) (by omega)) [_, _, _, _] (addL (R + (c + 50) * (2 * w + 2 * h - (0 + (j + 1))) + 50 * (4 - 0)) 70) (by exact cg2 (fun u v => dens [pt _ _, pt u v]) (ex hlt) (ey hlt)) (by exact WkM.refl _) (by (first | exact Nat.le_refl _ | (simp only [addL_eq, addL_rec]; omega))) ?_ ?_
               | intro _)
      all_goals conv => whnf
      · rename_i m2 hI2
        exact ⟨w - (j + 1) + 1, [(0, .yf i b), (1, .ptr 900 bb 0), (3, .ptr 500 b3 0), (9, .ptr 505 b9 0), (24, .agg [i64 1, i64 0, i64 0, i64 1, i64 (-1), i64 0, i64 0, i64 (-1)]), (25, i64 0), (30, i64 w), (31, .int .i64 (Int.ofNat (j + 1)))], _, addL (R + (c + 50) * (2 * w + 2 * h - (0 + (j + 1))) + 50 * (4 - 0)) 50, 600, by omega, ⟨eqF_rfl _, eqF_rfl _, eqF_rfl _, eqF_rfl _, eqF_rfl _, eqF_rfl _, eqF_rfl _, ⟨congrArg (Value.int .i64) (wr_nat (i := j + 1) (by omega)), rfl⟩, trivial⟩, WkM.drop (WkM.refl _), by (first | exact Nat.le_refl _ | (simp only [addL_eq, addL_rec]; omega)), j + 1, m2, by omega, rfl, rfl, by rw [← ex hlt, ← ey hlt]; rfl, hI2, rfl, rfl⟩
      · rename_i m2 hQ2
        exact ⟨by (first | exact Nat.le_refl _ | (simp only [addL_eq, addL_rec]; omega)), m2, by repeat' (first | exact WkM.comm [(900, _)] _ | refine WkM.drop ?_), .inr hQ2⟩
end Go.Proofs.Ytbpdmbgkoijfbaa
namespace Go.Proofs.Ytbpdmbgkoijfbaa
open Go.Ab
attribute [local irreducible] aggOk drwOK
set_option maxRecDepth 100000
set_option maxHeartbeats 4000000
set_option linter.unusedVariables false
set_option linter.unusedSimpArgs false
theorem cell_at {w h u v : Nat} (hu : u < w) (hv : v < h) : v * w + u < w * h ∧ (v * w + u) % w = u ∧ (v * w + u) / w = v := by
  have h1 : (v + 1) * w ≤ h * w := Nat.mul_le_mul_right _ (by omega)
  rw [Nat.succ_mul] at h1
  have h2 : h * w = w * h := Nat.mul_comm _ _
  refine ⟨by omega, ?_, ?_⟩
  · rw [Nat.mul_comm, Nat.mul_add_mod]; exact Nat.mod_eq_of_lt hu
  · rw [Nat.mul_comm, Nat.mul_add_div (by omega), Nat.div_eq_of_lt hu]; omega
theorem c58 (F d c : Nat) (hF : 100 < F) (bb : Nat) (x y w h : Nat) (hw : x + w ≤ 10) (hh : y + h ≤ 10) : IterC (CL F (d + 1)) (CL F (d + 2)) (.fn 58 [] [.ptr 900 bb 0]) [(900, .own bb 35 [i64 x, i64 y, i64 w, i64 h])] ((c + 20) * (w * h) + 50) c (w * h) (fun k => [bl (x + k % w : Nat) (y + k / w : Nat) 1 1]) := by
  intro i b I Q hr m hI R
  rw [show (c + 20) * (w * h) + 50 = (c + 20) * (w * h) + 10 + 40 by omega, addL_eq, ← Nat.add_assoc, ← addL_eq _ 40]
  have hwh : (c + 20) * (w * h - 0 * w) = (c + 20) * (w * h) := by rw [Nat.zero_mul]; rfl
  refine call_in (n := 29) Try.func58 rfl rfl rfl rfl rfl rfl rfl ?_
  repeat' ((conv => whnf); first
           | refine eqS_rfl ?_
           | refine eqA_rfl ?_
           | refine eqA_of (by assumption) ?_
           | refine eqS_of (by rfl) ?_
           | refine eqL_rfl ?_
           | refine eqJ_rfl ?_
           | refine flE_intro (fun _ _ => rfl) ?_
           | refine seS_rfl ?_
           | refine brS_tt ?_
           | refine brS_ff ?_
           | refine brS_not ?_
           | refine brS_t (iEq_self _) ?_
           | refine brS_t (by assumption) ?_
           | refine brS_f (by assumption) ?_
           | refine brS_intro (fun _ => ?_) (fun _ => ?_)
           | refine ltS_intro (by first | assumption | decide | exact Nat.le_of_ble_eq_true rfl | omega) ?_
           | refine ixS_of rfl (by first | assumption | decide | omega) ?_
           | refine okS_intro (by first | assumption | kernel_rfl) ?_
           | refine nzS_intro (by first | decide | assumption) ?_
           | intro _)
  conv => whnf
  refine loS_i (fun jj f mm R' ni => ∃ (v : Nat) (m1 : Mem), v ≤ h ∧ jj = h - v + 1 ∧ f = [(0, .yf i b), (1, .ptr 900 bb 0), (6, i64 h), (7, .int .i64 (Int.ofNat v))] ∧ mm = (900, .own bb 35 [i64 x, i64 y, i64 w, i64 h]) :: m1 ∧ I (v * w) m1 ∧ R' = addL (R + (c + 20) * (w * h - v * w)) 10 ∧ ni = 600) (h + 1) (by omega)
    ⟨[(0, .yf i b), (1, .ptr 900 bb 0), (6, i64 h), (7, .int .i64 (Int.ofNat 0))], (900, .own bb 35 [i64 x, i64 y, i64 w, i64 h]) :: m, addL (R + (c + 20) * (w * h - 0 * w)) 10, 600, ⟨eqF_rfl _, eqF_rfl _, eqF_rfl _, eqF_rfl _, trivial⟩, WkM.refl _, by (first | exact Nat.le_refl _ | (simp only [addL_eq, addL_rec]; omega)), 0, m, by omega, by omega, rfl, rfl, by rw [Nat.zero_mul]; exact hI, rfl, rfl⟩ ?_
  rintro _ _ _ _ _ ⟨v, m1, hv, rfl, rfl, rfl, hI, rfl, rfl⟩
  repeat' ((conv => whnf); first
           | refine eqS_rfl ?_
           | refine eqA_rfl ?_
           | refine eqA_of (by assumption) ?_
           | refine eqS_of (by rfl) ?_
           | refine eqL_rfl ?_
           | refine eqJ_rfl ?_
           | refine flE_intro (fun _ _ => rfl) ?_
           | refine seS_rfl ?_
           | refine brS_tt ?_
           | refine brS_ff ?_
           | refine brS_not ?_
           | refine brS_t (iEq_self _) ?_
           | refine brS_t (by assumption) ?_
           | refine brS_f (by assumption) ?_
           | refine brS_intro (fun _ => ?_) (fun _ => ?_)
           | refine ltS_intro (by first | assumption | decide | exact Nat.le_of_ble_eq_true rfl | omega) ?_
           | refine ixS_of rfl (by first | assumption | decide | omega) ?_
           | refine okS_intro (by first | assumption | kernel_rfl) ?_
           | refine nzS_intro (by first | decide | assumption) ?_
           | intro _)
  rotate_left
  · conv => whnf
    have hge := ge_of_iLt ‹iLt (Int.ofNat v) (Int.ofNat h) = false›
    have e : v = h := by omega
    exact ⟨by (first | exact Nat.le_refl _ | (simp only [addL_eq, addL_rec]; omega)), m1, by repeat' (first | exact WkM.comm [(900, _)] _ | refine WkM.drop ?_), .inl (by rw [Nat.mul_comm, ← e]; exact hI)⟩
  have hlt := lt_of_iLt ‹iLt (Int.ofNat v) (Int.ofNat h) = true›
  conv => whnf
  refine loS_i (fun jj f mm R' ni => ∃ (u : Nat) (m1 : Mem), u ≤ w ∧ jj = w - u + 1 ∧ f = [(0, .yf i b), (1, .ptr 900 bb 0), (6, i64 h), (7, .int .i64 (Int.ofNat v)), (3, .int .i64 (Int.ofNat v)), (11, i64 w), (12, .int .i64 (Int.ofNat u))] ∧ mm = (900, .own bb 35 [i64 x, i64 y, i64 w, i64 h]) :: m1 ∧ I (v * w + u) m1 ∧ R' = addL (R + (c + 20) * (w * h - (v * w + u))) 10 ∧ ni = 600) (w + 1) (by omega)
    ⟨[(0, .yf i b), (1, .ptr 900 bb 0), (6, i64 h), (7, .int .i64 (Int.ofNat v)), (3, .int .i64 (Int.ofNat v)), (11, i64 w), (12, .int .i64 (Int.ofNat 0))], (900, .own bb 35 [i64 x, i64 y, i64 w, i64 h]) :: m1, addL (R + (c + 20) * (w * h - (v * w + 0))) 10, 600, ⟨eqF_rfl _, eqF_rfl _, eqF_rfl _, eqF_rfl _, eqF_rfl _, eqF_rfl _, eqF_rfl _, trivial⟩, WkM.refl _, by exact Nat.le_refl _, 0, m1, by omega, by omega, rfl, rfl, hI, rfl, rfl⟩ ?_
  rintro _ _ _ _ _ ⟨u, m1, hu, rfl, rfl, rfl, hI, rfl, rfl⟩
  repeat' ((conv => whnf); first
           | refine eqS_rfl ?_
           | refine eqA_rfl ?_
           | refine eqA_of (by assumption) ?_
           | refine eqS_of (by rfl) ?_
           | refine eqL_rfl ?_
           | refine eqJ_rfl ?_
           | refine flE_intro (fun _ _ => rfl) ?_
           | refine seS_rfl ?_
           | refine brS_tt ?_
           | refine brS_ff ?_
           | refine brS_not ?_
           | refine brS_t (iEq_self _) ?_
           | refine brS_t (by assumption) ?_
           | refine brS_f (by assumption) ?_
           | refine brS_intro (fun _ => ?_) (fun _ => ?_)
           | refine ltS_intro (by first | assumption | decide | exact Nat.le_of_ble_eq_true rfl | omega) ?_
           | refine ixS_of rfl (by first | assumption | decide | omega) ?_
           | refine okS_intro (by first | assumption | kernel_rfl) ?_
           | refine nzS_intro (by first | decide | assumption) ?_
           | intro _)
  rotate_left
  · conv => whnf
    have hge := ge_of_iLt ‹iLt (Int.ofNat u) (Int.ofNat w) = false›
    have e : u = w := by omega
    have e2 : v * w + u = (v + 1) * w := by rw [Nat.succ_mul, e]
    rw [e2] at hI
    exact ⟨h - (v + 1) + 1, [(0, .yf i b), (1, .ptr 900 bb 0), (6, i64 h), (7, .int .i64 (Int.ofNat (v + 1)))], _, addL (R + (c + 20) * (w * h - ((v + 1) * w))) 10, 600, by omega, ⟨eqF_rfl _, eqF_rfl _, eqF_rfl _, ⟨congrArg (Value.int .i64) (wr_nat (i := v + 1) (by omega)), rfl⟩, trivial⟩, WkM.refl _, by rw [e2]; (first | exact Nat.le_refl _ | (simp only [addL_eq, addL_rec]; omega)), v + 1, m1, by omega, rfl, rfl, rfl, hI, rfl, rfl⟩
  have hlu := lt_of_iLt ‹iLt (Int.ofNat u) (Int.ofNat w) = true›
  obtain ⟨q1, q2, q3⟩ := cell_at hlu hlt
  have hy3 : (c + 20) * (w * h - (v * w + u)) = (c + 20) * (w * h - (v * w + (u + 1))) + (c + 20) := by rw [← Nat.mul_succ]; congr 1; omega
  have ex : wr .i64 (Int.add (x : Nat) (Int.ofNat u)) = ((x + (v * w + u) % w : Nat) : Int) := by rw [q2]; exact wr_nat (i := x + u) (by omega)
  have ey : wr .i64 (Int.add (y : Nat) (Int.ofNat v)) = ((y + (v * w + u) / w : Nat) : Int) := by rw [q3]; exact wr_nat (i := y + v) (by omega)
  repeat' ((conv => whnf); first
           | refine eqS_rfl ?_
           | refine eqA_rfl ?_
           | refine eqA_of (by assumption) ?_
           | refine eqS_of (by rfl) ?_
           | refine eqL_rfl ?_
           | refine eqJ_rfl ?_
           | refine flE_intro (fun _ _ => rfl) ?_
           | refine seS_rfl ?_
           | refine brS_tt ?_
           | refine brS_ff ?_
           | refine brS_not ?_
           | refine brS_t (iEq_self _) ?_
           | refine brS_t (by assumption) ?_
           | refine brS_f (by assumption) ?_
           | refine brS_intro (fun _ => ?_) (fun _ => ?_)
           | refine ltS_intro (by first | assumption | decide | exact Nat.le_of_ble_eq_true rfl | omega) ?_
           | refine ixS_of rfl (by first | assumption | decide | omega) ?_
           | refine okS_intro (by first | assumption | kernel_rfl) ?_
           | refine nzS_intro (by first | decide | assumption) ?_
           | refine call_round hI (hr (v * w + u) q1) [_] (addL (R + (c + 20) * (w * h - (v * w + (u + 1)))) 20) (by exact cg2 (fun u v => dens [bl u v 1 1]) ex ey) (by exact WkM.refl _) (by (first | exact Nat.le_refl _ | (simp only [addL_eq, addL_rec]; omega))) ?_ ?_
           | intro _)
  all_goals conv => whnf
  · rename_i m2 hI2
    exact ⟨w - (u + 1) + 1, [(0, .yf i b), (1, .ptr 900 bb 0), (6, i64 h), (7, .int .i64 (Int.ofNat v)), (3, .int .i64 (Int.ofNat v)), (11, i64 w), (12, .int .i64 (Int.ofNat (u + 1)))], _, addL (R + (c + 20) * (w * h - (v * w + (u + 1)))) 10, 600, by omega, ⟨eqF_rfl _, eqF_rfl _, eqF_rfl _, eqF_rfl _, eqF_rfl _, eqF_rfl _, ⟨congrArg (Value.int .i64) (wr_nat (i := u + 1) (by omega)), rfl⟩, trivial⟩, WkM.refl _, by (first | exact Nat.le_refl _ | (simp only [addL_eq, addL_rec]; omega)), u + 1, m2, by omega, rfl, rfl, rfl, hI2, rfl, rfl⟩
  · rename_i m2 hQ2
    exact ⟨by (first | exact Nat.le_refl _ | (simp only [addL_eq, addL_rec]; omega)), m2, by repeat' (first | exact WkM.comm [(900, _)] _ | refine WkM.drop ?_), .inr hQ2⟩
end Go.Proofs.Ytbpdmbgkoijfbaa
namespace Go.Proofs.Ytbpdmbgkoijfbaa
open Go.Ab
attribute [local irreducible] aggOk drwOK
set_option maxRecDepth 100000
set_option maxHeartbeats 4000000
set_option linter.unusedVariables false
set_option linter.unusedSimpArgs false
/-- needles as a grid -/
def grid (nf : Nat → Int) (W : Nat) : Grid := fun x y => nf (y * W + x)
theorem bpx_le (x w h k : Nat) : bpx x w h k ≤ x + w := by unfold bpx; (repeat' split) <;> omega
theorem bpy_le (y w h k : Nat) : bpy y w h k ≤ y + h := by unfold bpy; (repeat' split) <;> omega
theorem idx_lt {x y W H : Nat} (hx : x < W) (hy : y < H) : y * W + x < W * H := (cell_at hx hy).1
theorem sum_sm (g : Grid) (x y w h : Nat) {k : Nat} (hk : k ≤ 100) : -180000 ≤ sumN k (btn g x y w h) ∧ sumN k (btn g x y w h) ≤ 180000 := by
  have h1 := sumN_bd (f := btn g x y w h) (B := 1800) (n := k) fun j _ => by
    have := T_bd (g (bpx x w h j) (bpy y w h j)) (g (bpx x w h (j + 1)) (bpy y w h (j + 1)))
    unfold btn; omega
  have h2 : k * 1800 ≤ 100 * 1800 := Nat.mul_le_mul_right _ hk
  omega
theorem idx_sm (g : Grid) (x y w h : Nat) (hk : 2 * w + 2 * h ≤ 100) : wr .i64 ((bsum g x y w h).tdiv 3600) = (bsum g x y w h).tdiv 3600 ∧ 3600 * (bsum g x y w h).tdiv 3600 = bsum g x y w h ∧ -100 ≤ (bsum g x y w h).tdiv 3600 ∧ (bsum g x y w h).tdiv 3600 ≤ 100 := by
  have h1 : -180000 ≤ bsum g x y w h ∧ bsum g x y w h ≤ 180000 := sum_sm g x y w h hk
  obtain ⟨q, hq⟩ := bsum_mod g x y w h
  have e : (bsum g x y w h).tdiv 3600 = q := by rw [hq, Int.mul_tdiv_cancel_left _ (by decide)]
  rw [e]
  exact ⟨sm (by omega), hq.symm, by omega, by omega⟩
theorem c44 (F d : Nat) (hF : 100 < F) (W H x y w h : Nat) (o : Int) (a : Option Addr) (n c : Nat) (nf : Nat → Int) (hD : ∀ j, Dir (nf j)) (hW : W ≤ 10) (hH : H ≤ 10) (hw : x + w < W) (hh : y + h < H) (hn : n = W * H) : ReadC (CL F (d + 5)) 44 [fld W H o a n c, bl x y w h] [(1000, roN a n c nf)] ((2 * w + 2 * h) * 110 + 700) (i64 ((bsum (grid nf W) x y w h).tdiv 3600)) := by
  intro R
  rw [show (2 * w + 2 * h) * 110 + 700 = ((2 * w + 2 * h) * 110 + 500) + 200 by omega, addL_eq, ← Nat.add_assoc, ← addL_eq _ 200]
  refine call_in (n := 20) Try.func44 rfl rfl rfl rfl rfl rfl rfl ?_
  repeat' ((conv => whnf); first
           | refine eqS_rfl ?_
           | refine eqA_rfl ?_
           | refine eqA_of (by assumption) ?_
           | refine eqS_of (by rfl) ?_
           | refine eqL_rfl ?_
           | refine eqJ_rfl ?_
           | refine flE_intro (fun _ _ => rfl) ?_
           | refine seS_rfl ?_
           | refine brS_tt ?_
           | refine brS_ff ?_
           | refine brS_not ?_
           | refine brS_t (iEq_self _) ?_
           | refine brS_t (by assumption) ?_
           | refine brS_f (by assumption) ?_
           | refine brS_intro (fun _ => ?_) (fun _ => ?_)
           | refine ltS_intro (by first | assumption | decide | exact Nat.le_of_ble_eq_true rfl | omega) ?_
           | refine ixS_of rfl (by first | assumption | decide | omega) ?_
           | refine okS_intro (by first | assumption | kernel_rfl) ?_
           | refine nzS_intro (by first | decide | assumption) ?_
           | refine call_in (n := 4) Try.func55 rfl rfl rfl rfl rfl rfl rfl ?_
           | intro _)
  rename_i bf bb bs bq b1 b2
  refine call_iter (c60 F (d + 2) 60 hF bq x y w h (by omega) (by omega)) (fun k m => m = [(4, lopF Try.f44 0 b2 .ready none 20 [(5, .ptr 2 bs 0), (2, .ptr 0 bf 0)] b1), (dfN, .dfr [b1]), (2, .own bs 3 [i64 (sumN k (btn (grid nf W) x y w h))]), (0, .own bf 24 [i64 W, i64 H, i64 o, .sl 1000 a n c]), (1000, roN a n c nf)]) (fun _ => False) [(4, lopF Try.f44 0 b2 .ready none 20 [(5, .ptr 2 bs 0), (2, .ptr 0 bf 0)] b1), (dfN, .dfr [b1]), (2, .own bs 3 [i64 (0)]), (0, .own bf 24 [i64 W, i64 H, i64 o, .sl 1000 a n c]), (1000, roN a n c nf)] (addL R 100) (by rfl) (by exact (WkM.lop (i := 4) (j := 4) (f' := [(5, .ptr 2 bs 0), (2, .ptr 0 bf 0)]) ⟨eqF_rfl _, eqF_rfl _, trivial⟩ (WkM.refl _)).trans (by refine Sel.wk ?_; (try simp only [List.cons_append, List.nil_append]); repeat' (first | exact Sel.nil | exact Sel.all | exact Sel.left | refine Sel.cons Pick.here ?_ | refine Sel.cons (Pick.there Pick.here) ?_ | refine Sel.cons (Pick.there (Pick.there Pick.here)) ?_ | refine Sel.cons (Pick.there (Pick.there (Pick.there Pick.here))) ?_ | refine Sel.cons (Pick.there (Pick.there (Pick.there (Pick.there Pick.here)))) ?_ | refine Sel.cons (Pick.there (Pick.there (Pick.there (Pick.there (Pick.there Pick.here))))) ?_ | refine Sel.cons (Pick.there (Pick.there (Pick.there (Pick.there (Pick.there (Pick.there Pick.here)))))) ?_ | refine Sel.cons (Pick.there (Pick.there (Pick.there (Pick.there (Pick.there (Pick.there (Pick.there Pick.here))))))) ?_ | refine Sel.cons (Pick.there (Pick.there (Pick.there (Pick.there (Pick.there (Pick.there (Pick.there (Pick.there Pick.here)))))))) ?_ | refine Sel.cons (Pick.there (Pick.there (Pick.there (Pick.there (Pick.there (Pick.there (Pick.there (Pick.there (Pick.there Pick.here))))))))) ?_ | refine Sel.cons (Pick.there (Pick.there (Pick.there (Pick.there (Pick.there (Pick.there (Pick.there (Pick.there (Pick.there (Pick.there Pick.here)))))))))) ?_ | refine Sel.cons (Pick.there (Pick.there (Pick.there (Pick.there (Pick.there (Pick.there (Pick.there (Pick.there (Pick.there (Pick.there (Pick.there Pick.here))))))))))) ?_ | refine Sel.consw Pick.here ⟨rfl, rfl, rfl⟩ ?_ | refine Sel.consw (Pick.there Pick.here) ⟨rfl, rfl, rfl⟩ ?_ | refine Sel.consw (Pick.there (Pick.there Pick.here)) ⟨rfl, rfl, rfl⟩ ?_ | refine Sel.consw (Pick.there (Pick.there (Pick.there Pick.here))) ⟨rfl, rfl, rfl⟩ ?_ | refine Sel.consw (Pick.there (Pick.there (Pick.there (Pick.there Pick.here)))) ⟨rfl, rfl, rfl⟩ ?_ | refine Sel.consw (Pick.there (Pick.there (Pick.there (Pick.there (Pick.there Pick.here))))) ⟨rfl, rfl, rfl⟩ ?_ | refine Sel.consw (Pick.there (Pick.there (Pick.there (Pick.there (Pick.there (Pick.there Pick.here)))))) ⟨rfl, rfl, rfl⟩ ?_ | refine Sel.consw (Pick.there (Pick.there (Pick.there (Pick.there (Pick.there (Pick.there (Pick.there Pick.here))))))) ⟨rfl, rfl, rfl⟩ ?_ | refine Sel.consw (Pick.there (Pick.there (Pick.there (Pick.there (Pick.there (Pick.there (Pick.there (Pick.there Pick.here)))))))) ⟨rfl, rfl, rfl⟩ ?_ | refine Sel.consw (Pick.there (Pick.there (Pick.there (Pick.there (Pick.there (Pick.there (Pick.there (Pick.there (Pick.there Pick.here))))))))) ⟨rfl, rfl, rfl⟩ ?_ | refine Sel.consw (Pick.there (Pick.there (Pick.there (Pick.there (Pick.there (Pick.there (Pick.there (Pick.there (Pick.there (Pick.there Pick.here)))))))))) ⟨rfl, rfl, rfl⟩ ?_ | refine Sel.consw (Pick.there (Pick.there (Pick.there (Pick.there (Pick.there (Pick.there (Pick.there (Pick.there (Pick.there (Pick.there (Pick.there Pick.here))))))))))) ⟨rfl, rfl, rfl⟩ ?_ | refine Sel.snoc Pick.here ?_ | refine Sel.snoc (Pick.there Pick.here) ?_ | refine Sel.snoc (Pick.there (Pick.there Pick.here)) ?_ | refine Sel.snoc (Pick.there (Pick.there (Pick.there Pick.here))) ?_ | refine Sel.snoc (Pick.there (Pick.there (Pick.there (Pick.there Pick.here)))) ?_ | refine Sel.snoc (Pick.there (Pick.there (Pick.there (Pick.there (Pick.there Pick.here))))) ?_ | refine Sel.snoc (Pick.there (Pick.there (Pick.there (Pick.there (Pick.there (Pick.there Pick.here)))))) ?_ | refine Sel.snoc (Pick.there (Pick.there (Pick.there (Pick.there (Pick.there (Pick.there (Pick.there Pick.here))))))) ?_ | refine Sel.snoc (Pick.there (Pick.there (Pick.there (Pick.there (Pick.there (Pick.there (Pick.there (Pick.there Pick.here)))))))) ?_ | refine Sel.snoc (Pick.there (Pick.there (Pick.there (Pick.there (Pick.there (Pick.there (Pick.there (Pick.there (Pick.there Pick.here))))))))) ?_ | refine Sel.snoc (Pick.there (Pick.there (Pick.there (Pick.there (Pick.there (Pick.there (Pick.there (Pick.there (Pick.there (Pick.there Pick.here)))))))))) ?_ | refine Sel.snoc (Pick.there (Pick.there (Pick.there (Pick.there (Pick.there (Pick.there (Pick.there (Pick.there (Pick.there (Pick.there (Pick.there Pick.here))))))))))) ?_ | refine Sel.drop ?_))) rfl ?_ (by (first | exact Nat.le_refl _ | (simp only [addL_eq, addL_rec]; omega))) ?_
  · rintro k hk _ rfl me' R
    have h1 := bpx_le x w h k
    have h2 := bpy_le y w h k
    have h3 := bpx_le x w h (k + 1)
    have h4 := bpy_le y w h (k + 1)
    refine call_yield ?_
    repeat' ((conv => whnf); first
             | refine eqS_rfl ?_
             | refine eqA_rfl ?_
             | refine eqA_of (by assumption) ?_
             | refine eqS_of (by rfl) ?_
             | refine eqL_rfl ?_
             | refine eqJ_rfl ?_
             | refine flE_intro (fun _ _ => rfl) ?_
             | refine seS_rfl ?_
             | refine brS_tt ?_
             | refine brS_ff ?_
             | refine brS_not ?_
             | refine brS_t (iEq_self _) ?_
             | refine brS_t (by assumption) ?_
             | refine brS_f (by assumption) ?_
             | refine brS_intro (fun _ => ?_) (fun _ => ?_)
             | refine ltS_intro (by first | assumption | decide | exact Nat.le_of_ble_eq_true rfl | omega) ?_
             | refine ixS_of rfl (by first | assumption | decide | omega) ?_
             | refine okS_intro (by first | assumption | kernel_rfl) ?_
             | refine nzS_intro (by first | decide | assumption) ?_
             | refine call_read (c56 F d W (bpx x w h k) (bpy y w h k) (bpx x w h (k + 1)) (bpy y w h (k + 1)) H o a n c nf hD (by omega) (by omega) (by omega) (by rw [hn]; exact idx_lt (by omega) (by omega)) (by omega) (by omega) (by rw [hn]; exact idx_lt (by omega) (by omega))) (by rfl) (by exact SeesM.cons 1000 (sees_ro (i := 1000) (by rfl)) (SeesM.nil _) (fun _ _ _ _ _ _ x hx => by cases hx)) ?_
             | intro _)
    conv => whnf
    refine ⟨by (first | exact Nat.le_refl _ | (simp only [addL_eq, addL_rec]; omega)), [(4, lopF Try.f44 0 b2 .ready none 20 [(5, .ptr 2 bs 0), (2, .ptr 0 bf 0)] b1), (dfN, .dfr [b1]), (2, .own bs 3 [i64 (sumN (k + 1) (btn (grid nf W) x y w h))]), (0, .own bf 24 [i64 W, i64 H, i64 o, .sl 1000 a n c]), (1000, roN a n c nf)], ?_, .inl ⟨rfl, rfl⟩⟩
    have hs := sum_sm (grid nf W) x y w h (k := k) (by omega)
    have hb := T_bd (nf (bpy y w h k * W + bpx x w h k)) (nf (bpy y w h (k + 1) * W + bpx x w h (k + 1)))
    rw [show sumN (k + 1) (btn (grid nf W) x y w h) = wr .i64 (Int.add (sumN k (btn (grid nf W) x y w h)) (T (nf (bpy y w h k * W + bpx x w h k)) (nf (bpy y w h (k + 1) * W + bpx x w h (k + 1))))) from (sm (n := sumN k (btn (grid nf W) x y w h) + T (nf (bpy y w h k * W + bpx x w h k)) (nf (bpy y w h (k + 1) * W + bpx x w h (k + 1)))) (by omega)).symm]
    exact (by refine Sel.wk ?_; (try simp only [List.cons_append, List.nil_append]); repeat' (first | exact Sel.nil | exact Sel.all | exact Sel.left | refine Sel.cons Pick.here ?_ | refine Sel.cons (Pick.there Pick.here) ?_ | refine Sel.cons (Pick.there (Pick.there Pick.here)) ?_ | refine Sel.cons (Pick.there (Pick.there (Pick.there Pick.here))) ?_ | refine Sel.cons (Pick.there (Pick.there (Pick.there (Pick.there Pick.here)))) ?_ | refine Sel.cons (Pick.there (Pick.there (Pick.there (Pick.there (Pick.there Pick.here))))) ?_ | refine Sel.cons (Pick.there (Pick.there (Pick.there (Pick.there (Pick.there (Pick.there Pick.here)))))) ?_ | refine Sel.cons (Pick.there (Pick.there (Pick.there (Pick.there (Pick.there (Pick.there (Pick.there Pick.here))))))) ?_ | refine Sel.cons (Pick.there (Pick.there (Pick.there (Pick.there (Pick.there (Pick.there (Pick.there (Pick.there Pick.here)))))))) ?_ | refine Sel.cons (Pick.there (Pick.there (Pick.there (Pick.there (Pick.there (Pick.there (Pick.there (Pick.there (Pick.there Pick.here))))))))) ?_ | refine Sel.cons (Pick.there (Pick.there (Pick.there (Pick.there (Pick.there (Pick.there (Pick.there (Pick.there (Pick.there (Pick.there Pick.here)))))))))) ?_ | refine Sel.cons (Pick.there (Pick.there (Pick.there (Pick.there (Pick.there (Pick.there (Pick.there (Pick.there (Pick.there (Pick.there (Pick.there Pick.here))))))))))) ?_ | refine Sel.consw Pick.here ⟨rfl, rfl, rfl⟩ ?_ | refine Sel.consw (Pick.there Pick.here) ⟨rfl, rfl, rfl⟩ ?_ | refine Sel.consw (Pick.there (Pick.there Pick.here)) ⟨rfl, rfl, rfl⟩ ?_ | refine Sel.consw (Pick.there (Pick.there (Pick.there Pick.here))) ⟨rfl, rfl, rfl⟩ ?_ | refine Sel.consw (Pick.there (Pick.there (Pick.there (Pick.there Pick.here)))) ⟨rfl, rfl, rfl⟩ ?_ | refine Sel.consw (Pick.there (Pick.there (Pick.there (Pick.there (Pick.there Pick.here))))) ⟨rfl, rfl, rfl⟩ ?_ | refine Sel.consw (Pick.there (Pick.there (Pick.there (Pick.there (Pick.there (Pick.there Pick.here)))))) ⟨rfl, rfl, rfl⟩ ?_ | refine Sel.consw (Pick.there (Pick.there (Pick.there (Pick.there (Pick.there (Pick.there (Pick.there Pick.here))))))) ⟨rfl, rfl, rfl⟩ ?_ | refine Sel.consw (Pick.there (Pick.there (Pick.there (Pick.there (Pick.there (Pick.there (Pick.there (Pick.there Pick.here)))))))) ⟨rfl, rfl, rfl⟩ ?_ | refine Sel.consw (Pick.there (Pick.there (Pick.there (Pick.there (Pick.there (Pick.there (Pick.there (Pick.there (Pick.there Pick.here))))))))) ⟨rfl, rfl, rfl⟩ ?_ | refine Sel.consw (Pick.there (Pick.there (Pick.there (Pick.there (Pick.there (Pick.there (Pick.there (Pick.there (Pick.there (Pick.there Pick.here)))))))))) ⟨rfl, rfl, rfl⟩ ?_ | refine Sel.consw (Pick.there (Pick.there (Pick.there (Pick.there (Pick.there (Pick.there (Pick.there (Pick.there (Pick.there (Pick.there (Pick.there Pick.here))))))))))) ⟨rfl, rfl, rfl⟩ ?_ | refine Sel.snoc Pick.here ?_ | refine Sel.snoc (Pick.there Pick.here) ?_ | refine Sel.snoc (Pick.there (Pick.there Pick.here)) ?_ | refine Sel.snoc (Pick.there (Pick.there (Pick.there Pick.here))) ?_ | refine Sel.snoc (Pick.there (Pick.there (Pick.there (Pick.there Pick.here)))) ?_ | refine Sel.snoc (Pick.there (Pick.there (Pick.there (Pick.there (Pick.there Pick.here))))) ?_ | refine Sel.snoc (Pick.there (Pick.there (Pick.there (Pick.there (Pick.there (Pick.there Pick.here)))))) ?_ | refine Sel.snoc (Pick.there (Pick.there (Pick.there (Pick.there (Pick.there (Pick.there (Pick.there Pick.here))))))) ?_ | refine Sel.snoc (Pick.there (Pick.there (Pick.there (Pick.there (Pick.there (Pick.there (Pick.there (Pick.there Pick.here)))))))) ?_ | refine Sel.snoc (Pick.there (Pick.there (Pick.there (Pick.there (Pick.there (Pick.there (Pick.there (Pick.there (Pick.there Pick.here))))))))) ?_ | refine Sel.snoc (Pick.there (Pick.there (Pick.there (Pick.there (Pick.there (Pick.there (Pick.there (Pick.there (Pick.there (Pick.there Pick.here)))))))))) ?_ | refine Sel.snoc (Pick.there (Pick.there (Pick.there (Pick.there (Pick.there (Pick.there (Pick.there (Pick.there (Pick.there (Pick.there (Pick.there Pick.here))))))))))) ?_ | refine Sel.drop ?_))
  · rintro _ _ (rfl | h)
    · repeat' ((conv => whnf); first
             | refine eqS_rfl ?_
             | refine eqA_rfl ?_
             | refine eqA_of (by assumption) ?_
             | refine eqS_of (by rfl) ?_
             | refine eqL_rfl ?_
             | refine eqJ_rfl ?_
             | refine flE_intro (fun _ _ => rfl) ?_
             | refine seS_rfl ?_
             | refine brS_tt ?_
             | refine brS_ff ?_
             | refine brS_not ?_
             | refine brS_t (iEq_self _) ?_
             | refine brS_t (by assumption) ?_
             | refine brS_f (by assumption) ?_
             | refine brS_intro (fun _ => ?_) (fun _ => ?_)
             | refine ltS_intro (by first | assumption | decide | exact Nat.le_of_ble_eq_true rfl | omega) ?_
             | refine ixS_of rfl (by first | assumption | decide | omega) ?_
             | refine okS_intro (by first | assumption | kernel_rfl) ?_
             | refine nzS_intro (by first | decide | assumption) ?_
             | intro _)
      conv => whnf
      exact ⟨congrArg (Value.int .i64) (idx_sm (grid nf W) x y w h (by omega)).1, by (first | exact Nat.le_refl _ | (simp only [addL_eq, addL_rec]; omega))⟩
    · exact h.elim
end Go.Proofs.Ytbpdmbgkoijfbaa
namespace Go.Proofs.Ytbpdmbgkoijfbaa
open Go.Ab
attribute [local irreducible] aggOk drwOK
set_option maxRecDepth 100000
set_option maxHeartbeats 4000000
set_option linter.unusedVariables false
set_option linter.unusedSimpArgs false
/-- a turn that stays the same in every truth -/
def okB (g : Grid) (o : Int) (x y j : Nat) : Bool := decide (max (btn g x y 1 1 j) (-(btn g x y 1 1 j)) + 2 * o < 1800)
def certB (g : Grid) (o : Int) (W H : Nat) : Bool := (List.range (W * H)).all fun k => (List.range 4).all fun j => okB g o (0 + k % W) (0 + k / W) j
theorem c47 (F d : Nat) (W H : Nat) (o : Int) (a : Option Addr) (n c : Nat) (hW : 1 ≤ W ∧ W ≤ 100) (hH : 1 ≤ H ∧ H ≤ 100) : PureC (CL F (d + 1)) 47 [fld W H o a n c] 4 (bl 0 0 (W - 1 : Nat) (H - 1 : Nat)) := by
  have e1 : wr .i64 (Int.sub (W : Nat) 1) = ((W - 1 : Nat) : Int) := (sm (n := (W : Int) - 1) (by omega)).trans (by omega)
  have e2 : wr .i64 (Int.sub (H : Nat) 1) = ((H - 1 : Nat) : Int) := (sm (n := (H : Int) - 1) (by omega)).trans (by omega)
  intro m R
  refine call_in (n := 10) Try.func47 rfl rfl rfl rfl rfl rfl rfl ?_
  repeat' ((conv => whnf); first
           | refine eqS_rfl ?_
           | refine eqA_rfl ?_
           | refine eqA_of (by assumption) ?_
           | refine eqS_of (by rfl) ?_
           | refine eqL_rfl ?_
           | refine eqJ_rfl ?_
           | refine flE_intro (fun _ _ => rfl) ?_
           | refine seS_rfl ?_
           | refine brS_tt ?_
           | refine brS_ff ?_
           | refine brS_not ?_
           | refine brS_t (iEq_self _) ?_
           | refine brS_t (by assumption) ?_
           | refine brS_f (by assumption) ?_
           | refine brS_intro (fun _ => ?_) (fun _ => ?_)
           | refine ltS_intro (by first | assumption | decide | exact Nat.le_of_ble_eq_true rfl | omega) ?_
           | refine ixS_of rfl (by first | assumption | decide | omega) ?_
           | refine okS_intro (by first | assumption | kernel_rfl) ?_
           | refine nzS_intro (by first | decide | assumption) ?_
           | intro _)
  all_goals (conv => whnf)
  all_goals refine ⟨?_, by repeat' (first | exact WkM.refl _ | refine WkM.drop ?_), by repeat' (first | exact Nat.le_refl _ | refine Nat.le_succ_of_le ?_)⟩
  all_goals (exact cg2 (fun u v => den (bl 0 0 u v)) e1 e2)

theorem all_t {n : Nat} {p : Nat → Bool} (h : ∀ k, k < n → p k = true) : (List.range n).all p = true := List.all_eq_true.2 fun k hk => h k (List.mem_range.1 hk)
theorem all_f {n : Nat} {p : Nat → Bool} {k : Nat} (hk : k < n) (h : p k = false) : (List.range n).all p = false := by
  cases e : (List.range n).all p with
  | false => rfl
  | true => rw [List.all_eq_true.1 e k (List.mem_range.2 hk)] at h; cases h
theorem ok_iff {g : Grid} {o : Int} {x y j : Nat} {n : Int} (hn : btn g x y 1 1 j = n) (ho : 0 ≤ o ∧ o ≤ 400) (hb : -1800 ≤ n ∧ n < 1800) : iLt (wr .i64 (Int.add (bif iLt n (wr .i64 (Int.sub 0 n)) then wr .i64 (Int.sub 0 n) else n) (wr .i64 (Int.mul 2 o)))) 1800 = okB g o x y j := by
  have e1 : wr .i64 (Int.sub 0 n) = -n := (sm (n := 0 - n) (by omega)).trans (by omega)
  have e2 : wr .i64 (Int.mul 2 o) = 2 * o := sm (n := 2 * o) (by omega)
  have e3 : (bif iLt n (-n) then -n else n) = max n (-n) := by
    rw [iLt_eq]
    by_cases h : n < -n
    · rw [decide_eq_true h]; show -n = _; omega
    · rw [decide_eq_false h]; show n = _; omega
  rw [e1, e2, e3, show wr .i64 (Int.add (max n (-n)) (2 * o)) = max n (-n) + 2 * o from sm (n := max n (-n) + 2 * o) (by omega), iLt_eq]
  unfold okB; rw [hn]
theorem c41 (F d : Nat) (hF : 100 < F) (W H : Nat) (o : Int) (a : Option Addr) (n c : Nat) (nf : Nat → Int) (hD : ∀ j, Dir (nf j)) (hW : 2 ≤ W ∧ W ≤ 9) (hH : 2 ≤ H ∧ H ≤ 9) (ho : 0 ≤ o ∧ o ≤ 400) (hn : n = W * H) : ReadC (CL F (d + 7)) 41 [fld W H o a n c] [(1000, roN a n c nf)] (1000 * ((W - 1) * (H - 1)) + 1000) (.bool (certB (grid nf W) o (W - 1) (H - 1))) := by
  intro R
  rw [show 1000 * ((W - 1) * (H - 1)) + 1000 = (1000 * ((W - 1) * (H - 1)) + 800) + 200 by omega, addL_eq, ← Nat.add_assoc, ← addL_eq _ 200]
  refine call_in (n := 28) Try.func41 rfl rfl rfl rfl rfl rfl rfl ?_
  repeat' ((conv => whnf); first
           | refine eqS_rfl ?_
           | refine eqA_rfl ?_
           | refine eqA_of (by assumption) ?_
           | refine eqS_of (by rfl) ?_
           | refine eqL_rfl ?_
           | refine eqJ_rfl ?_
           | refine flE_intro (fun _ _ => rfl) ?_
           | refine seS_rfl ?_
           | refine brS_tt ?_
           | refine brS_ff ?_
           | refine brS_not ?_
           | refine brS_t (iEq_self _) ?_
           | refine brS_t (by assumption) ?_
           | refine brS_f (by assumption) ?_
           | refine brS_intro (fun _ => ?_) (fun _ => ?_)
           | refine ltS_intro (by first | assumption | decide | exact Nat.le_of_ble_eq_true rfl | omega) ?_
           | refine ixS_of rfl (by first | assumption | decide | omega) ?_
           | refine okS_intro (by first | assumption | kernel_rfl) ?_
           | refine nzS_intro (by first | decide | assumption) ?_
           | refine call_pure (c47 F _ W H o a n c (by omega) (by omega)) ?_
           | refine call_in (n := 4) Try.func48 rfl rfl rfl rfl rfl rfl rfl ?_
           | intro _)
  rename_i bf br bq b1 b2
  refine call_iter (c58 F (d + 4) 900 hF bq 0 0 (W - 1) (H - 1) (by omega) (by omega)) (fun k m => m = [(3, lopF Try.f41 0 b2 .ready none 28 [(1, .ptr 0 bf 0), (2, .ptr 1 br 0)] b1), (dfN, .dfr [b1]), (1, .own br 4 [.bool false]), (0, .own bf 24 [i64 W, i64 H, i64 o, .sl 1000 a n c]), (1000, roN a n c nf)] ∧ ∀ q, q < k → ∀ j, j < 4 → okB (grid nf W) o (0 + q % (W - 1)) (0 + q / (W - 1)) j = true) (fun m => m = [(3, lopF Try.f41 0 b2 .done (some .ret) 28 [(1, .ptr 0 bf 0), (2, .ptr 1 br 0)] b1), (dfN, .dfr [b1]), (1, .own br 4 [.bool false]), (0, .own bf 24 [i64 W, i64 H, i64 o, .sl 1000 a n c]), (1000, roN a n c nf)] ∧ ∃ q, q < (W - 1) * (H - 1) ∧ ∃ j, j < 4 ∧ okB (grid nf W) o (0 + q % (W - 1)) (0 + q / (W - 1)) j = false) [(3, lopF Try.f41 0 b2 .ready none 28 [(1, .ptr 0 bf 0), (2, .ptr 1 br 0)] b1), (dfN, .dfr [b1]), (1, .own br 4 [.bool false]), (0, .own bf 24 [i64 W, i64 H, i64 o, .sl 1000 a n c]), (1000, roN a n c nf)] (addL R 100) (by rfl) (by exact (WkM.lop (i := 3) (j := 3) (f' := [(1, .ptr 0 bf 0), (2, .ptr 1 br 0)]) ⟨eqF_rfl _, eqF_rfl _, trivial⟩ (WkM.refl _)).trans (by refine Sel.wk ?_; (try simp only [List.cons_append, List.nil_append]); repeat' (first | exact Sel.nil | exact Sel.all | exact Sel.left | refine Sel.cons Pick.here ?_ | refine Sel.cons (Pick.there Pick.here) ?_ | refine Sel.cons (Pick.there (Pick.there Pick.here)) ?_ | refine Sel.cons (Pick.there (Pick.there (Pick.there Pick.here))) ?_ | refine Sel.cons (Pick.there (Pick.there (Pick.there (Pick.there Pick.here)))) ?_ | refine Sel.cons (Pick.there (Pick.there (Pick.there (Pick.there (Pick.there Pick.here))))) ?_ | refine Sel.cons (Pick.there (Pick.there (Pick.there (Pick.there (Pick.there (Pick.there Pick.here)))))) ?_ | refine Sel.cons (Pick.there (Pick.there (Pick.there (Pick.there (Pick.there (Pick.there (Pick.there Pick.here))))))) ?_ | refine Sel.cons (Pick.there (Pick.there (Pick.there (Pick.there (Pick.there (Pick.there (Pick.there (Pick.there Pick.here)))))))) ?_ | refine Sel.cons (Pick.there (Pick.there (Pick.there (Pick.there (Pick.there (Pick.there (Pick.there (Pick.there (Pick.there Pick.here))))))))) ?_ | refine Sel.cons (Pick.there (Pick.there (Pick.there (Pick.there (Pick.there (Pick.there (Pick.there (Pick.there (Pick.there (Pick.there Pick.here)))))))))) ?_ | refine Sel.cons (Pick.there (Pick.there (Pick.there (Pick.there (Pick.there (Pick.there (Pick.there (Pick.there (Pick.there (Pick.there (Pick.there Pick.here))))))))))) ?_ | refine Sel.consw Pick.here ⟨rfl, rfl, rfl⟩ ?_ | refine Sel.consw (Pick.there Pick.here) ⟨rfl, rfl, rfl⟩ ?_ | refine Sel.consw (Pick.there (Pick.there Pick.here)) ⟨rfl, rfl, rfl⟩ ?_ | refine Sel.consw (Pick.there (Pick.there (Pick.there Pick.here))) ⟨rfl, rfl, rfl⟩ ?_ | refine Sel.consw (Pick.there (Pick.there (Pick.there (Pick.there Pick.here)))) ⟨rfl, rfl, rfl⟩ ?_ | refine Sel.consw (Pick.there (Pick.there (Pick.there (Pick.there (Pick.there Pick.here))))) ⟨rfl, rfl, rfl⟩ ?_ | refine Sel.consw (Pick.there (Pick.there (Pick.there (Pick.there (Pick.there (Pick.there Pick.here)))))) ⟨rfl, rfl, rfl⟩ ?_ | refine Sel.consw (Pick.there (Pick.there (Pick.there (Pick.there (Pick.there (Pick.there (Pick.there Pick.here))))))) ⟨rfl, rfl, rfl⟩ ?_ | refine Sel.consw (Pick.there (Pick.there (Pick.there (Pick.there (Pick.there (Pick.there (Pick.there (Pick.there Pick.here)))))))) ⟨rfl, rfl, rfl⟩ ?_ | refine Sel.consw (Pick.there (Pick.there (Pick.there (Pick.there (Pick.there (Pick.there (Pick.there (Pick.there (Pick.there Pick.here))))))))) ⟨rfl, rfl, rfl⟩ ?_ | refine Sel.consw (Pick.there (Pick.there (Pick.there (Pick.there (Pick.there (Pick.there (Pick.there (Pick.there (Pick.there (Pick.there Pick.here)))))))))) ⟨rfl, rfl, rfl⟩ ?_ | refine Sel.consw (Pick.there (Pick.there (Pick.there (Pick.there (Pick.there (Pick.there (Pick.there (Pick.there (Pick.there (Pick.there (Pick.there Pick.here))))))))))) ⟨rfl, rfl, rfl⟩ ?_ | refine Sel.snoc Pick.here ?_ | refine Sel.snoc (Pick.there Pick.here) ?_ | refine Sel.snoc (Pick.there (Pick.there Pick.here)) ?_ | refine Sel.snoc (Pick.there (Pick.there (Pick.there Pick.here))) ?_ | refine Sel.snoc (Pick.there (Pick.there (Pick.there (Pick.there Pick.here)))) ?_ | refine Sel.snoc (Pick.there (Pick.there (Pick.there (Pick.there (Pick.there Pick.here))))) ?_ | refine Sel.snoc (Pick.there (Pick.there (Pick.there (Pick.there (Pick.there (Pick.there Pick.here)))))) ?_ | refine Sel.snoc (Pick.there (Pick.there (Pick.there (Pick.there (Pick.there (Pick.there (Pick.there Pick.here))))))) ?_ | refine Sel.snoc (Pick.there (Pick.there (Pick.there (Pick.there (Pick.there (Pick.there (Pick.there (Pick.there Pick.here)))))))) ?_ | refine Sel.snoc (Pick.there (Pick.there (Pick.there (Pick.there (Pick.there (Pick.there (Pick.there (Pick.there (Pick.there Pick.here))))))))) ?_ | refine Sel.snoc (Pick.there (Pick.there (Pick.there (Pick.there (Pick.there (Pick.there (Pick.there (Pick.there (Pick.there (Pick.there Pick.here)))))))))) ?_ | refine Sel.snoc (Pick.there (Pick.there (Pick.there (Pick.there (Pick.there (Pick.there (Pick.there (Pick.there (Pick.there (Pick.there (Pick.there Pick.here))))))))))) ?_ | refine Sel.drop ?_))) ⟨rfl, fun q hq => absurd hq (Nat.not_lt_zero _)⟩ ?_ (by (first | exact Nat.le_refl _ | (simp only [addL_eq, addL_rec]; omega))) ?_
  · rintro k hk _ ⟨rfl, hok⟩ me' R
    have hW1 : 0 < W - 1 := by omega
    have hkx : k % (W - 1) < W - 1 := Nat.mod_lt _ hW1
    have hky : k / (W - 1) < H - 1 := by rw [Nat.div_lt_iff_lt_mul hW1, Nat.mul_comm]; exact hk
    refine call_yield ?_
    repeat' ((conv => whnf); first
             | refine eqS_rfl ?_
             | refine eqA_rfl ?_
             | refine eqA_of (by assumption) ?_
             | refine eqS_of (by rfl) ?_
             | refine eqL_rfl ?_
             | refine eqJ_rfl ?_
             | refine flE_intro (fun _ _ => rfl) ?_
             | refine seS_rfl ?_
             | refine brS_tt ?_
             | refine brS_ff ?_
             | refine brS_not ?_
             | refine brS_t (iEq_self _) ?_
             | refine brS_t (by assumption) ?_
             | refine brS_f (by assumption) ?_
             | refine brS_intro (fun _ => ?_) (fun _ => ?_)
             | refine ltS_intro (by first | assumption | decide | exact Nat.le_of_ble_eq_true rfl | omega) ?_
             | refine ixS_of rfl (by first | assumption | decide | omega) ?_
             | refine okS_intro (by first | assumption | kernel_rfl) ?_
             | refine nzS_intro (by first | decide | assumption) ?_
             | refine call_in (n := 4) Try.func55 rfl rfl rfl rfl rfl rfl rfl ?_
             | intro _)
    rename_i b3 b5 b4
    refine call_iter (c60 F (d + 2) 60 hF b5 (0 + k % (W - 1)) (0 + k / (W - 1)) 1 1 (by omega) (by omega)) (fun j m => m = ([(502, lopF Try.f41 1 b4 .ready none 28 [(1, .ptr 0 bf 0), (2, .ptr 1 br 0)] b1), (3, lopF Try.f41 0 b2 .busy none 28 [(1, .ptr 0 bf 0), (2, .ptr 1 br 0)] b1), (dfN, .dfr [b1]), (1, .own br 4 [.bool false]), (0, .own bf 24 [i64 W, i64 H, i64 o, .sl 1000 a n c]), (1000, roN a n c nf)] ++ me') ∧ ∀ q, q < j → okB (grid nf W) o (0 + k % (W - 1)) (0 + k / (W - 1)) q = true) (fun m => m = ([(502, lopF Try.f41 1 b4 .done (some .ret) 28 [(1, .ptr 0 bf 0), (2, .ptr 1 br 0)] b1), (3, lopF Try.f41 0 b2 .busy none 28 [(1, .ptr 0 bf 0), (2, .ptr 1 br 0)] b1), (dfN, .dfr [b1]), (1, .own br 4 [.bool false]), (0, .own bf 24 [i64 W, i64 H, i64 o, .sl 1000 a n c]), (1000, roN a n c nf)] ++ me') ∧ ∃ j, j < 4 ∧ okB (grid nf W) o (0 + k % (W - 1)) (0 + k / (W - 1)) j = false) ([(502, lopF Try.f41 1 b4 .ready none 28 [(1, .ptr 0 bf 0), (2, .ptr 1 br 0)] b1), (3, lopF Try.f41 0 b2 .busy none 28 [(1, .ptr 0 bf 0), (2, .ptr 1 br 0)] b1), (dfN, .dfr [b1]), (1, .own br 4 [.bool false]), (0, .own bf 24 [i64 W, i64 H, i64 o, .sl 1000 a n c]), (1000, roN a n c nf)] ++ me') (addL R 30) (by rfl) (by exact (WkM.lop (i := 502) (j := 502) (f' := [(1, .ptr 0 bf 0), (2, .ptr 1 br 0)]) ⟨eqF_rfl _, eqF_rfl _, trivial⟩ (WkM.refl _)).trans (by refine Sel.wk ?_; (try simp only [List.cons_append, List.nil_append]); repeat' (first | exact Sel.nil | exact Sel.all | exact Sel.left | refine Sel.cons Pick.here ?_ | refine Sel.cons (Pick.there Pick.here) ?_ | refine Sel.cons (Pick.there (Pick.there Pick.here)) ?_ | refine Sel.cons (Pick.there (Pick.there (Pick.there Pick.here))) ?_ | refine Sel.cons (Pick.there (Pick.there (Pick.there (Pick.there Pick.here)))) ?_ | refine Sel.cons (Pick.there (Pick.there (Pick.there (Pick.there (Pick.there Pick.here))))) ?_ | refine Sel.cons (Pick.there (Pick.there (Pick.there (Pick.there (Pick.there (Pick.there Pick.here)))))) ?_ | refine Sel.cons (Pick.there (Pick.there (Pick.there (Pick.there (Pick.there (Pick.there (Pick.there Pick.here))))))) ?_ | refine Sel.cons (Pick.there (Pick.there (Pick.there (Pick.there (Pick.there (Pick.there (Pick.there (Pick.there Pick.here)))))))) ?_ | refine Sel.cons (Pick.there (Pick.there (Pick.there (Pick.there (Pick.there (Pick.there (Pick.there (Pick.there (Pick.there Pick.here))))))))) ?_ | refine Sel.cons (Pick.there (Pick.there (Pick.there (Pick.there (Pick.there (Pick.there (Pick.there (Pick.there (Pick.there (Pick.there Pick.here)))))))))) ?_ | refine Sel.cons (Pick.there (Pick.there (Pick.there (Pick.there (Pick.there (Pick.there (Pick.there (Pick.there (Pick.there (Pick.there (Pick.there Pick.here))))))))))) ?_ | refine Sel.consw Pick.here ⟨rfl, rfl, rfl⟩ ?_ | refine Sel.consw (Pick.there Pick.here) ⟨rfl, rfl, rfl⟩ ?_ | refine Sel.consw (Pick.there (Pick.there Pick.here)) ⟨rfl, rfl, rfl⟩ ?_ | refine Sel.consw (Pick.there (Pick.there (Pick.there Pick.here))) ⟨rfl, rfl, rfl⟩ ?_ | refine Sel.consw (Pick.there (Pick.there (Pick.there (Pick.there Pick.here)))) ⟨rfl, rfl, rfl⟩ ?_ | refine Sel.consw (Pick.there (Pick.there (Pick.there (Pick.there (Pick.there Pick.here))))) ⟨rfl, rfl, rfl⟩ ?_ | refine Sel.consw (Pick.there (Pick.there (Pick.there (Pick.there (Pick.there (Pick.there Pick.here)))))) ⟨rfl, rfl, rfl⟩ ?_ | refine Sel.consw (Pick.there (Pick.there (Pick.there (Pick.there (Pick.there (Pick.there (Pick.there Pick.here))))))) ⟨rfl, rfl, rfl⟩ ?_ | refine Sel.consw (Pick.there (Pick.there (Pick.there (Pick.there (Pick.there (Pick.there (Pick.there (Pick.there Pick.here)))))))) ⟨rfl, rfl, rfl⟩ ?_ | refine Sel.consw (Pick.there (Pick.there (Pick.there (Pick.there (Pick.there (Pick.there (Pick.there (Pick.there (Pick.there Pick.here))))))))) ⟨rfl, rfl, rfl⟩ ?_ | refine Sel.consw (Pick.there (Pick.there (Pick.there (Pick.there (Pick.there (Pick.there (Pick.there (Pick.there (Pick.there (Pick.there Pick.here)))))))))) ⟨rfl, rfl, rfl⟩ ?_ | refine Sel.consw (Pick.there (Pick.there (Pick.there (Pick.there (Pick.there (Pick.there (Pick.there (Pick.there (Pick.there (Pick.there (Pick.there Pick.here))))))))))) ⟨rfl, rfl, rfl⟩ ?_ | refine Sel.snoc Pick.here ?_ | refine Sel.snoc (Pick.there Pick.here) ?_ | refine Sel.snoc (Pick.there (Pick.there Pick.here)) ?_ | refine Sel.snoc (Pick.there (Pick.there (Pick.there Pick.here))) ?_ | refine Sel.snoc (Pick.there (Pick.there (Pick.there (Pick.there Pick.here)))) ?_ | refine Sel.snoc (Pick.there (Pick.there (Pick.there (Pick.there (Pick.there Pick.here))))) ?_ | refine Sel.snoc (Pick.there (Pick.there (Pick.there (Pick.there (Pick.there (Pick.there Pick.here)))))) ?_ | refine Sel.snoc (Pick.there (Pick.there (Pick.there (Pick.there (Pick.there (Pick.there (Pick.there Pick.here))))))) ?_ | refine Sel.snoc (Pick.there (Pick.there (Pick.there (Pick.there (Pick.there (Pick.there (Pick.there (Pick.there Pick.here)))))))) ?_ | refine Sel.snoc (Pick.there (Pick.there (Pick.there (Pick.there (Pick.there (Pick.there (Pick.there (Pick.there (Pick.there Pick.here))))))))) ?_ | refine Sel.snoc (Pick.there (Pick.there (Pick.there (Pick.there (Pick.there (Pick.there (Pick.there (Pick.there (Pick.there (Pick.there Pick.here)))))))))) ?_ | refine Sel.snoc (Pick.there (Pick.there (Pick.there (Pick.there (Pick.there (Pick.there (Pick.there (Pick.there (Pick.there (Pick.there (Pick.there Pick.here))))))))))) ?_ | refine Sel.drop ?_))) ⟨rfl, fun q hq => absurd hq (Nat.not_lt_zero _)⟩ ?_ (by (first | exact Nat.le_refl _ | (simp only [addL_eq, addL_rec]; omega))) ?_
    · rintro j hj _ ⟨rfl, hok2⟩ me2 R
      have h1 := bpx_le (0 + k % (W - 1)) 1 1 j
      have h2 := bpy_le (0 + k / (W - 1)) 1 1 j
      have h3 := bpx_le (0 + k % (W - 1)) 1 1 (j + 1)
      have h4 := bpy_le (0 + k / (W - 1)) 1 1 (j + 1)
      have hX := ok_iff (g := grid nf W) (o := o) (x := (0 + k % (W - 1))) (y := (0 + k / (W - 1))) (j := j) (n := T (nf ((bpy (0 + k / (W - 1)) 1 1 j) * W + (bpx (0 + k % (W - 1)) 1 1 j))) (nf ((bpy (0 + k / (W - 1)) 1 1 (j + 1)) * W + (bpx (0 + k % (W - 1)) 1 1 (j + 1))))) rfl ho (T_bd _ _)
      have hnext : okB (grid nf W) o (0 + k % (W - 1)) (0 + k / (W - 1)) j = true → ∀ q, q < j + 1 → okB (grid nf W) o (0 + k % (W - 1)) (0 + k / (W - 1)) q = true := fun h q hq => by
        by_cases e : q = j
        · rw [e]; exact h
        · exact hok2 q (by omega)
      refine callS.ni 800 ?_
      refine call_yield ?_
      cases hb : okB (grid nf W) o (0 + k % (W - 1)) (0 + k / (W - 1)) j with
      | true =>
        rw [hb] at hX
        repeat' ((conv => whnf); first
                 | refine eqS_rfl ?_
                 | refine eqA_rfl ?_
                 | refine eqA_of (by assumption) ?_
                 | refine eqS_of (by rfl) ?_
                 | refine eqL_rfl ?_
                 | refine eqJ_rfl ?_
                 | refine flE_intro (fun _ _ => rfl) ?_
                 | refine seS_rfl ?_
                 | refine brS_tt ?_
                 | refine brS_ff ?_
                 | refine brS_not ?_
                 | refine brS_t (iEq_self _) ?_
                 | refine brS_t (by assumption) ?_
                 | refine brS_f (by assumption) ?_
                 | refine brS_intro (fun _ => ?_) (fun _ => ?_)
                 | refine ltS_intro (by first | assumption | decide | exact Nat.le_of_ble_eq_true rfl | omega) ?_
                 | refine ixS_of rfl (by first | assumption | decide | omega) ?_
                 | refine okS_intro (by first | assumption | kernel_rfl) ?_
                 | refine nzS_intro (by first | decide | assumption) ?_
                 | refine call_read (c56 F d W (bpx (0 + k % (W - 1)) 1 1 j) (bpy (0 + k / (W - 1)) 1 1 j) (bpx (0 + k % (W - 1)) 1 1 (j + 1)) (bpy (0 + k / (W - 1)) 1 1 (j + 1)) H o a n c nf hD (by omega) (by omega) (by omega) (by rw [hn]; exact idx_lt (by omega) (by omega)) (by omega) (by omega) (by rw [hn]; exact idx_lt (by omega) (by omega))) (by rfl) (by exact SeesM.cons 1000 (sees_ro (i := 1000) (by rfl)) (SeesM.nil _) (fun _ _ _ _ _ _ x hx => by cases hx)) ?_
                 | intro _)
        conv => whnf
        exact ⟨by (first | exact Nat.le_refl _ | (simp only [addL_eq, addL_rec]; omega)), ([(502, lopF Try.f41 1 b4 .ready none 28 [(1, .ptr 0 bf 0), (2, .ptr 1 br 0)] b1), (3, lopF Try.f41 0 b2 .busy none 28 [(1, .ptr 0 bf 0), (2, .ptr 1 br 0)] b1), (dfN, .dfr [b1]), (1, .own br 4 [.bool false]), (0, .own bf 24 [i64 W, i64 H, i64 o, .sl 1000 a n c]), (1000, roN a n c nf)] ++ me'), (by refine Sel.wk ?_; (try simp only [List.cons_append, List.nil_append]); repeat' (first | exact Sel.nil | exact Sel.all | exact Sel.left | refine Sel.cons Pick.here ?_ | refine Sel.cons (Pick.there Pick.here) ?_ | refine Sel.cons (Pick.there (Pick.there Pick.here)) ?_ | refine Sel.cons (Pick.there (Pick.there (Pick.there Pick.here))) ?_ | refine Sel.cons (Pick.there (Pick.there (Pick.there (Pick.there Pick.here)))) ?_ | refine Sel.cons (Pick.there (Pick.there (Pick.there (Pick.there (Pick.there Pick.here))))) ?_ | refine Sel.cons (Pick.there (Pick.there (Pick.there (Pick.there (Pick.there (Pick.there Pick.here)))))) ?_ | refine Sel.cons (Pick.there (Pick.there (Pick.there (Pick.there (Pick.there (Pick.there (Pick.there Pick.here))))))) ?_ | refine Sel.cons (Pick.there (Pick.there (Pick.there (Pick.there (Pick.there (Pick.there (Pick.there (Pick.there Pick.here)))))))) ?_ | refine Sel.cons (Pick.there (Pick.there (Pick.there (Pick.there (Pick.there (Pick.there (Pick.there (Pick.there (Pick.there Pick.here))))))))) ?_ | refine Sel.cons (Pick.there (Pick.there (Pick.there (Pick.there (Pick.there (Pick.there (Pick.there (Pick.there (Pick.there (Pick.there Pick.here)))))))))) ?_ | refine Sel.cons (Pick.there (Pick.there (Pick.there (Pick.there (Pick.there (Pick.there (Pick.there (Pick.there (Pick.there (Pick.there (Pick.there Pick.here))))))))))) ?_ | refine Sel.consw Pick.here ⟨rfl, rfl, rfl⟩ ?_ | refine Sel.consw (Pick.there Pick.here) ⟨rfl, rfl, rfl⟩ ?_ | refine Sel.consw (Pick.there (Pick.there Pick.here)) ⟨rfl, rfl, rfl⟩ ?_ | refine Sel.consw (Pick.there (Pick.there (Pick.there Pick.here))) ⟨rfl, rfl, rfl⟩ ?_ | refine Sel.consw (Pick.there (Pick.there (Pick.there (Pick.there Pick.here)))) ⟨rfl, rfl, rfl⟩ ?_ | refine Sel.consw (Pick.there (Pick.there (Pick.there (Pick.there (Pick.there Pick.here))))) ⟨rfl, rfl, rfl⟩ ?_ | refine Sel.consw (Pick.there (Pick.there (Pick.there (Pick.there (Pick.there (Pick.there Pick.here)))))) ⟨rfl, rfl, rfl⟩ ?_ | refine Sel.consw (Pick.there (Pick.there (Pick.there (Pick.there (Pick.there (Pick.there (Pick.there Pick.here))))))) ⟨rfl, rfl, rfl⟩ ?_ | refine Sel.consw (Pick.there (Pick.there (Pick.there (Pick.there (Pick.there (Pick.there (Pick.there (Pick.there Pick.here)))))))) ⟨rfl, rfl, rfl⟩ ?_ | refine Sel.consw (Pick.there (Pick.there (Pick.there (Pick.there (Pick.there (Pick.there (Pick.there (Pick.there (Pick.there Pick.here))))))))) ⟨rfl, rfl, rfl⟩ ?_ | refine Sel.consw (Pick.there (Pick.there (Pick.there (Pick.there (Pick.there (Pick.there (Pick.there (Pick.there (Pick.there (Pick.there Pick.here)))))))))) ⟨rfl, rfl, rfl⟩ ?_ | refine Sel.consw (Pick.there (Pick.there (Pick.there (Pick.there (Pick.there (Pick.there (Pick.there (Pick.there (Pick.there (Pick.there (Pick.there Pick.here))))))))))) ⟨rfl, rfl, rfl⟩ ?_ | refine Sel.snoc Pick.here ?_ | refine Sel.snoc (Pick.there Pick.here) ?_ | refine Sel.snoc (Pick.there (Pick.there Pick.here)) ?_ | refine Sel.snoc (Pick.there (Pick.there (Pick.there Pick.here))) ?_ | refine Sel.snoc (Pick.there (Pick.there (Pick.there (Pick.there Pick.here)))) ?_ | refine Sel.snoc (Pick.there (Pick.there (Pick.there (Pick.there (Pick.there Pick.here))))) ?_ | refine Sel.snoc (Pick.there (Pick.there (Pick.there (Pick.there (Pick.there (Pick.there Pick.here)))))) ?_ | refine Sel.snoc (Pick.there (Pick.there (Pick.there (Pick.there (Pick.there (Pick.there (Pick.there Pick.here))))))) ?_ | refine Sel.snoc (Pick.there (Pick.there (Pick.there (Pick.there (Pick.there (Pick.there (Pick.there (Pick.there Pick.here)))))))) ?_ | refine Sel.snoc (Pick.there (Pick.there (Pick.there (Pick.there (Pick.there (Pick.there (Pick.there (Pick.there (Pick.there Pick.here))))))))) ?_ | refine Sel.snoc (Pick.there (Pick.there (Pick.there (Pick.there (Pick.there (Pick.there (Pick.there (Pick.there (Pick.there (Pick.there Pick.here)))))))))) ?_ | refine Sel.snoc (Pick.there (Pick.there (Pick.there (Pick.there (Pick.there (Pick.there (Pick.there (Pick.there (Pick.there (Pick.there (Pick.there Pick.here))))))))))) ?_ | refine Sel.drop ?_)), .inl ⟨rfl, rfl, hnext hb⟩⟩
      | false =>
        rw [hb] at hX
        repeat' ((conv => whnf); first
                 | refine eqS_rfl ?_
                 | refine eqA_rfl ?_
                 | refine eqA_of (by assumption) ?_
                 | refine eqS_of (by rfl) ?_
                 | refine eqL_rfl ?_
                 | refine eqJ_rfl ?_
                 | refine flE_intro (fun _ _ => rfl) ?_
                 | refine seS_rfl ?_
                 | refine brS_tt ?_
                 | refine brS_ff ?_
                 | refine brS_not ?_
                 | refine brS_t (iEq_self _) ?_
                 | refine brS_t (by assumption) ?_
                 | refine brS_f (by assumption) ?_
                 | refine brS_intro (fun _ => ?_) (fun _ => ?_)
                 | refine ltS_intro (by first | assumption | decide | exact Nat.le_of_ble_eq_true rfl | omega) ?_
                 | refine ixS_of rfl (by first | assumption | decide | omega) ?_
                 | refine okS_intro (by first | assumption | kernel_rfl) ?_
                 | refine nzS_intro (by first | decide | assumption) ?_
                 | refine call_read (c56 F d W (bpx (0 + k % (W - 1)) 1 1 j) (bpy (0 + k / (W - 1)) 1 1 j) (bpx (0 + k % (W - 1)) 1 1 (j + 1)) (bpy (0 + k / (W - 1)) 1 1 (j + 1)) H o a n c nf hD (by omega) (by omega) (by omega) (by rw [hn]; exact idx_lt (by omega) (by omega)) (by omega) (by omega) (by rw [hn]; exact idx_lt (by omega) (by omega))) (by rfl) (by exact SeesM.cons 1000 (sees_ro (i := 1000) (by rfl)) (SeesM.nil _) (fun _ _ _ _ _ _ x hx => by cases hx)) ?_
                 | intro _)
        conv => whnf
        exact ⟨by (first | exact Nat.le_refl _ | (simp only [addL_eq, addL_rec]; omega)), ([(502, lopF Try.f41 1 b4 .done (some .ret) 28 [(1, .ptr 0 bf 0), (2, .ptr 1 br 0)] b1), (3, lopF Try.f41 0 b2 .busy none 28 [(1, .ptr 0 bf 0), (2, .ptr 1 br 0)] b1), (dfN, .dfr [b1]), (1, .own br 4 [.bool false]), (0, .own bf 24 [i64 W, i64 H, i64 o, .sl 1000 a n c]), (1000, roN a n c nf)] ++ me'), (by refine Sel.wk ?_; (try simp only [List.cons_append, List.nil_append]); repeat' (first | exact Sel.nil | exact Sel.all | exact Sel.left | refine Sel.cons Pick.here ?_ | refine Sel.cons (Pick.there Pick.here) ?_ | refine Sel.cons (Pick.there (Pick.there Pick.here)) ?_ | refine Sel.cons (Pick.there (Pick.there (Pick.there Pick.here))) ?_ | refine Sel.cons (Pick.there (Pick.there (Pick.there (Pick.there Pick.here)))) ?_ | refine Sel.cons (Pick.there (Pick.there (Pick.there (Pick.there (Pick.there Pick.here))))) ?_ | refine Sel.cons (Pick.there (Pick.there (Pick.there (Pick.there (Pick.there (Pick.there Pick.here)))))) ?_ | refine Sel.cons (Pick.there (Pick.there (Pick.there (Pick.there (Pick.there (Pick.there (Pick.there Pick.here))))))) ?_ | refine Sel.cons (Pick.there (Pick.there (Pick.there (Pick.there (Pick.there (Pick.there (Pick.there (Pick.there Pick.here)))))))) ?_ | refine Sel.cons (Pick.there (Pick.there (Pick.there (Pick.there (Pick.there (Pick.there (Pick.there (Pick.there (Pick.there Pick.here))))))))) ?_ | refine Sel.cons (Pick.there (Pick.there (Pick.there (Pick.there (Pick.there (Pick.there (Pick.there (Pick.there (Pick.there (Pick.there Pick.here)))))))))) ?_ | refine Sel.cons (Pick.there (Pick.there (Pick.there (Pick.there (Pick.there (Pick.there (Pick.there (Pick.there (Pick.there (Pick.there (Pick.there Pick.here))))))))))) ?_ | refine Sel.consw Pick.here ⟨rfl, rfl, rfl⟩ ?_ | refine Sel.consw (Pick.there Pick.here) ⟨rfl, rfl, rfl⟩ ?_ | refine Sel.consw (Pick.there (Pick.there Pick.here)) ⟨rfl, rfl, rfl⟩ ?_ | refine Sel.consw (Pick.there (Pick.there (Pick.there Pick.here))) ⟨rfl, rfl, rfl⟩ ?_ | refine Sel.consw (Pick.there (Pick.there (Pick.there (Pick.there Pick.here)))) ⟨rfl, rfl, rfl⟩ ?_ | refine Sel.consw (Pick.there (Pick.there (Pick.there (Pick.there (Pick.there Pick.here))))) ⟨rfl, rfl, rfl⟩ ?_ | refine Sel.consw (Pick.there (Pick.there (Pick.there (Pick.there (Pick.there (Pick.there Pick.here)))))) ⟨rfl, rfl, rfl⟩ ?_ | refine Sel.consw (Pick.there (Pick.there (Pick.there (Pick.there (Pick.there (Pick.there (Pick.there Pick.here))))))) ⟨rfl, rfl, rfl⟩ ?_ | refine Sel.consw (Pick.there (Pick.there (Pick.there (Pick.there (Pick.there (Pick.there (Pick.there (Pick.there Pick.here)))))))) ⟨rfl, rfl, rfl⟩ ?_ | refine Sel.consw (Pick.there (Pick.there (Pick.there (Pick.there (Pick.there (Pick.there (Pick.there (Pick.there (Pick.there Pick.here))))))))) ⟨rfl, rfl, rfl⟩ ?_ | refine Sel.consw (Pick.there (Pick.there (Pick.there (Pick.there (Pick.there (Pick.there (Pick.there (Pick.there (Pick.there (Pick.there Pick.here)))))))))) ⟨rfl, rfl, rfl⟩ ?_ | refine Sel.consw (Pick.there (Pick.there (Pick.there (Pick.there (Pick.there (Pick.there (Pick.there (Pick.there (Pick.there (Pick.there (Pick.there Pick.here))))))))))) ⟨rfl, rfl, rfl⟩ ?_ | refine Sel.snoc Pick.here ?_ | refine Sel.snoc (Pick.there Pick.here) ?_ | refine Sel.snoc (Pick.there (Pick.there Pick.here)) ?_ | refine Sel.snoc (Pick.there (Pick.there (Pick.there Pick.here))) ?_ | refine Sel.snoc (Pick.there (Pick.there (Pick.there (Pick.there Pick.here)))) ?_ | refine Sel.snoc (Pick.there (Pick.there (Pick.there (Pick.there (Pick.there Pick.here))))) ?_ | refine Sel.snoc (Pick.there (Pick.there (Pick.there (Pick.there (Pick.there (Pick.there Pick.here)))))) ?_ | refine Sel.snoc (Pick.there (Pick.there (Pick.there (Pick.there (Pick.there (Pick.there (Pick.there Pick.here))))))) ?_ | refine Sel.snoc (Pick.there (Pick.there (Pick.there (Pick.there (Pick.there (Pick.there (Pick.there (Pick.there Pick.here)))))))) ?_ | refine Sel.snoc (Pick.there (Pick.there (Pick.there (Pick.there (Pick.there (Pick.there (Pick.there (Pick.there (Pick.there Pick.here))))))))) ?_ | refine Sel.snoc (Pick.there (Pick.there (Pick.there (Pick.there (Pick.there (Pick.there (Pick.there (Pick.there (Pick.there (Pick.there Pick.here)))))))))) ?_ | refine Sel.snoc (Pick.there (Pick.there (Pick.there (Pick.there (Pick.there (Pick.there (Pick.there (Pick.there (Pick.there (Pick.there (Pick.there Pick.here))))))))))) ?_ | refine Sel.drop ?_)), .inr ⟨rfl, rfl, j, hj, hb⟩⟩
    · rintro _ _ (⟨rfl, h⟩ | ⟨rfl, j, hj, h⟩)
      · conv => whnf
        refine eqS_rfl ?_
        conv => whnf
        refine eqS_rfl ?_
        conv => whnf
        refine ⟨by (first | exact Nat.le_refl _ | (simp only [addL_eq, addL_rec]; omega)), [(3, lopF Try.f41 0 b2 .ready none 28 [(1, .ptr 0 bf 0), (2, .ptr 1 br 0)] b1), (dfN, .dfr [b1]), (1, .own br 4 [.bool false]), (0, .own bf 24 [i64 W, i64 H, i64 o, .sl 1000 a n c]), (1000, roN a n c nf)], (by refine Sel.wk ?_; (try simp only [List.cons_append, List.nil_append]); repeat' (first | exact Sel.nil | exact Sel.all | exact Sel.left | refine Sel.cons Pick.here ?_ | refine Sel.cons (Pick.there Pick.here) ?_ | refine Sel.cons (Pick.there (Pick.there Pick.here)) ?_ | refine Sel.cons (Pick.there (Pick.there (Pick.there Pick.here))) ?_ | refine Sel.cons (Pick.there (Pick.there (Pick.there (Pick.there Pick.here)))) ?_ | refine Sel.cons (Pick.there (Pick.there (Pick.there (Pick.there (Pick.there Pick.here))))) ?_ | refine Sel.cons (Pick.there (Pick.there (Pick.there (Pick.there (Pick.there (Pick.there Pick.here)))))) ?_ | refine Sel.cons (Pick.there (Pick.there (Pick.there (Pick.there (Pick.there (Pick.there (Pick.there Pick.here))))))) ?_ | refine Sel.cons (Pick.there (Pick.there (Pick.there (Pick.there (Pick.there (Pick.there (Pick.there (Pick.there Pick.here)))))))) ?_ | refine Sel.cons (Pick.there (Pick.there (Pick.there (Pick.there (Pick.there (Pick.there (Pick.there (Pick.there (Pick.there Pick.here))))))))) ?_ | refine Sel.cons (Pick.there (Pick.there (Pick.there (Pick.there (Pick.there (Pick.there (Pick.there (Pick.there (Pick.there (Pick.there Pick.here)))))))))) ?_ | refine Sel.cons (Pick.there (Pick.there (Pick.there (Pick.there (Pick.there (Pick.there (Pick.there (Pick.there (Pick.there (Pick.there (Pick.there Pick.here))))))))))) ?_ | refine Sel.consw Pick.here ⟨rfl, rfl, rfl⟩ ?_ | refine Sel.consw (Pick.there Pick.here) ⟨rfl, rfl, rfl⟩ ?_ | refine Sel.consw (Pick.there (Pick.there Pick.here)) ⟨rfl, rfl, rfl⟩ ?_ | refine Sel.consw (Pick.there (Pick.there (Pick.there Pick.here))) ⟨rfl, rfl, rfl⟩ ?_ | refine Sel.consw (Pick.there (Pick.there (Pick.there (Pick.there Pick.here)))) ⟨rfl, rfl, rfl⟩ ?_ | refine Sel.consw (Pick.there (Pick.there (Pick.there (Pick.there (Pick.there Pick.here))))) ⟨rfl, rfl, rfl⟩ ?_ | refine Sel.consw (Pick.there (Pick.there (Pick.there (Pick.there (Pick.there (Pick.there Pick.here)))))) ⟨rfl, rfl, rfl⟩ ?_ | refine Sel.consw (Pick.there (Pick.there (Pick.there (Pick.there (Pick.there (Pick.there (Pick.there Pick.here))))))) ⟨rfl, rfl, rfl⟩ ?_ | refine Sel.consw (Pick.there (Pick.there (Pick.there (Pick.there (Pick.there (Pick.there (Pick.there (Pick.there Pick.here)))))))) ⟨rfl, rfl, rfl⟩ ?_ | refine Sel.consw (Pick.there (Pick.there (Pick.there (Pick.there (Pick.there (Pick.there (Pick.there (Pick.there (Pick.there Pick.here))))))))) ⟨rfl, rfl, rfl⟩ ?_ | refine Sel.consw (Pick.there (Pick.there (Pick.there (Pick.there (Pick.there (Pick.there (Pick.there (Pick.there (Pick.there (Pick.there Pick.here)))))))))) ⟨rfl, rfl, rfl⟩ ?_ | refine Sel.consw (Pick.there (Pick.there (Pick.there (Pick.there (Pick.there (Pick.there (Pick.there (Pick.there (Pick.there (Pick.there (Pick.there Pick.here))))))))))) ⟨rfl, rfl, rfl⟩ ?_ | refine Sel.snoc Pick.here ?_ | refine Sel.snoc (Pick.there Pick.here) ?_ | refine Sel.snoc (Pick.there (Pick.there Pick.here)) ?_ | refine Sel.snoc (Pick.there (Pick.there (Pick.there Pick.here))) ?_ | refine Sel.snoc (Pick.there (Pick.there (Pick.there (Pick.there Pick.here)))) ?_ | refine Sel.snoc (Pick.there (Pick.there (Pick.there (Pick.there (Pick.there Pick.here))))) ?_ | refine Sel.snoc (Pick.there (Pick.there (Pick.there (Pick.there (Pick.there (Pick.there Pick.here)))))) ?_ | refine Sel.snoc (Pick.there (Pick.there (Pick.there (Pick.there (Pick.there (Pick.there (Pick.there Pick.here))))))) ?_ | refine Sel.snoc (Pick.there (Pick.there (Pick.there (Pick.there (Pick.there (Pick.there (Pick.there (Pick.there Pick.here)))))))) ?_ | refine Sel.snoc (Pick.there (Pick.there (Pick.there (Pick.there (Pick.there (Pick.there (Pick.there (Pick.there (Pick.there Pick.here))))))))) ?_ | refine Sel.snoc (Pick.there (Pick.there (Pick.there (Pick.there (Pick.there (Pick.there (Pick.there (Pick.there (Pick.there (Pick.there Pick.here)))))))))) ?_ | refine Sel.snoc (Pick.there (Pick.there (Pick.there (Pick.there (Pick.there (Pick.there (Pick.there (Pick.there (Pick.there (Pick.there (Pick.there Pick.here))))))))))) ?_ | refine Sel.drop ?_)), .inl ⟨rfl, rfl, fun q hq => ?_⟩⟩
        by_cases e : q = k
        · rw [e]; exact h
        · exact hok q (by omega)
      · conv => whnf
        refine eqS_rfl ?_
        conv => whnf
        refine eqS_rfl ?_
        conv => whnf
        exact ⟨by (first | exact Nat.le_refl _ | (simp only [addL_eq, addL_rec]; omega)), [(3, lopF Try.f41 0 b2 .done (some .ret) 28 [(1, .ptr 0 bf 0), (2, .ptr 1 br 0)] b1), (dfN, .dfr [b1]), (1, .own br 4 [.bool false]), (0, .own bf 24 [i64 W, i64 H, i64 o, .sl 1000 a n c]), (1000, roN a n c nf)], (by refine Sel.wk ?_; (try simp only [List.cons_append, List.nil_append]); repeat' (first | exact Sel.nil | exact Sel.all | exact Sel.left | refine Sel.cons Pick.here ?_ | refine Sel.cons (Pick.there Pick.here) ?_ | refine Sel.cons (Pick.there (Pick.there Pick.here)) ?_ | refine Sel.cons (Pick.there (Pick.there (Pick.there Pick.here))) ?_ | refine Sel.cons (Pick.there (Pick.there (Pick.there (Pick.there Pick.here)))) ?_ | refine Sel.cons (Pick.there (Pick.there (Pick.there (Pick.there (Pick.there Pick.here))))) ?_ | refine Sel.cons (Pick.there (Pick.there (Pick.there (Pick.there (Pick.there (Pick.there Pick.here)))))) ?_ | refine Sel.cons (Pick.there (Pick.there (Pick.there (Pick.there (Pick.there (Pick.there (Pick.there Pick.here))))))) ?_ | refine Sel.cons (Pick.there (Pick.there (Pick.there (Pick.there (Pick.there (Pick.there (Pick.there (Pick.there Pick.here)))))))) ?_ | refine Sel.cons (Pick.there (Pick.there (Pick.there (Pick.there (Pick.there (Pick.there (Pick.there (Pick.there (Pick.there Pick.here))))))))) ?_ | refine Sel.cons (Pick.there (Pick.there (Pick.there (Pick.there (Pick.there (Pick.there (Pick.there (Pick.there (Pick.there (Pick.there Pick.here)))))))))) ?_ | refine Sel.cons (Pick.there (Pick.there (Pick.there (Pick.there (Pick.there (Pick.there (Pick.there (Pick.there (Pick.there (Pick.there (Pick.there Pick.here))))))))))) ?_ | refine Sel.consw Pick.here ⟨rfl, rfl, rfl⟩ ?_ | refine Sel.consw (Pick.there Pick.here) ⟨rfl, rfl, rfl⟩ ?_ | refine Sel.consw (Pick.there (Pick.there Pick.here)) ⟨rfl, rfl, rfl⟩ ?_ | refine Sel.consw (Pick.there (Pick.there (Pick.there Pick.here))) ⟨rfl, rfl, rfl⟩ ?_ | refine Sel.consw (Pick.there (Pick.there (Pick.there (Pick.there Pick.here)))) ⟨rfl, rfl, rfl⟩ ?_ | refine Sel.consw (Pick.there (Pick.there (Pick.there (Pick.there (Pick.there Pick.here))))) ⟨rfl, rfl, rfl⟩ ?_ | refine Sel.consw (Pick.there (Pick.there (Pick.there (Pick.there (Pick.there (Pick.there Pick.here)))))) ⟨rfl, rfl, rfl⟩ ?_ | refine Sel.consw (Pick.there (Pick.there (Pick.there (Pick.there (Pick.there (Pick.there (Pick.there Pick.here))))))) ⟨rfl, rfl, rfl⟩ ?_ | refine Sel.consw (Pick.there (Pick.there (Pick.there (Pick.there (Pick.there (Pick.there (Pick.there (Pick.there Pick.here)))))))) ⟨rfl, rfl, rfl⟩ ?_ | refine Sel.consw (Pick.there (Pick.there (Pick.there (Pick.there (Pick.there (Pick.there (Pick.there (Pick.there (Pick.there Pick.here))))))))) ⟨rfl, rfl, rfl⟩ ?_ | refine Sel.consw (Pick.there (Pick.there (Pick.there (Pick.there (Pick.there (Pick.there (Pick.there (Pick.there (Pick.there (Pick.there Pick.here)))))))))) ⟨rfl, rfl, rfl⟩ ?_ | refine Sel.consw (Pick.there (Pick.there (Pick.there (Pick.there (Pick.there (Pick.there (Pick.there (Pick.there (Pick.there (Pick.there (Pick.there Pick.here))))))))))) ⟨rfl, rfl, rfl⟩ ?_ | refine Sel.snoc Pick.here ?_ | refine Sel.snoc (Pick.there Pick.here) ?_ | refine Sel.snoc (Pick.there (Pick.there Pick.here)) ?_ | refine Sel.snoc (Pick.there (Pick.there (Pick.there Pick.here))) ?_ | refine Sel.snoc (Pick.there (Pick.there (Pick.there (Pick.there Pick.here)))) ?_ | refine Sel.snoc (Pick.there (Pick.there (Pick.there (Pick.there (Pick.there Pick.here))))) ?_ | refine Sel.snoc (Pick.there (Pick.there (Pick.there (Pick.there (Pick.there (Pick.there Pick.here)))))) ?_ | refine Sel.snoc (Pick.there (Pick.there (Pick.there (Pick.there (Pick.there (Pick.there (Pick.there Pick.here))))))) ?_ | refine Sel.snoc (Pick.there (Pick.there (Pick.there (Pick.there (Pick.there (Pick.there (Pick.there (Pick.there Pick.here)))))))) ?_ | refine Sel.snoc (Pick.there (Pick.there (Pick.there (Pick.there (Pick.there (Pick.there (Pick.there (Pick.there (Pick.there Pick.here))))))))) ?_ | refine Sel.snoc (Pick.there (Pick.there (Pick.there (Pick.there (Pick.there (Pick.there (Pick.there (Pick.there (Pick.there (Pick.there Pick.here)))))))))) ?_ | refine Sel.snoc (Pick.there (Pick.there (Pick.there (Pick.there (Pick.there (Pick.there (Pick.there (Pick.there (Pick.there (Pick.there (Pick.there Pick.here))))))))))) ?_ | refine Sel.drop ?_)), .inr ⟨rfl, rfl, k, hk, j, hj, h⟩⟩
  · rintro _ _ (⟨rfl, h⟩ | ⟨rfl, k, hk, j, hj, h⟩)
    · repeat' ((conv => whnf); first
               | refine eqS_rfl ?_
               | refine eqA_rfl ?_
               | refine eqA_of (by assumption) ?_
               | refine eqS_of (by rfl) ?_
               | refine eqL_rfl ?_
               | refine eqJ_rfl ?_
               | refine flE_intro (fun _ _ => rfl) ?_
               | refine seS_rfl ?_
               | refine brS_tt ?_
               | refine brS_ff ?_
               | refine brS_not ?_
               | refine brS_t (iEq_self _) ?_
               | refine brS_t (by assumption) ?_
               | refine brS_f (by assumption) ?_
               | refine brS_intro (fun _ => ?_) (fun _ => ?_)
               | refine ltS_intro (by first | assumption | decide | exact Nat.le_of_ble_eq_true rfl | omega) ?_
               | refine ixS_of rfl (by first | assumption | decide | omega) ?_
               | refine okS_intro (by first | assumption | kernel_rfl) ?_
               | refine nzS_intro (by first | decide | assumption) ?_
               | intro _)
      conv => whnf
      exact ⟨congrArg Value.bool (all_t fun k hk => all_t fun j hj => h k hk j hj).symm, by (first | exact Nat.le_refl _ | (simp only [addL_eq, addL_rec]; omega))⟩
    · repeat' ((conv => whnf); first
               | refine eqS_rfl ?_
               | refine eqA_rfl ?_
               | refine eqA_of (by assumption) ?_
               | refine eqS_of (by rfl) ?_
               | refine eqL_rfl ?_
               | refine eqJ_rfl ?_
               | refine flE_intro (fun _ _ => rfl) ?_
               | refine seS_rfl ?_
               | refine brS_tt ?_
               | refine brS_ff ?_
               | refine brS_not ?_
               | refine brS_t (iEq_self _) ?_
               | refine brS_t (by assumption) ?_
               | refine brS_f (by assumption) ?_
               | refine brS_intro (fun _ => ?_) (fun _ => ?_)
               | refine ltS_intro (by first | assumption | decide | exact Nat.le_of_ble_eq_true rfl | omega) ?_
               | refine ixS_of rfl (by first | assumption | decide | omega) ?_
               | refine okS_intro (by first | assumption | kernel_rfl) ?_
               | refine nzS_intro (by first | decide | assumption) ?_
               | intro _)
      conv => whnf
      exact ⟨congrArg Value.bool (all_f hk (all_f hj h)).symm, by (first | exact Nat.le_refl _ | (simp only [addL_eq, addL_rec]; omega))⟩
end Go.Proofs.Ytbpdmbgkoijfbaa
