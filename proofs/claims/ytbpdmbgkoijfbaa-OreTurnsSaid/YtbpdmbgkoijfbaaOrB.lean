/- Ore: needles, borders. -/
import Derived.Test.YtbpdmbgkoijfbaaOrA
import Derived.KernelRfl
namespace Go.Proofs.Ytbpdmbgkoijfbaa
open Go.Ab
attribute [local irreducible] aggOk drwOK
set_option maxRecDepth 100000
set_option maxHeartbeats 4000000
/-- needles in memory -/
abbrev roN (a : Option Addr) (n c : Nat) (nf : Nat → Int) : Ent := .ro a n c 1 fun j => [i64 (nf j)]
abbrev fld (w h o : Int) (a : Option Addr) (n c : Nat) : SV := .agg [i64 w, i64 h, i64 o, .sl 1000 a n c]
theorem cg2 {α β γ : Type} (f : α → β → γ) {a a2 : α} {b b2 : β} (h : a = a2) (k : b = b2) : f a b = f a2 b2 := by rw [h, k]
theorem at_eq {w x y : Nat} (hw : w ≤ 100) (hx : x ≤ 100) (hy : y ≤ 100) : wr .i64 (Int.add (wr .i64 (Int.mul (Int.ofNat y) (Int.ofNat w))) (Int.ofNat x)) = Int.ofNat (y * w + x) := by
  have h1 : y * w ≤ 100 * 100 := Nat.mul_le_mul hy hw
  have e1 : wr .i64 (Int.mul (Int.ofNat y) (Int.ofNat w)) = Int.ofNat (y * w) := wr_nat (i := y * w) (by omega)
  rw [e1]
  exact wr_nat (i := y * w + x) (by omega)
theorem c62 (F d : Nat) (w x y : Nat) (h o : Int) (a : Option Addr) (n c : Nat) (nf : Nat → Int) (hw : w ≤ 100) (hx : x ≤ 100) (hy : y ≤ 100) (hq : y * w + x < n) : ReadC (CL F (d + 1)) 62 [fld w h o a n c, pt x y] [(1000, roN a n c nf)] 2 (i64 (nf (y * w + x))) := by
  intro R
  refine call_in (n := 17) Try.func62 rfl rfl rfl rfl rfl rfl rfl ?_
  repeat' ((conv => whnf); first
           | refine eqS_rfl ?_
           | refine eqA_rfl ?_
           | refine eqA_of (by assumption) ?_
           | refine eqS_of (by rfl) ?_
           | refine eqL_rfl ?_
           | refine eqJ_rfl ?_
           | refine flE_intro (fun _ _ => rfl) ?_
           | refine seS_rfl ?_
           | refine brS_tt ?_
           | refine brS_ff ?_
           | refine brS_not ?_
           | refine brS_t (iEq_self _) ?_
           | refine brS_t (by assumption) ?_
           | refine brS_f (by assumption) ?_
           | refine brS_intro (fun _ => ?_) (fun _ => ?_)
           | refine ltS_intro (by first | assumption | decide | exact Nat.le_of_ble_eq_true rfl | omega) ?_
           | refine ixS_of rfl (by first | assumption | decide | omega) ?_
           | refine okS_intro (by first | assumption | kernel_rfl) ?_
           | refine nzS_intro (by first | decide | assumption) ?_
           | refine ixS_of (at_eq hw hx hy) hq ?_
           | intro _)
  conv => whnf
  exact ⟨rfl, by (first | exact Nat.le_refl _ | (simp only [addL_eq, addL_rec]; omega))⟩
theorem c56 (F d : Nat) (w x y u v : Nat) (h o : Int) (a : Option Addr) (n c : Nat) (nf : Nat → Int) (hD : ∀ j, Dir (nf j)) (hw : w ≤ 100) (hx : x ≤ 100) (hy : y ≤ 100) (hq : y * w + x < n) (hu : u ≤ 100) (hv : v ≤ 100) (hr : v * w + u < n) : ReadC (CL F (d + 2)) 56 [fld w h o a n c, pt x y, pt u v] [(1000, roN a n c nf)] 30 (i64 (T (nf (y * w + x)) (nf (v * w + u)))) := by
  intro R
  refine call_in (n := 14) Try.func56 rfl rfl rfl rfl rfl rfl rfl ?_
  repeat' ((conv => whnf); first
           | refine eqS_rfl ?_
           | refine eqA_rfl ?_
           | refine eqA_of (by assumption) ?_
           | refine eqS_of (by rfl) ?_
           | refine eqL_rfl ?_
           | refine eqJ_rfl ?_
           | refine flE_intro (fun _ _ => rfl) ?_
           | refine seS_rfl ?_
           | refine brS_tt ?_
           | refine brS_ff ?_
           | refine brS_not ?_
           | refine brS_t (iEq_self _) ?_
           | refine brS_t (by assumption) ?_
           | refine brS_f (by assumption) ?_
           | refine brS_intro (fun _ => ?_) (fun _ => ?_)
           | refine ltS_intro (by first | assumption | decide | exact Nat.le_of_ble_eq_true rfl | omega) ?_
           | refine ixS_of rfl (by first | assumption | decide | omega) ?_
           | refine okS_intro (by first | assumption | kernel_rfl) ?_
           | refine nzS_intro (by first | decide | assumption) ?_
           | refine call_read (c62 F d w x y h o a n c nf hw hx hy hq) (by rfl) (by exact SeesM.cons 1000 (sees_ro (i := 1000) (by rfl)) (SeesM.nil _) (fun _ _ _ _ _ _ x hx => by cases hx)) ?_
           | refine call_read (c62 F d w u v h o a n c nf hw hu hv hr) (by rfl) (by exact SeesM.cons 1000 (sees_ro (i := 1000) (by rfl)) (SeesM.nil _) (fun _ _ _ _ _ _ x hx => by cases hx)) ?_
           | refine call_pure (c37 F _ _ _ (hD _) (hD _)) ?_
           | intro _)
  conv => whnf
  exact ⟨rfl, by (first | exact Nat.le_refl _ | (simp only [addL_eq, addL_rec]; omega))⟩
theorem c60 (F d c : Nat) (hF : 100 < F) (bb : Nat) (x y w h : Nat) (hw : x + w ≤ 10) (hh : y + h ≤ 10) : IterC (CL F (d + 1)) (CL F (d + 2)) (.fn 60 [] [.ptr 900 bb 0]) [(900, .own bb 35 [i64 x, i64 y, i64 w, i64 h])] ((2 * w + 2 * h) * (c + 50) + 400) c (2 * w + 2 * h) (fun k => [pt (bpx x w h k) (bpy y w h k), pt (bpx x w h (k + 1)) (bpy y w h (k + 1))]) := by
  intro i b I Q hr m hI R
  refine call_in (n := 52) Try.func60 rfl rfl rfl rfl rfl rfl rfl ?_

  rw [show (2 * w + 2 * h) * (c + 50) + 400 = ((2 * w + 2 * h) * (c + 50) + 300) + 100 by omega, addL_eq, ← Nat.add_assoc, ← addL_eq _ 100]
  repeat' ((conv => whnf); first
           | refine eqS_rfl ?_
           | refine eqA_rfl ?_
           | refine eqA_of (by assumption) ?_
           | refine eqS_of (by rfl) ?_
           | refine eqL_rfl ?_
           | refine eqJ_rfl ?_
           | refine flE_intro (fun _ _ => rfl) ?_
           | refine seS_rfl ?_
           | refine brS_tt ?_
           | refine brS_ff ?_
           | refine brS_not ?_
           | refine brS_t (iEq_self _) ?_
           | refine brS_t (by assumption) ?_
           | refine brS_f (by assumption) ?_
           | refine brS_intro (fun _ => ?_) (fun _ => ?_)
           | refine ltS_intro (by first | assumption | decide | exact Nat.le_of_ble_eq_true rfl | omega) ?_
           | refine ixS_of rfl (by first | assumption | decide | omega) ?_
           | refine okS_intro (by first | assumption | kernel_rfl) ?_
           | refine nzS_intro (by first | decide | assumption) ?_
           | intro _)
  conv => whnf
  refine loS_u 5 (by omega) ?_
  repeat' ((conv => whnf); first
           | refine eqS_rfl ?_
           | refine eqA_rfl ?_
           | refine eqA_of (by assumption) ?_
           | refine eqS_of (by rfl) ?_
           | refine eqL_rfl ?_
           | refine eqJ_rfl ?_
           | refine flE_intro (fun _ _ => rfl) ?_
           | refine seS_rfl ?_
           | refine brS_tt ?_
           | refine brS_ff ?_
           | refine brS_not ?_
           | refine brS_t (iEq_self _) ?_
           | refine brS_t (by assumption) ?_
           | refine brS_f (by assumption) ?_
           | refine brS_intro (fun _ => ?_) (fun _ => ?_)
           | refine ltS_intro (by first | assumption | decide | exact Nat.le_of_ble_eq_true rfl | omega) ?_
           | refine ixS_of rfl (by first | assumption | decide | omega) ?_
           | refine okS_intro (by first | assumption | kernel_rfl) ?_
           | refine nzS_intro (by first | decide | assumption) ?_
           | refine call_in (n := 12) Try.func61 rfl rfl rfl rfl rfl rfl rfl ?_
           | intro _)
  rename_i b3 _ _ _ _ b9 _ _
  conv => whnf
  refine loS_i (fun jj f mm R' ni => ∃ (j : Nat) (m1 : Mem), j ≤ w ∧ jj = w - j + 1 ∧ f = [(0, .yf i b), (1, .ptr 900 bb 0), (3, .ptr 500 b3 0), (9, .ptr 505 b9 0), (24, .agg [i64 1, i64 0, i64 0, i64 1, i64 (-1), i64 0, i64 0, i64 (-1)]), (25, i64 0), (30, i64 w), (31, .int .i64 (Int.ofNat j))] ∧ mm = [(505, .own b9 102 [i64 1, i64 0]), (500, .own b3 102 [i64 (bpx x w h (0 + j)), i64 (bpy y w h (0 + j))]), (900, .own bb 35 [i64 x, i64 y, i64 w, i64 h])] ++ m1 ∧ I (0 + j) m1 ∧ R' = addL (R + (c + 50) * (2 * w + 2 * h - (0 + j)) + 50 * (4 - 0)) 50 ∧ ni = 600) (w + 1) (by omega)
    ⟨[(0, .yf i b), (1, .ptr 900 bb 0), (3, .ptr 500 b3 0), (9, .ptr 505 b9 0), (24, .agg [i64 1, i64 0, i64 0, i64 1, i64 (-1), i64 0, i64 0, i64 (-1)]), (25, i64 0), (30, i64 w), (31, .int .i64 (Int.ofNat 0))], [(505, .own b9 102 [i64 1, i64 0]), (500, .own b3 102 [i64 (bpx x w h (0 + 0)), i64 (bpy y w h (0 + 0))]), (900, .own bb 35 [i64 x, i64 y, i64 w, i64 h])] ++ m, addL (R + (c + 50) * (2 * w + 2 * h - (0 + 0)) + 50 * (4 - 0)) 50, 600, ?_, ?_, ?_, 0, m, by omega, by omega, rfl, rfl, hI, rfl, rfl⟩ ?_
  · exact ⟨eqF_rfl _, eqF_rfl _, eqF_rfl _, eqF_rfl _, eqF_rfl _, eqF_rfl _, eqF_rfl _, eqF_rfl _, trivial⟩
  · have e0 : bpx x w h (0 + 0) = x ∧ bpy y w h (0 + 0) = y := by unfold bpx bpy; (repeat' split) <;> omega
    rw [e0.1, e0.2]
    exact by (first | exact WkM.refl _ | (refine WkM.sub ?_; repeat' (first | exact List.Sublist.refl _ | refine List.Sublist.cons_cons _ ?_ | refine List.Sublist.cons _ ?_)))
  · have : (c + 50) * (2 * w + 2 * h - (0 + 0)) = (2 * w + 2 * h) * (c + 50) := Nat.mul_comm _ _
    (first | exact Nat.le_refl _ | (simp only [addL_eq, addL_rec]; omega))
  · rintro _ _ _ _ _ ⟨j, m1, hj, rfl, rfl, rfl, hI, rfl, rfl⟩
    have hy2 : j < w → (c + 50) * (2 * w + 2 * h - (0 + j)) = (c + 50) * (2 * w + 2 * h - (0 + (j + 1))) + (c + 50) := fun hlt => by rw [← Nat.mul_succ]; congr 1; omega
    have ex : j < w → wr .i64 (Int.add (bpx x w h (0 + j) : Nat) 1) = ((bpx x w h (0 + (j + 1)) : Nat) : Int) := fun hlt => (sm (n := ((bpx x w h (0 + j) : Nat) : Int) + 1) (by unfold bpx; (repeat' split) <;> omega)).trans (by unfold bpx; (repeat' split) <;> omega)
    have ey : j < w → wr .i64 (Int.add (bpy y w h (0 + j) : Nat) 0) = ((bpy y w h (0 + (j + 1)) : Nat) : Int) := fun hlt => (sm (n := ((bpy y w h (0 + j) : Nat) : Int) + 0) (by unfold bpy; (repeat' split) <;> omega)).trans (by unfold bpy; (repeat' split) <;> omega)
    repeat' ((conv => whnf); first
             | refine eqS_rfl ?_
             | refine eqA_rfl ?_
             | refine eqA_of (by assumption) ?_
             | refine eqS_of (by rfl) ?_
             | refine eqL_rfl ?_
             | refine eqJ_rfl ?_
             | refine flE_intro (fun _ _ => rfl) ?_
             | refine seS_rfl ?_
             | refine brS_tt ?_
             | refine brS_ff ?_
             | refine brS_not ?_
             | refine brS_t (iEq_self _) ?_
             | refine brS_t (by assumption) ?_
             | refine brS_f (by assumption) ?_
             | refine brS_intro (fun _ => ?_) (fun _ => ?_)
             | refine ltS_intro (by first | assumption | decide | exact Nat.le_of_ble_eq_true rfl | omega) ?_
             | refine ixS_of rfl (by first | assumption | decide | omega) ?_
             | refine okS_intro (by first | assumption | kernel_rfl) ?_
             | refine nzS_intro (by first | decide | assumption) ?_
             | intro _)
    rotate_left
    · have hge := ge_of_iLt ‹iLt (Int.ofNat j) (Int.ofNat w) = false›
      have hj : j = w := by omega
      have ho : 0 + j = w + 0 := by omega
      have hb : (c + 50) * (2 * w + 2 * h - (0 + j)) = (c + 50) * (2 * w + 2 * h - (w + 0)) := congrArg (fun z => (c + 50) * (2 * w + 2 * h - z)) ho
      rw [ho] at hI
      repeat' ((conv => whnf); first
               | refine eqS_rfl ?_
               | refine eqA_rfl ?_
               | refine eqA_of (by assumption) ?_
               | refine eqS_of (by rfl) ?_
               | refine eqL_rfl ?_
               | refine eqJ_rfl ?_
               | refine flE_intro (fun _ _ => rfl) ?_
               | refine seS_rfl ?_
               | refine brS_tt ?_
               | refine brS_ff ?_
               | refine brS_not ?_
               | refine brS_t (iEq_self _) ?_
               | refine brS_t (by assumption) ?_
               | refine brS_f (by assumption) ?_
               | refine brS_intro (fun _ => ?_) (fun _ => ?_)
               | refine ltS_intro (by first | assumption | decide | exact Nat.le_of_ble_eq_true rfl | omega) ?_
               | refine ixS_of rfl (by first | assumption | decide | omega) ?_
               | refine okS_intro (by first | assumption | kernel_rfl) ?_
               | refine nzS_intro (by first | decide | assumption) ?_
               | refine call_in (n := 12) Try.func61 rfl rfl rfl rfl rfl rfl rfl ?_
               | intro _)
      rename_i b9 _ _
      conv => whnf
      refine loS_i (fun jj f mm R' ni => ∃ (j : Nat) (m1 : Mem), j ≤ h ∧ jj = h - j + 1 ∧ f = [(0, .yf i b), (1, .ptr 900 bb 0), (3, .ptr 500 b3 0), (9, .ptr 600 b9 0), (24, .agg [i64 1, i64 0, i64 0, i64 1, i64 (-1), i64 0, i64 0, i64 (-1)]), (25, i64 1), (30, i64 h), (31, .int .i64 (Int.ofNat j))] ∧ mm = [(600, .own b9 102 [i64 0, i64 1]), (500, .own b3 102 [i64 (bpx x w h (w + j)), i64 (bpy y w h (w + j))]), (900, .own bb 35 [i64 x, i64 y, i64 w, i64 h])] ++ m1 ∧ I (w + j) m1 ∧ R' = addL (R + (c + 50) * (2 * w + 2 * h - (w + j)) + 50 * (4 - 1)) 50 ∧ ni = 700) (h + 1) (by omega)
        ⟨[(0, .yf i b), (1, .ptr 900 bb 0), (3, .ptr 500 b3 0), (9, .ptr 600 b9 0), (24, .agg [i64 1, i64 0, i64 0, i64 1, i64 (-1), i64 0, i64 0, i64 (-1)]), (25, i64 1), (30, i64 h), (31, .int .i64 (Int.ofNat 0))], [(600, .own b9 102 [i64 0, i64 1]), (500, .own b3 102 [i64 (bpx x w h (w + 0)), i64 (bpy y w h (w + 0))]), (900, .own bb 35 [i64 x, i64 y, i64 w, i64 h])] ++ m1, addL (R + (c + 50) * (2 * w + 2 * h - (w + 0)) + 50 * (4 - 1)) 50, 700, ?_, ?_, ?_, 0, m1, by omega, by omega, rfl, rfl, hI, rfl, rfl⟩ ?_
      · exact ⟨eqF_rfl _, eqF_rfl _, eqF_rfl _, eqF_rfl _, eqF_rfl _, eqF_rfl _, eqF_rfl _, eqF_rfl _, trivial⟩
      · have e0 : bpx x w h (w + 0) = x + w ∧ bpy y w h (w + 0) = y := by unfold bpx bpy; (repeat' split) <;> omega
        rw [← ho]
        exact by (first | exact WkM.refl _ | (refine WkM.sub ?_; repeat' (first | exact List.Sublist.refl _ | refine List.Sublist.cons_cons _ ?_ | refine List.Sublist.cons _ ?_)))
      · (first | exact Nat.le_refl _ | (simp only [addL_eq, addL_rec]; omega))
      · rintro _ _ _ _ _ ⟨j, m1, hj, rfl, rfl, rfl, hI, rfl, rfl⟩
        have hy2 : j < h → (c + 50) * (2 * w + 2 * h - (w + j)) = (c + 50) * (2 * w + 2 * h - (w + (j + 1))) + (c + 50) := fun hlt => by rw [← Nat.mul_succ]; congr 1; omega
        have ex : j < h → wr .i64 (Int.add (bpx x w h (w + j) : Nat) 0) = ((bpx x w h (w + (j + 1)) : Nat) : Int) := fun hlt => (sm (n := ((bpx x w h (w + j) : Nat) : Int) + 0) (by unfold bpx; (repeat' split) <;> omega)).trans (by unfold bpx; (repeat' split) <;> omega)
        have ey : j < h → wr .i64 (Int.add (bpy y w h (w + j) : Nat) 1) = ((bpy y w h (w + (j + 1)) : Nat) : Int) := fun hlt => (sm (n := ((bpy y w h (w + j) : Nat) : Int) + 1) (by unfold bpy; (repeat' split) <;> omega)).trans (by unfold bpy; (repeat' split) <;> omega)
        repeat' ((conv => whnf); first
                 | refine eqS_rfl ?_
                 | refine eqA_rfl ?_
                 | refine eqA_of (by assumption) ?_
                 | refine eqS_of (by rfl) ?_
                 | refine eqL_rfl ?_
                 | refine eqJ_rfl ?_
                 | refine flE_intro (fun _ _ => rfl) ?_
                 | refine seS_rfl ?_
                 | refine brS_tt ?_
                 | refine brS_ff ?_
                 | refine brS_not ?_
                 | refine brS_t (iEq_self _) ?_
                 | refine brS_t (by assumption) ?_
                 | refine brS_f (by assumption) ?_
                 | refine brS_intro (fun _ => ?_) (fun _ => ?_)
                 | refine ltS_intro (by first | assumption | decide | exact Nat.le_of_ble_eq_true rfl | omega) ?_
                 | refine ixS_of rfl (by first | assumption | decide | omega) ?_
                 | refine okS_intro (by first | assumption | kernel_rfl) ?_
                 | refine nzS_intro (by first | decide | assumption) ?_
                 | intro _)
        rotate_left
        · have hge := ge_of_iLt ‹iLt (Int.ofNat j) (Int.ofNat h) = false›
          have hj : j = h := by omega
          have ho : w + j = (w + h) + 0 := by omega
          have hb : (c + 50) * (2 * w + 2 * h - (w + j)) = (c + 50) * (2 * w + 2 * h - ((w + h) + 0)) := congrArg (fun z => (c + 50) * (2 * w + 2 * h - z)) ho
          rw [ho] at hI
          repeat' ((conv => whnf); first
                   | refine eqS_rfl ?_
                   | refine eqA_rfl ?_
                   | refine eqA_of (by assumption) ?_
                   | refine eqS_of (by rfl) ?_
                   | refine eqL_rfl ?_
                   | refine eqJ_rfl ?_
                   | refine flE_intro (fun _ _ => rfl) ?_
                   | refine seS_rfl ?_
                   | refine brS_tt ?_
                   | refine brS_ff ?_
                   | refine brS_not ?_
                   | refine brS_t (iEq_self _) ?_
                   | refine brS_t (by assumption) ?_
                   | refine brS_f (by assumption) ?_
                   | refine brS_intro (fun _ => ?_) (fun _ => ?_)
                   | refine ltS_intro (by first | assumption | decide | exact Nat.le_of_ble_eq_true rfl | omega) ?_
                   | refine ixS_of rfl (by first | assumption | decide | omega) ?_
                   | refine okS_intro (by first | assumption | kernel_rfl) ?_
                   | refine nzS_intro (by first | decide | assumption) ?_
                   | refine call_in (n := 12) Try.func61 rfl rfl rfl rfl rfl rfl rfl ?_
                   | intro _)
          rename_i b9 _ _
          conv => whnf
          refine loS_i (fun jj f mm R' ni => ∃ (j : Nat) (m1 : Mem), j ≤ w ∧ jj = w - j + 1 ∧ f = [(0, .yf i b), (1, .ptr 900 bb 0), (3, .ptr 500 b3 0), (9, .ptr 700 b9 0), (24, .agg [i64 1, i64 0, i64 0, i64 1, i64 (-1), i64 0, i64 0, i64 (-1)]), (25, i64 2), (30, i64 w), (31, .int .i64 (Int.ofNat j))] ∧ mm = [(700, .own b9 102 [i64 (-1), i64 0]), (500, .own b3 102 [i64 (bpx x w h ((w + h) + j)), i64 (bpy y w h ((w + h) + j))]), (900, .own bb 35 [i64 x, i64 y, i64 w, i64 h])] ++ m1 ∧ I ((w + h) + j) m1 ∧ R' = addL (R + (c + 50) * (2 * w + 2 * h - ((w + h) + j)) + 50 * (4 - 2)) 50 ∧ ni = 800) (w + 1) (by omega)
            ⟨[(0, .yf i b), (1, .ptr 900 bb 0), (3, .ptr 500 b3 0), (9, .ptr 700 b9 0), (24, .agg [i64 1, i64 0, i64 0, i64 1, i64 (-1), i64 0, i64 0, i64 (-1)]), (25, i64 2), (30, i64 w), (31, .int .i64 (Int.ofNat 0))], [(700, .own b9 102 [i64 (-1), i64 0]), (500, .own b3 102 [i64 (bpx x w h ((w + h) + 0)), i64 (bpy y w h ((w + h) + 0))]), (900, .own bb 35 [i64 x, i64 y, i64 w, i64 h])] ++ m1, addL (R + (c + 50) * (2 * w + 2 * h - ((w + h) + 0)) + 50 * (4 - 2)) 50, 800, ?_, ?_, ?_, 0, m1, by omega, by omega, rfl, rfl, hI, rfl, rfl⟩ ?_
          · exact ⟨eqF_rfl _, eqF_rfl _, eqF_rfl _, eqF_rfl _, eqF_rfl _, eqF_rfl _, eqF_rfl _, eqF_rfl _, trivial⟩
          · have e0 : bpx x w h ((w + h) + 0) = x + w ∧ bpy y w h ((w + h) + 0) = y + h := by unfold bpx bpy; (repeat' split) <;> omega
            rw [← ho]
            exact by (first | exact WkM.refl _ | (refine WkM.sub ?_; repeat' (first | exact List.Sublist.refl _ | refine List.Sublist.cons_cons _ ?_ | refine List.Sublist.cons _ ?_)))
          · (first | exact Nat.le_refl _ | (simp only [addL_eq, addL_rec]; omega))
          · rintro _ _ _ _ _ ⟨j, m1, hj, rfl, rfl, rfl, hI, rfl, rfl⟩
            have hy2 : j < w → (c + 50) * (2 * w + 2 * h - ((w + h) + j)) = (c + 50) * (2 * w + 2 * h - ((w + h) + (j + 1))) + (c + 50) := fun hlt => by rw [← Nat.mul_succ]; congr 1; omega
            have ex : j < w → wr .i64 (Int.add (bpx x w h ((w + h) + j) : Nat) (-1)) = ((bpx x w h ((w + h) + (j + 1)) : Nat) : Int) := fun hlt => (sm (n := ((bpx x w h ((w + h) + j) : Nat) : Int) + (-1)) (by unfold bpx; (repeat' split) <;> omega)).trans (by unfold bpx; (repeat' split) <;> omega)
            have ey : j < w → wr .i64 (Int.add (bpy y w h ((w + h) + j) : Nat) 0) = ((bpy y w h ((w + h) + (j + 1)) : Nat) : Int) := fun hlt => (sm (n := ((bpy y w h ((w + h) + j) : Nat) : Int) + 0) (by unfold bpy; (repeat' split) <;> omega)).trans (by unfold bpy; (repeat' split) <;> omega)
            repeat' ((conv => whnf); first
                     | refine eqS_rfl ?_
                     | refine eqA_rfl ?_
                     | refine eqA_of (by assumption) ?_
                     | refine eqS_of (by rfl) ?_
                     | refine eqL_rfl ?_
                     | refine eqJ_rfl ?_
                     | refine flE_intro (fun _ _ => rfl) ?_
                     | refine seS_rfl ?_
                     | refine brS_tt ?_
                     | refine brS_ff ?_
                     | refine brS_not ?_
                     | refine brS_t (iEq_self _) ?_
                     | refine brS_t (by assumption) ?_
                     | refine brS_f (by assumption) ?_
                     | refine brS_intro (fun _ => ?_) (fun _ => ?_)
                     | refine ltS_intro (by first | assumption | decide | exact Nat.le_of_ble_eq_true rfl | omega) ?_
                     | refine ixS_of rfl (by first | assumption | decide | omega) ?_
                     | refine okS_intro (by first | assumption | kernel_rfl) ?_
                     | refine nzS_intro (by first | decide | assumption) ?_
                     | intro _)
            rotate_left
            · have hge := ge_of_iLt ‹iLt (Int.ofNat j) (Int.ofNat w) = false›
              have hj : j = w := by omega
              have ho : (w + h) + j = (w + h + w) + 0 := by omega
              have hb : (c + 50) * (2 * w + 2 * h - ((w + h) + j)) = (c + 50) * (2 * w + 2 * h - ((w + h + w) + 0)) := congrArg (fun z => (c + 50) * (2 * w + 2 * h - z)) ho
              rw [ho] at hI
              repeat' ((conv => whnf); first
                       | refine eqS_rfl ?_
                       | refine eqA_rfl ?_
                       | refine eqA_of (by assumption) ?_
                       | refine eqS_of (by rfl) ?_
                       | refine eqL_rfl ?_
                       | refine eqJ_rfl ?_
                       | refine flE_intro (fun _ _ => rfl) ?_
                       | refine seS_rfl ?_
                       | refine brS_tt ?_
                       | refine brS_ff ?_
                       | refine brS_not ?_
                       | refine brS_t (iEq_self _) ?_
                       | refine brS_t (by assumption) ?_
                       | refine brS_f (by assumption) ?_
                       | refine brS_intro (fun _ => ?_) (fun _ => ?_)
                       | refine ltS_intro (by first | assumption | decide | exact Nat.le_of_ble_eq_true rfl | omega) ?_
                       | refine ixS_of rfl (by first | assumption | decide | omega) ?_
                       | refine okS_intro (by first | assumption | kernel_rfl) ?_
                       | refine nzS_intro (by first | decide | assumption) ?_
                       | refine call_in (n := 12) Try.func61 rfl rfl rfl rfl rfl rfl rfl ?_
                       | intro _)
              rename_i b9 _ _
              conv => whnf
              refine loS_i (fun jj f mm R' ni => ∃ (j : Nat) (m1 : Mem), j ≤ h ∧ jj = h - j + 1 ∧ f = [(0, .yf i b), (1, .ptr 900 bb 0), (3, .ptr 500 b3 0), (9, .ptr 800 b9 0), (24, .agg [i64 1, i64 0, i64 0, i64 1, i64 (-1), i64 0, i64 0, i64 (-1)]), (25, i64 3), (30, i64 h), (31, .int .i64 (Int.ofNat j))] ∧ mm = [(800, .own b9 102 [i64 0, i64 (-1)]), (500, .own b3 102 [i64 (bpx x w h ((w + h + w) + j)), i64 (bpy y w h ((w + h + w) + j))]), (900, .own bb 35 [i64 x, i64 y, i64 w, i64 h])] ++ m1 ∧ I ((w + h + w) + j) m1 ∧ R' = addL (R + (c + 50) * (2 * w + 2 * h - ((w + h + w) + j)) + 50 * (4 - 3)) 50 ∧ ni = 900) (h + 1) (by omega)
                ⟨[(0, .yf i b), (1, .ptr 900 bb 0), (3, .ptr 500 b3 0), (9, .ptr 800 b9 0), (24, .agg [i64 1, i64 0, i64 0, i64 1, i64 (-1), i64 0, i64 0, i64 (-1)]), (25, i64 3), (30, i64 h), (31, .int .i64 (Int.ofNat 0))], [(800, .own b9 102 [i64 0, i64 (-1)]), (500, .own b3 102 [i64 (bpx x w h ((w + h + w) + 0)), i64 (bpy y w h ((w + h + w) + 0))]), (900, .own bb 35 [i64 x, i64 y, i64 w, i64 h])] ++ m1, addL (R + (c + 50) * (2 * w + 2 * h - ((w + h + w) + 0)) + 50 * (4 - 3)) 50, 900, ?_, ?_, ?_, 0, m1, by omega, by omega, rfl, rfl, hI, rfl, rfl⟩ ?_
              · exact ⟨eqF_rfl _, eqF_rfl _, eqF_rfl _, eqF_rfl _, eqF_rfl _, eqF_rfl _, eqF_rfl _, eqF_rfl _, trivial⟩
              · have e0 : bpx x w h ((w + h + w) + 0) = x ∧ bpy y w h ((w + h + w) + 0) = y + h := by unfold bpx bpy; (repeat' split) <;> omega
                rw [← ho]
                exact by (first | exact WkM.refl _ | (refine WkM.sub ?_; repeat' (first | exact List.Sublist.refl _ | refine List.Sublist.cons_cons _ ?_ | refine List.Sublist.cons _ ?_)))
              · (first | exact Nat.le_refl _ | (simp only [addL_eq, addL_rec]; omega))
              · rintro _ _ _ _ _ ⟨j, m1, hj, rfl, rfl, rfl, hI, rfl, rfl⟩
                have hy2 : j < h → (c + 50) * (2 * w + 2 * h - ((w + h + w) + j)) = (c + 50) * (2 * w + 2 * h - ((w + h + w) + (j + 1))) + (c + 50) := fun hlt => by rw [← Nat.mul_succ]; congr 1; omega
                have ex : j < h → wr .i64 (Int.add (bpx x w h ((w + h + w) + j) : Nat) 0) = ((bpx x w h ((w + h + w) + (j + 1)) : Nat) : Int) := fun hlt => (sm (n := ((bpx x w h ((w + h + w) + j) : Nat) : Int) + 0) (by unfold bpx; (repeat' split) <;> omega)).trans (by unfold bpx; (repeat' split) <;> omega)
                have ey : j < h → wr .i64 (Int.add (bpy y w h ((w + h + w) + j) : Nat) (-1)) = ((bpy y w h ((w + h + w) + (j + 1)) : Nat) : Int) := fun hlt => (sm (n := ((bpy y w h ((w + h + w) + j) : Nat) : Int) + (-1)) (by unfold bpy; (repeat' split) <;> omega)).trans (by unfold bpy; (repeat' split) <;> omega)
                repeat' ((conv => whnf); first
                         | refine eqS_rfl ?_
                         | refine eqA_rfl ?_
                         | refine eqA_of (by assumption) ?_
                         | refine eqS_of (by rfl) ?_
                         | refine eqL_rfl ?_
                         | refine eqJ_rfl ?_
                         | refine flE_intro (fun _ _ => rfl) ?_
                         | refine seS_rfl ?_
                         | refine brS_tt ?_
                         | refine brS_ff ?_
                         | refine brS_not ?_
                         | refine brS_t (iEq_self _) ?_
                         | refine brS_t (by assumption) ?_
                         | refine brS_f (by assumption) ?_
                         | refine brS_intro (fun _ => ?_) (fun _ => ?_)
                         | refine ltS_intro (by first | assumption | decide | exact Nat.le_of_ble_eq_true rfl | omega) ?_
                         | refine ixS_of rfl (by first | assumption | decide | omega) ?_
                         | refine okS_intro (by first | assumption | kernel_rfl) ?_
                         | refine nzS_intro (by first | decide | assumption) ?_
                         | intro _)
                rotate_left
                · have hge := ge_of_iLt ‹iLt (Int.ofNat j) (Int.ofNat h) = false›
                  have hj : j = h := by omega
                  have ho : (w + h + w) + j = (w + h + w + h) + 0 := by omega
                  have hb : (c + 50) * (2 * w + 2 * h - ((w + h + w) + j)) = (c + 50) * (2 * w + 2 * h - ((w + h + w + h) + 0)) := congrArg (fun z => (c + 50) * (2 * w + 2 * h - z)) ho
                  rw [ho] at hI
                  repeat' ((conv => whnf); first
                           | refine eqS_rfl ?_
                           | refine eqA_rfl ?_
                           | refine eqA_of (by assumption) ?_
                           | refine eqS_of (by rfl) ?_
                           | refine eqL_rfl ?_
                           | refine eqJ_rfl ?_
                           | refine flE_intro (fun _ _ => rfl) ?_
                           | refine seS_rfl ?_
                           | refine brS_tt ?_
                           | refine brS_ff ?_
                           | refine brS_not ?_
                           | refine brS_t (iEq_self _) ?_
                           | refine brS_t (by assumption) ?_
                           | refine brS_f (by assumption) ?_
                           | refine brS_intro (fun _ => ?_) (fun _ => ?_)
                           | refine ltS_intro (by first | assumption | decide | exact Nat.le_of_ble_eq_true rfl | omega) ?_
                           | refine ixS_of rfl (by first | assumption | decide | omega) ?_
                           | refine okS_intro (by first | assumption | kernel_rfl) ?_
                           | refine nzS_intro (by first | decide | assumption) ?_
                           | intro _)
                  conv => whnf
                  exact ⟨by (first | exact Nat.le_refl _ | (simp only [addL_eq, addL_rec]; omega)), m1, by repeat' (first | exact WkM.comm [(900, _)] _ | refine WkM.drop ?_), .inl (by rw [show 2 * w + 2 * h = w + h + w + h + 0 by omega]; exact hI)⟩
                · have hlt := lt_of_iLt ‹iLt (Int.ofNat j) (Int.ofNat h) = true›
                  have hy3 := hy2 hlt
                  repeat' ((conv => whnf); first
                           | refine eqS_rfl ?_
                           | refine eqA_rfl ?_
                           | refine eqA_of (by assumption) ?_
                           | refine eqS_of (by rfl) ?_
                           | refine eqL_rfl ?_
                           | refine eqJ_rfl ?_
                           | refine flE_intro (fun _ _ => rfl) ?_
                           | refine seS_rfl ?_
                           | refine brS_tt ?_
                           | refine brS_ff ?_
                           | refine brS_not ?_
                           | refine brS_t (iEq_self _) ?_
                           | refine brS_t (by assumption) ?_
                           | refine brS_f (by assumption) ?_
                           | refine brS_intro (fun _ => ?_) (fun _ => ?_)
                           | refine ltS_intro (by first | assumption | decide | exact Nat.le_of_ble_eq_true rfl | omega) ?_
                           | refine ixS_of rfl (by first | assumption | decide | omega) ?_
                           | refine okS_intro (by first | assumption | kernel_rfl) ?_
                           | refine nzS_intro (by first | decide | assumption) ?_
                           | refine call_round hI (hr ((w + h + w) + j) (by omega)) [_, _, _, _] (addL (R + (c + 50) * (2 * w + 2 * h - ((w + h + w) + (j + 1))) + 50 * (4 - 3)) 70) (by exact cg2 (fun u v => dens [pt _ _, pt u v]) (ex hlt) (ey hlt)) (by exact WkM.refl _) (by (first | exact Nat.le_refl _ | (simp only [addL_eq, addL_rec]; omega))) ?_ ?_
                           | intro _)
                  all_goals conv => whnf
                  · rename_i m2 hI2
                    exact ⟨h - (j + 1) + 1, [(0, .yf i b), (1, .ptr 900 bb 0), (3, .ptr 500 b3 0), (9, .ptr 800 b9 0), (24, .agg [i64 1, i64 0, i64 0, i64 1, i64 (-1), i64 0, i64 0, i64 (-1)]), (25, i64 3), (30, i64 h), (31, .int .i64 (Int.ofNat (j + 1)))], _, addL (R + (c + 50) * (2 * w + 2 * h - ((w + h + w) + (j + 1))) + 50 * (4 - 3)) 50, 900, by omega, ⟨eqF_rfl _, eqF_rfl _, eqF_rfl _, eqF_rfl _, eqF_rfl _, eqF_rfl _, eqF_rfl _, ⟨congrArg (Value.int .i64) (wr_nat (i := j + 1) (by omega)), rfl⟩, trivial⟩, WkM.drop (WkM.refl _), by (first | exact Nat.le_refl _ | (simp only [addL_eq, addL_rec]; omega)), j + 1, m2, by omega, rfl, rfl, by rw [← ex hlt, ← ey hlt]; rfl, hI2, rfl, rfl⟩
                  · rename_i m2 hQ2
                    exact ⟨by (first | exact Nat.le_refl _ | (simp only [addL_eq, addL_rec]; omega)), m2, by repeat' (first | exact WkM.comm [(900, _)] _ | refine WkM.drop ?_), .inr hQ2⟩
            · have hlt := lt_of_iLt ‹iLt (Int.ofNat j) (Int.ofNat w) = true›
              have hy3 := hy2 hlt
              repeat' ((conv => whnf); first
                       | refine eqS_rfl ?_
                       | refine eqA_rfl ?_
                       | refine eqA_of (by assumption) ?_
                       | refine eqS_of (by rfl) ?_
                       | refine eqL_rfl ?_
                       | refine eqJ_rfl ?_
                       | refine flE_intro (fun _ _ => rfl) ?_
                       | refine seS_rfl ?_
                       | refine brS_tt ?_
                       | refine brS_ff ?_
                       | refine brS_not ?_
                       | refine brS_t (iEq_self _) ?_
                       | refine brS_t (by assumption) ?_
                       | refine brS_f (by assumption) ?_
                       | refine brS_intro (fun _ => ?_) (fun _ => ?_)
                       | refine ltS_intro (by first | assumption | decide | exact Nat.le_of_ble_eq_true rfl | omega) ?_
                       | refine ixS_of rfl (by first | assumption | decide | omega) ?_
                       | refine okS_intro (by first | assumption | kernel_rfl) ?_
                       | refine nzS_intro (by first | decide | assumption) ?_
                       | refine call_round hI (hr ((w + h) + j) (by omega)) [_, _, _, _] (addL (R + (c + 50) * (2 * w + 2 * h - ((w + h) + (j + 1))) + 50 * (4 - 2)) 70) (by exact cg2 (fun u v => dens [pt _ _, pt u v]) (ex hlt) (ey hlt)) (by exact WkM.refl _) (by (first | exact Nat.le_refl _ | (simp only [addL_eq, addL_rec]; omega))) ?_ ?_
                       | intro _)
              all_goals conv => whnf
              · rename_i m2 hI2
                exact ⟨w - (j + 1) + 1, [(0, .yf i b), (1, .ptr 900 bb 0), (3, .ptr 500 b3 0), (9, .ptr 700 b9 0), (24, .agg [i64 1, i64 0, i64 0, i64 1, i64 (-1), i64 0, i64 0, i64 (-1)]), (25, i64 2), (30, i64 w), (31, .int .i64 (Int.ofNat (j + 1)))], _, addL (R + (c + 50) * (2 * w + 2 * h - ((w + h) + (j + 1))) + 50 * (4 - 2)) 50, 800, by omega, ⟨eqF_rfl _, eqF_rfl _, eqF_rfl _, eqF_rfl _, eqF_rfl _, eqF_rfl _, eqF_rfl _, ⟨congrArg (Value.int .i64) (wr_nat (i := j + 1) (by omega)), rfl⟩, trivial⟩, WkM.drop (WkM.refl _), by (first | exact Nat.le_refl _ | (simp only [addL_eq, addL_rec]; omega)), j + 1, m2, by omega, rfl, rfl, by rw [← ex hlt, ← ey hlt]; rfl, hI2, rfl, rfl⟩
              · rename_i m2 hQ2
                exact ⟨by (first | exact Nat.le_refl _ | (simp only [addL_eq, addL_rec]; omega)), m2, by repeat' (first | exact WkM.comm [(900, _)] _ | refine WkM.drop ?_), .inr hQ2⟩
        · have hlt := lt_of_iLt ‹iLt (Int.ofNat j) (Int.ofNat h) = true›
          have hy3 := hy2 hlt
          repeat' ((conv => whnf); first
                   | refine eqS_rfl ?_
                   | refine eqA_rfl ?_
                   | refine eqA_of (by assumption) ?_
                   | refine eqS_of (by rfl) ?_
                   | refine eqL_rfl ?_
                   | refine eqJ_rfl ?_
                   | refine flE_intro (fun _ _ => rfl) ?_
                   | refine seS_rfl ?_
                   | refine brS_tt ?_
                   | refine brS_ff ?_
                   | refine brS_not ?_
                   | refine brS_t (iEq_self _) ?_
                   | refine brS_t (by assumption) ?_
                   | refine brS_f (by assumption) ?_
                   | refine brS_intro (fun _ => ?_) (fun _ => ?_)
                   | refine ltS_intro (by first | assumption | decide | exact Nat.le_of_ble_eq_true rfl | omega) ?_
                   | refine ixS_of rfl (by first | assumption | decide | omega) ?_
                   | refine okS_intro (by first | assumption | kernel_rfl) ?_
                   | refine nzS_intro (by first | decide | assumption) ?_
                   | refine call_round hI (hr (w + j) (by omega)) [_, _, _, _] (addL (R + (c + 50) * (2 * w + 2 * h - (w + (j + 1))) + 50 * (4 - 1)) 70) (by exact cg2 (fun u v => dens [pt _ _, pt u v]) (ex hlt) (ey hlt)) (by exact WkM.refl _) (by (first | exact Nat.le_refl _ | (simp only [addL_eq, addL_rec]; omega))) ?_ ?_
                   | intro _)
          all_goals conv => whnf
          · rename_i m2 hI2
            exact ⟨h - (j + 1) + 1, [(0, .yf i b), (1, .ptr 900 bb 0), (3, .ptr 500 b3 0), (9, .ptr 600 b9 0), (24, .agg [i64 1, i64 0, i64 0, i64 1, i64 (-1), i64 0, i64 0, i64 (-1)]), (25, i64 1), (30, i64 h), (31, .int .i64 (Int.ofNat (j + 1)))], _, addL (R + (c + 50) * (2 * w + 2 * h - (w + (j + 1))) + 50 * (4 - 1)) 50, 700, by omega, ⟨eqF_rfl _, eqF_rfl _, eqF_rfl _, eqF_rfl _, eqF_rfl _, eqF_rfl _, eqF_rfl _, ⟨congrArg (Value.int .i64) (wr_nat (i := j + 1) (by omega)), rfl⟩, trivial⟩, WkM.drop (WkM.refl _), by (first | exact Nat.le_refl _ | (simp only [addL_eq, addL_rec]; omega)), j + 1, m2, by omega, rfl, rfl, by rw [← ex hlt, ← ey hlt]; rfl, hI2, rfl, rfl⟩
          · rename_i m2 hQ2
            exact ⟨by (first | exact Nat.le_refl _ | (simp only [addL_eq, addL_rec]; omega)), m2, by repeat' (first | exact WkM.comm [(900, _)] _ | refine WkM.drop ?_), .inr hQ2⟩
    · have hlt := lt_of_iLt ‹iLt (Int.ofNat j) (Int.ofNat w) = true›
      have hy3 := hy2 hlt
      repeat' ((conv => whnf); first
               | refine eqS_rfl ?_
               | refine eqA_rfl ?_
               | refine eqA_of (by assumption) ?_
               | refine eqS_of (by rfl) ?_
               | refine eqL_rfl ?_
               | refine eqJ_rfl ?_
               | refine flE_intro (fun _ _ => rfl) ?_
               | refine seS_rfl ?_
               | refine brS_tt ?_
               | refine brS_ff ?_
               | refine brS_not ?_
               | refine brS_t (iEq_self _) ?_
               | refine brS_t (by assumption) ?_
               | refine brS_f (by assumption) ?_
               | refine brS_intro (fun _ => ?_) (fun _ => ?_)
               | refine ltS_intro (by first | assumption | decide | exact Nat.le_of_ble_eq_true rfl | omega) ?_
               | refine ixS_of rfl (by first | assumption | decide | omega) ?_
               | refine okS_intro (by first | assumption | kernel_rfl) ?_
               | refine nzS_intro (by first | decide | assumption) ?_
               | refine call_round hI (hr (0 + j) (by omega)) [_, _, _, _] (addL (R + (c + 50) * (2 * w + 2 * h - (0 + (j + 1))) + 50 * (4 - 0)) 70) (by exact cg2 (fun u v => dens [pt _ _, pt u v]) (ex hlt) (ey hlt)) (by exact WkM.refl _) (by (first | exact Nat.le_refl _ | (simp only [addL_eq, addL_rec]; omega))) ?_ ?_
               | intro _)
      all_goals conv => whnf
      · rename_i m2 hI2
        exact ⟨w - (j + 1) + 1, [(0, .yf i b), (1, .ptr 900 bb 0), (3, .ptr 500 b3 0), (9, .ptr 505 b9 0), (24, .agg [i64 1, i64 0, i64 0, i64 1, i64 (-1), i64 0, i64 0, i64 (-1)]), (25, i64 0), (30, i64 w), (31, .int .i64 (Int.ofNat (j + 1)))], _, addL (R + (c + 50) * (2 * w + 2 * h - (0 + (j + 1))) + 50 * (4 - 0)) 50, 600, by omega, ⟨eqF_rfl _, eqF_rfl _, eqF_rfl _, eqF_rfl _, eqF_rfl _, eqF_rfl _, eqF_rfl _, ⟨congrArg (Value.int .i64) (wr_nat (i := j + 1) (by omega)), rfl⟩, trivial⟩, WkM.drop (WkM.refl _), by (first | exact Nat.le_refl _ | (simp only [addL_eq, addL_rec]; omega)), j + 1, m2, by omega, rfl, rfl, by rw [← ex hlt, ← ey hlt]; rfl, hI2, rfl, rfl⟩
      · rename_i m2 hQ2
        exact ⟨by (first | exact Nat.le_refl _ | (simp only [addL_eq, addL_rec]; omega)), m2, by repeat' (first | exact WkM.comm [(900, _)] _ | refine WkM.drop ?_), .inr hQ2⟩
end Go.Proofs.Ytbpdmbgkoijfbaa
