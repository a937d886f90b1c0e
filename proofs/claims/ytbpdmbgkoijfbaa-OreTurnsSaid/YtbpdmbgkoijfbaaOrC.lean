/- Ore: cells. -/
import Derived.Test.YtbpdmbgkoijfbaaOrB
import Derived.KernelRfl
namespace Go.Proofs.Ytbpdmbgkoijfbaa
open Go.Ab
attribute [local irreducible] aggOk drwOK
set_option maxRecDepth 100000
set_option maxHeartbeats 4000000
theorem cell_at {w h u v : Nat} (hu : u < w) (hv : v < h) : v * w + u < w * h ∧ (v * w + u) % w = u ∧ (v * w + u) / w = v := by
  have h1 : (v + 1) * w ≤ h * w := Nat.mul_le_mul_right _ (by omega)
  rw [Nat.succ_mul] at h1
  have h2 : h * w = w * h := Nat.mul_comm _ _
  refine ⟨by omega, ?_, ?_⟩
  · rw [Nat.mul_comm, Nat.mul_add_mod]; exact Nat.mod_eq_of_lt hu
  · rw [Nat.mul_comm, Nat.mul_add_div (by omega), Nat.div_eq_of_lt hu]; omega
theorem c58 (F d c : Nat) (hF : 100 < F) (bb : Nat) (x y w h : Nat) (hw : x + w ≤ 10) (hh : y + h ≤ 10) : IterC (CL F (d + 1)) (CL F (d + 2)) (.fn 58 [] [.ptr 900 bb 0]) [(900, .own bb 35 [i64 x, i64 y, i64 w, i64 h])] ((c + 20) * (w * h) + 50) c (w * h) (fun k => [bl (x + k % w : Nat) (y + k / w : Nat) 1 1]) := by
  intro i b I Q hr m hI R
  rw [show (c + 20) * (w * h) + 50 = (c + 20) * (w * h) + 10 + 40 by omega, addL_eq, ← Nat.add_assoc, ← addL_eq _ 40]
  have hwh : (c + 20) * (w * h - 0 * w) = (c + 20) * (w * h) := by rw [Nat.zero_mul]; rfl
  refine call_in (n := 29) Try.func58 rfl rfl rfl rfl rfl rfl rfl ?_
  repeat' ((conv => whnf); first
           | refine eqS_rfl ?_
           | refine eqA_rfl ?_
           | refine eqA_of (by assumption) ?_
           | refine eqS_of (by rfl) ?_
           | refine eqL_rfl ?_
           | refine eqJ_rfl ?_
           | refine flE_intro (fun _ _ => rfl) ?_
           | refine seS_rfl ?_
           | refine brS_tt ?_
           | refine brS_ff ?_
           | refine brS_not ?_
           | refine brS_t (iEq_self _) ?_
           | refine brS_t (by assumption) ?_
           | refine brS_f (by assumption) ?_
           | refine brS_intro (fun _ => ?_) (fun _ => ?_)
           | refine ltS_intro (by first | assumption | decide | exact Nat.le_of_ble_eq_true rfl | omega) ?_
           | refine ixS_of rfl (by first | assumption | decide | omega) ?_
           | refine okS_intro (by first | assumption | kernel_rfl) ?_
           | refine nzS_intro (by first | decide | assumption) ?_
           | intro _)
  conv => whnf
  refine loS_i (fun jj f mm R' ni => ∃ (v : Nat) (m1 : Mem), v ≤ h ∧ jj = h - v + 1 ∧ f = [(0, .yf i b), (1, .ptr 900 bb 0), (6, i64 h), (7, .int .i64 (Int.ofNat v))] ∧ mm = (900, .own bb 35 [i64 x, i64 y, i64 w, i64 h]) :: m1 ∧ I (v * w) m1 ∧ R' = addL (R + (c + 20) * (w * h - v * w)) 10 ∧ ni = 600) (h + 1) (by omega)
    ⟨[(0, .yf i b), (1, .ptr 900 bb 0), (6, i64 h), (7, .int .i64 (Int.ofNat 0))], (900, .own bb 35 [i64 x, i64 y, i64 w, i64 h]) :: m, addL (R + (c + 20) * (w * h - 0 * w)) 10, 600, ⟨eqF_rfl _, eqF_rfl _, eqF_rfl _, eqF_rfl _, trivial⟩, WkM.refl _, by (first | exact Nat.le_refl _ | (simp only [addL_eq, addL_rec]; omega)), 0, m, by omega, by omega, rfl, rfl, by rw [Nat.zero_mul]; exact hI, rfl, rfl⟩ ?_
  rintro _ _ _ _ _ ⟨v, m1, hv, rfl, rfl, rfl, hI, rfl, rfl⟩
  repeat' ((conv => whnf); first
           | refine eqS_rfl ?_
           | refine eqA_rfl ?_
           | refine eqA_of (by assumption) ?_
           | refine eqS_of (by rfl) ?_
           | refine eqL_rfl ?_
           | refine eqJ_rfl ?_
           | refine flE_intro (fun _ _ => rfl) ?_
           | refine seS_rfl ?_
           | refine brS_tt ?_
           | refine brS_ff ?_
           | refine brS_not ?_
           | refine brS_t (iEq_self _) ?_
           | refine brS_t (by assumption) ?_
           | refine brS_f (by assumption) ?_
           | refine brS_intro (fun _ => ?_) (fun _ => ?_)
           | refine ltS_intro (by first | assumption | decide | exact Nat.le_of_ble_eq_true rfl | omega) ?_
           | refine ixS_of rfl (by first | assumption | decide | omega) ?_
           | refine okS_intro (by first | assumption | kernel_rfl) ?_
           | refine nzS_intro (by first | decide | assumption) ?_
           | intro _)
  rotate_left
  · conv => whnf
    have hge := ge_of_iLt ‹iLt (Int.ofNat v) (Int.ofNat h) = false›
    have e : v = h := by omega
    exact ⟨by (first | exact Nat.le_refl _ | (simp only [addL_eq, addL_rec]; omega)), m1, by repeat' (first | exact WkM.comm [(900, _)] _ | refine WkM.drop ?_), .inl (by rw [Nat.mul_comm, ← e]; exact hI)⟩
  have hlt := lt_of_iLt ‹iLt (Int.ofNat v) (Int.ofNat h) = true›
  conv => whnf
  refine loS_i (fun jj f mm R' ni => ∃ (u : Nat) (m1 : Mem), u ≤ w ∧ jj = w - u + 1 ∧ f = [(0, .yf i b), (1, .ptr 900 bb 0), (6, i64 h), (7, .int .i64 (Int.ofNat v)), (3, .int .i64 (Int.ofNat v)), (11, i64 w), (12, .int .i64 (Int.ofNat u))] ∧ mm = (900, .own bb 35 [i64 x, i64 y, i64 w, i64 h]) :: m1 ∧ I (v * w + u) m1 ∧ R' = addL (R + (c + 20) * (w * h - (v * w + u))) 10 ∧ ni = 600) (w + 1) (by omega)
    ⟨[(0, .yf i b), (1, .ptr 900 bb 0), (6, i64 h), (7, .int .i64 (Int.ofNat v)), (3, .int .i64 (Int.ofNat v)), (11, i64 w), (12, .int .i64 (Int.ofNat 0))], (900, .own bb 35 [i64 x, i64 y, i64 w, i64 h]) :: m1, addL (R + (c + 20) * (w * h - (v * w + 0))) 10, 600, ⟨eqF_rfl _, eqF_rfl _, eqF_rfl _, eqF_rfl _, eqF_rfl _, eqF_rfl _, eqF_rfl _, trivial⟩, WkM.refl _, by exact Nat.le_refl _, 0, m1, by omega, by omega, rfl, rfl, hI, rfl, rfl⟩ ?_
  rintro _ _ _ _ _ ⟨u, m1, hu, rfl, rfl, rfl, hI, rfl, rfl⟩
  repeat' ((conv => whnf); first
           | refine eqS_rfl ?_
           | refine eqA_rfl ?_
           | refine eqA_of (by assumption) ?_
           | refine eqS_of (by rfl) ?_
           | refine eqL_rfl ?_
           | refine eqJ_rfl ?_
           | refine flE_intro (fun _ _ => rfl) ?_
           | refine seS_rfl ?_
           | refine brS_tt ?_
           | refine brS_ff ?_
           | refine brS_not ?_
           | refine brS_t (iEq_self _) ?_
           | refine brS_t (by assumption) ?_
           | refine brS_f (by assumption) ?_
           | refine brS_intro (fun _ => ?_) (fun _ => ?_)
           | refine ltS_intro (by first | assumption | decide | exact Nat.le_of_ble_eq_true rfl | omega) ?_
           | refine ixS_of rfl (by first | assumption | decide | omega) ?_
           | refine okS_intro (by first | assumption | kernel_rfl) ?_
           | refine nzS_intro (by first | decide | assumption) ?_
           | intro _)
  rotate_left
  · conv => whnf
    have hge := ge_of_iLt ‹iLt (Int.ofNat u) (Int.ofNat w) = false›
    have e : u = w := by omega
    have e2 : v * w + u = (v + 1) * w := by rw [Nat.succ_mul, e]
    rw [e2] at hI
    exact ⟨h - (v + 1) + 1, [(0, .yf i b), (1, .ptr 900 bb 0), (6, i64 h), (7, .int .i64 (Int.ofNat (v + 1)))], _, addL (R + (c + 20) * (w * h - ((v + 1) * w))) 10, 600, by omega, ⟨eqF_rfl _, eqF_rfl _, eqF_rfl _, ⟨congrArg (Value.int .i64) (wr_nat (i := v + 1) (by omega)), rfl⟩, trivial⟩, WkM.refl _, by rw [e2]; (first | exact Nat.le_refl _ | (simp only [addL_eq, addL_rec]; omega)), v + 1, m1, by omega, rfl, rfl, rfl, hI, rfl, rfl⟩
  have hlu := lt_of_iLt ‹iLt (Int.ofNat u) (Int.ofNat w) = true›
  obtain ⟨q1, q2, q3⟩ := cell_at hlu hlt
  have hy3 : (c + 20) * (w * h - (v * w + u)) = (c + 20) * (w * h - (v * w + (u + 1))) + (c + 20) := by rw [← Nat.mul_succ]; congr 1; omega
  have ex : wr .i64 (Int.add (x : Nat) (Int.ofNat u)) = ((x + (v * w + u) % w : Nat) : Int) := by rw [q2]; exact wr_nat (i := x + u) (by omega)
  have ey : wr .i64 (Int.add (y : Nat) (Int.ofNat v)) = ((y + (v * w + u) / w : Nat) : Int) := by rw [q3]; exact wr_nat (i := y + v) (by omega)
  repeat' ((conv => whnf); first
           | refine eqS_rfl ?_
           | refine eqA_rfl ?_
           | refine eqA_of (by assumption) ?_
           | refine eqS_of (by rfl) ?_
           | refine eqL_rfl ?_
           | refine eqJ_rfl ?_
           | refine flE_intro (fun _ _ => rfl) ?_
           | refine seS_rfl ?_
           | refine brS_tt ?_
           | refine brS_ff ?_
           | refine brS_not ?_
           | refine brS_t (iEq_self _) ?_
           | refine brS_t (by assumption) ?_
           | refine brS_f (by assumption) ?_
           | refine brS_intro (fun _ => ?_) (fun _ => ?_)
           | refine ltS_intro (by first | assumption | decide | exact Nat.le_of_ble_eq_true rfl | omega) ?_
           | refine ixS_of rfl (by first | assumption | decide | omega) ?_
           | refine okS_intro (by first | assumption | kernel_rfl) ?_
           | refine nzS_intro (by first | decide | assumption) ?_
           | refine call_round hI (hr (v * w + u) q1) [_] (addL (R + (c + 20) * (w * h - (v * w + (u + 1)))) 20) (by exact cg2 (fun u v => dens [bl u v 1 1]) ex ey) (by exact WkM.refl _) (by (first | exact Nat.le_refl _ | (simp only [addL_eq, addL_rec]; omega))) ?_ ?_
           | intro _)
  all_goals conv => whnf
  · rename_i m2 hI2
    exact ⟨w - (u + 1) + 1, [(0, .yf i b), (1, .ptr 900 bb 0), (6, i64 h), (7, .int .i64 (Int.ofNat v)), (3, .int .i64 (Int.ofNat v)), (11, i64 w), (12, .int .i64 (Int.ofNat (u + 1)))], _, addL (R + (c + 20) * (w * h - (v * w + (u + 1)))) 10, 600, by omega, ⟨eqF_rfl _, eqF_rfl _, eqF_rfl _, eqF_rfl _, eqF_rfl _, eqF_rfl _, ⟨congrArg (Value.int .i64) (wr_nat (i := u + 1) (by omega)), rfl⟩, trivial⟩, WkM.refl _, by (first | exact Nat.le_refl _ | (simp only [addL_eq, addL_rec]; omega)), u + 1, m2, by omega, rfl, rfl, rfl, hI2, rfl, rfl⟩
  · rename_i m2 hQ2
    exact ⟨by (first | exact Nat.le_refl _ | (simp only [addL_eq, addL_rec]; omega)), m2, by repeat' (first | exact WkM.comm [(900, _)] _ | refine WkM.drop ?_), .inr hQ2⟩
end Go.Proofs.Ytbpdmbgkoijfbaa
