/- Card: deviations one after the other, in numbers. -/
import Derived.Test.YtogncjicndbahaaCdW
import Derived.KernelRfl
namespace Go.Proofs.Ytogncjicndbahaa
open Go.Ab
attribute [local irreducible] aggOk drwOK
set_option maxRecDepth 100000
set_option maxHeartbeats 4000000
set_option linter.unusedVariables false
set_option linter.unusedSimpArgs false
/-- a deviation as one fraction -/
def dvQ (n : Nat) (h dv : Nat → Int) (u D : Int) (k : Nat) : Int := dv k * ((nh n h k - h k) * D) + (u - h k * D) * (nd n dv k - dv k)
structure DvB (n : Nat) (h dv : Nat → Int) (x : Rat) (k : Nat) (B : Nat) (q : Rat) : Prop where
  e : q = ((dvQ n h dv (cuU h x.num x.den) x.den k : Int) : Rat) / (((nh n h k - h k) * x.den : Int) : Rat)
  v : ∀ D : Nat, x.den ≤ D → Vb q B (3600 * D)
  L : 0 < (nh n h k - h k) * (x.den : Int)
  X : cuX n h dv (cuU h x.num x.den) x.den k = cuU h x.num x.den * (nh n h k - h k) + dvQ n h dv (cuU h x.num x.den) x.den k
theorem dvB_of {n : Nat} {h dv : Nat → Int} (hv : VC n h dv) {x : Rat} {k : Nat} (hs : Seg n h x k) {B : Nat} (hb : ∀ j, j < n → -(B : Int) ≤ dv j ∧ dv j ≤ B) : DvB n h dv x k B (dvU n h dv x k) := by
  have hk := hs.kn
  have hl := nh_gt hv hk
  have hd := x.den_pos
  obtain ⟨u1, u2⟩ := uR_num h x
  have lo := num_le_iff.1 hs.lo
  have hi := lt_iff_num.1 hs.hi
  rw [u1, u2] at lo hi
  have hbk := hb k hk
  have hbn : -(B : Int) ≤ nd n dv k ∧ nd n dv k ≤ B := by
    unfold nd
    split
    · rename_i h9; exact hb (k + 1) h9
    · exact hb 0 hv.n0
  have hD : (x.den : Rat) ≠ 0 := by intro hh; rw [Rat.natCast_eq_zero_iff] at hh; exact x.den_nz hh
  have hLr : ((nh n h k - h k : Int) : Rat) ≠ 0 := by intro hh; rw [Rat.intCast_eq_zero_iff] at hh; omega
  have hL : 0 < (nh n h k - h k) * (x.den : Int) := Int.mul_pos (by omega) (by omega)
  have hq : dvU n h dv x k = ((dvQ n h dv (cuU h x.num x.den) x.den k : Int) : Rat) / (((nh n h k - h k) * x.den : Int) : Rat) := by
    have e1 : ((cuU h x.num x.den : Int) : Rat) = uR h x * (x.den : Rat) := by rw [← u1, rat_num (uR h x), u2]
    unfold dvU dvQ
    push_cast
    rw [e1]
    push_cast at hLr
    generalize ((nh n h k : Int) : Rat) = H at *
    generalize ((h k : Int) : Rat) = b at *
    generalize uR h x = U at *
    generalize (x.den : Rat) = D at *
    generalize ((dv k : Int) : Rat) = dd at *
    generalize ((nd n dv k : Int) : Rat) = ee at *
    grind
  refine ⟨hq, fun D hDD => ?_, hL, ?_⟩
  · rw [hq]
    generalize hw : cuU h x.num x.den - h k * x.den = w
    generalize hLL : (nh n h k - h k) * (x.den : Int) = L at *
    have hwL : 0 ≤ w ∧ w < L := by
      have : (nh n h k - h k) * (x.den : Int) = nh n h k * x.den - h k * x.den := Int.sub_mul _ _ _
      omega
    have p1 : dv k * (L - w) ≤ B * (L - w) := Int.mul_le_mul_of_nonneg_right (by omega) (by omega)
    have p2 : -(B : Int) * (L - w) ≤ dv k * (L - w) := Int.mul_le_mul_of_nonneg_right (by omega) (by omega)
    have p3 : nd n dv k * w ≤ B * w := Int.mul_le_mul_of_nonneg_right (by omega) (by omega)
    have p4 : -(B : Int) * w ≤ nd n dv k * w := Int.mul_le_mul_of_nonneg_right (by omega) (by omega)
    have p5 : dvQ n h dv (cuU h x.num x.den) x.den k = dv k * (L - w) + nd n dv k * w := by unfold dvQ; rw [hw, hLL]; grind
    have p6 : (B : Int) * L = B * (L - w) + B * w := by grind
    have p7 : -(B : Int) * (L - w) = -((B : Int) * (L - w)) := Int.neg_mul _ _
    have p8 : -(B : Int) * w = -((B : Int) * w) := Int.neg_mul _ _
    refine Vb.div hL ?_ ?_ ?_
    · rw [p5, p6]; omega
    · rw [p5, p6]; omega
    · rw [← hLL]
      push_cast
      exact Int.mul_le_mul (by omega) (by omega) (by omega) (by omega)
  · unfold cuX dvQ
    generalize cuU h x.num x.den = u
    grind
theorem bk_mod {t K : Int} (hK : 0 < K) (h1 : -K ≤ t) (h2 : t < 2 * K) : Int.tmod (Int.tmod t K + K) K = bkI t K := by
  have q1 := Int.tmod_add_mul_tdiv t K
  have q2 : -K < Int.tmod t K := Int.lt_tmod_of_pos t hK
  rw [Int.tmod_eq_emod_of_nonneg (by omega)]
  have e1 : (Int.tmod t K + K) % K = t % K := by
    rw [Int.add_emod_right]
    conv => rhs; rw [← q1]
    rw [Int.add_mul_emod_self_left]
  rw [e1]
  unfold bkI
  by_cases c1 : t < 0
  · rw [if_neg (by omega), if_pos c1, ← Int.add_emod_right, Int.emod_eq_of_lt (by omega) (by omega)]
  · rw [if_neg (by omega), if_neg c1]
    by_cases c2 : K ≤ t
    · rw [if_pos c2, ← Int.sub_emod_right, Int.emod_eq_of_lt (by omega) (by omega)]
    · rw [if_neg c2, Int.emod_eq_of_lt (by omega) (by omega)]
theorem same_frac {a b c d : Int} (hb : 0 < b) (hd : 0 < d) (h : a * d = c * b) : Int.tdiv a b = Int.tdiv c d ∧ Int.tmod a b * d = Int.tmod c d * b := by
  have e1 : Int.tdiv a b = Int.tdiv c d := by
    rw [← Int.mul_tdiv_mul_of_pos_left a b hd, h, Int.mul_comm b d, Int.mul_tdiv_mul_of_pos_left c d hb]
  refine ⟨e1, ?_⟩
  have q1 := Int.tmod_add_mul_tdiv a b
  have q2 := Int.tmod_add_mul_tdiv c d
  rw [e1] at q1
  generalize Int.tdiv c d = q at *
  generalize Int.tmod a b = r at *
  generalize Int.tmod c d = s at *
  grind
end Go.Proofs.Ytogncjicndbahaa
