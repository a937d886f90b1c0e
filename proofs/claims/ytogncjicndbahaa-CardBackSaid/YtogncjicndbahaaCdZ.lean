/- CardFollowed: the law. -/
import Derived.Test.YtogncjicndbahaaCdY
import Derived.KernelRfl
namespace Go.Proofs.Ytogncjicndbahaa
open Go.Ab
attribute [local irreducible] aggOk drwOK
set_option maxRecDepth 100000
set_option maxHeartbeats 4000000
set_option linter.unusedVariables false
set_option linter.unusedSimpArgs false
def S22 (x y z : Rat) : Nat → Rat
  | 0 => x
  | 1 => y
  | _ => z
def g22 (x y : Rat) : Nat → Rat
  | 0 => x
  | _ => y
theorem eq42 (a b x y : Int) : eqV Try.prog 40 42 (.agg ⟨[.int .i64 a, .int .i64 b]⟩) (.agg ⟨[.int .i64 x, .int .i64 y]⟩) = some (iEq a x && (iEq b y && true)) := by kernel_rfl
theorem eq42t (a b : Int) : eqV Try.prog 40 42 (.agg ⟨[.int .i64 a, .int .i64 b]⟩) (.agg ⟨[.int .i64 a, .int .i64 b]⟩) = some true := by rw [eq42, iEq_self, iEq_self]; rfl
theorem c55w (F d : Nat) (hF : 300 < F) (n : Nat) (hn : n ≤ 3) (S g : Nat → Rat) (a : Option Addr) (c e : Nat) (q : Rat) (hq : q = S n) (hS : ∀ k, k < n → S (k + 1) = S k + g k) (D E V W : Nat) (hV : ∀ k, k < n → Vb (S k) V D) (hW : ∀ k, k < n → Vb (g k) W E) (hB : V * D * E + W * E * D ≤ 4000000000000000000) (hD : D * E ≤ 4000000000000000000) : ReadC (CL F (d + 3)) 55 [fr (S 0), .sl 1000 a n c] [(1000, .ro a n e 2 fun j => [.int .i64 (g j).num, .int .i64 (Int.ofNat (g j).den)])] (30000 + 100) (fr q) := by
  rw [hq]
  exact c55 F d hF n hn S g a c e hS D E V W hV hW hB hD
theorem c25e (F d : Nat) (x y x' y' : Int) (ex : x' = x) (ey : y' = y) : PureC (CL F (d + 1)) 25 [.int .i64 x', .int .i64 y'] 20 (.agg [.int .i64 x, .int .i64 y]) := by
  subst ex ey
  exact c25 F d x' y'
theorem rD7 (N : Nat) (p1 : Nat → Nat) (w : Nat) (hw : w < 256) (j : Nat) : -((785 : Nat) : Int) ≤ rD N p1 w j ∧ rD N p1 w j ≤ ((785 : Nat) : Int) := by
  unfold rD
  split
  · omega
  · have := Nat.mod_lt (p1 j) (show 0 < 2 * (20 + 3 * w) + 1 by omega)
    omega
theorem l7 (F d : Nat) (hF : 300 < F) (a : Option Addr) (N e c : Nat) (p0 p1 : Nat → Nat) (w : Nat) (hp0 : ∀ j, p0 j < 65536) (hp1 : ∀ j, p1 j < 65536) (hw : w < 256) (a2 : Option Addr) (N2 e2 c2 : Nat) (p2 p3 : Nat → Nat) (w2 : Nat) (hp2 : ∀ j, p2 j < 65536) (hp3 : ∀ j, p3 j < 65536) (hw2 : w2 < 256) (y : Nat) (hy : y < 65536) : ReadC (CL F (d + 9)) 7 [.agg [.sl 1000 a N c, .int .u8 (Int.ofNat w)], .agg [.sl 1001 a2 N2 c2, .int .u8 (Int.ofNat w2)], .int .u16 (Int.ofNat y)] [(1000, .ro a N e 2 fun j => [.int .u16 (Int.ofNat (p0 j)), .int .u16 (Int.ofNat (p1 j))]), (1001, .ro a2 N2 e2 2 fun j => [.int .u16 (Int.ofNat (p2 j)), .int .u16 (Int.ofNat (p3 j))])] (100000000 + 900) (.bool true) := by
  obtain ⟨n, en⟩ : ∃ n, n = rN N := ⟨_, rfl⟩
  obtain ⟨h, eh⟩ : ∃ h, h = rH N p0 := ⟨_, rfl⟩
  obtain ⟨dv, ed⟩ : ∃ dv, dv = rD N p1 w := ⟨_, rfl⟩
  have hv : VC n h dv := by rw [en, eh, ed]; exact rVC N p0 p1 w hw
  have hn5 : n ≤ 5 := by rw [en]; unfold rN; split <;> omega
  have hn0 := hv.n0
  obtain ⟨m, em⟩ : ∃ m : Int, m = ((y % 3600 : Nat) : Int) := ⟨_, rfl⟩
  have hm : 0 ≤ m ∧ m < 3600 := by rw [em]; have := Nat.mod_lt y (show 0 < 3600 by omega); omega
  have em2 : Int.tmod (wr .i64 (Int.ofNat y)) 3600 = m := by rw [smn (i := y) (by omega), em]; exact tmN y 3600
  obtain ⟨n2, en2⟩ : ∃ n, n = rN N2 := ⟨_, rfl⟩
  obtain ⟨h2, eh2⟩ : ∃ h, h = rH N2 p2 := ⟨_, rfl⟩
  obtain ⟨d2, ed2⟩ : ∃ dv, dv = rD N2 p3 w2 := ⟨_, rfl⟩
  have hv2 : VC n2 h2 d2 := by rw [en2, eh2, ed2]; exact rVC N2 p2 p3 w2 hw2
  have hb1 : ∀ j, j < n → -((785 : Nat) : Int) ≤ dv j ∧ dv j ≤ ((785 : Nat) : Int) := fun j _ => by rw [ed]; exact rD7 N p1 w hw j
  have hb2 : ∀ j, j < n2 → -((785 : Nat) : Int) ≤ d2 j ∧ d2 j ≤ ((785 : Nat) : Int) := fun j _ => by rw [ed2]; exact rD7 N2 p3 w2 hw2 j
  have v1 : Vb (m : Rat) 3600 1 := Vb.int (V := 3600) (by omega)
  have vm := v1.mono (Nat.le_refl 3600) (show 1 ≤ 6000 by decide)
  have g1 : (0 : Rat) ≤ (m : Rat) := Rat.intCast_le_intCast.2 hm.1
  have g2 : (m : Rat) < (3600 : Rat) := Rat.intCast_lt_intCast.2 hm.2
  obtain ⟨k, hs1⟩ := seg_ex hv g1 g2
  obtain ⟨q1, hq1⟩ : ∃ q, q = dvU n h dv (m : Rat) k := ⟨_, rfl⟩
  have D1 := dvB_of hv hs1 hb1
  rw [← hq1] at D1
  have vq1 : Vb q1 785 3600 := D1.v 1 (Nat.le_refl 1)
  obtain ⟨t1, ht1⟩ : ∃ t, t = (m : Rat) + q1 := ⟨_, rfl⟩
  obtain ⟨at1, hat⟩ : ∃ t, t = bkR t1 := ⟨_, rfl⟩
  have vt1 : Vb t1 7200 3600 := by rw [ht1]; exact (v1.add vq1).mono (by decide) (by decide)
  have hat2 : 0 ≤ at1 ∧ at1 < 3600 := by
    have r1 := vq1.r1
    have r2 := vq1.r2
    have e0 : ((785 : Nat) : Rat) = 785 := rfl
    rw [e0] at r1 r2
    have e1 : ((-3600 : Int) : Rat) = -3600 := rfl
    have e2 : ((7200 : Int) : Rat) = 7200 := rfl
    have e3 : ((3600 : Int) : Rat) = 3600 := rfl
    have e4 : ((0 : Int) : Rat) = 0 := rfl
    have i1 : -785 ≤ t1 := by rw [ht1]; grind
    have i2 : t1 < 4385 := by rw [ht1]; grind
    rw [hat]
    unfold bkR; rw [e1, e2, e3, e4]
    clear hat ht1 g1 g2 r1 r2
    split
    · grind
    · split
      · grind
      · split <;> grind
  have td : t1.den = q1.den := by rw [ht1, Rat.add_comm]; exact addI_den q1 m
  have tn : t1.num = q1.num + m * q1.den := by rw [ht1, Rat.add_comm]; exact addI_num q1 m
  obtain ⟨bn, bd⟩ := bkR_eq t1
  rw [← hat] at bn bd
  have vat : Vb at1 3600 3600 := by
    have e5 : ((3600 : Nat) : Rat) = 3600 := rfl
    refine Vb.of (by rw [bd, td]; exact vq1.d) ?_ ?_ <;> (rw [e5]; obtain ⟨x1, x2⟩ := hat2; grind)
  obtain ⟨k2, hs2⟩ := seg_ex hv2 hat2.1 hat2.2
  obtain ⟨q2, hq2⟩ : ∃ q, q = dvU n2 h2 d2 at1 k2 := ⟨_, rfl⟩
  have D2 := dvB_of hv2 hs2 hb2
  rw [← hq2] at D2
  have vq2 : Vb q2 785 (3600 * 3600) := D2.v 3600 vat.d
  obtain ⟨t2, ht2⟩ : ∃ t, t = at1 + q2 := ⟨_, rfl⟩
  obtain ⟨b2, hb2'⟩ : ∃ t, t = bkR t2 := ⟨_, rfl⟩
  have vt2 : Vb t2 7200 (3600 * (3600 * 3600)) := by rw [ht2]; exact (vat.add vq2).mono (by decide) (Nat.le_refl _)
  obtain ⟨tw, htw⟩ : ∃ t, t = q1 + q2 := ⟨_, rfl⟩
  have k27 := c27 F (d + 7) q1 (vq1.mono (by decide) (by decide))
  -- numbers
  obtain ⟨u1, u2⟩ := uR_num h2 at1
  have lo := num_le_iff.1 hs2.lo
  have hi := lt_iff_num.1 hs2.hi
  rw [u1, u2] at lo hi
  have hbe : ∀ j, j < k2 → nh n2 h2 j * (at1.den : Int) ≤ cuU h2 at1.num at1.den := fun j hj => by
    have := num_le_iff.1 (hs2.be j hj)
    rw [u1, u2] at this
    exact this
  have hl2 := nh_gt hv2 hs2.kn
  have dp : 0 < q1.den := q1.den_pos
  have dp2 := vq1.d
  have hden : at1.den = q1.den := by rw [bd, td]
  have An0 : 0 ≤ at1.num := Rat.num_nonneg.2 hat2.1
  have An1 : at1.num < 3600 * (at1.den : Int) := lt_iff_num.1 hat2.2
  have k17 := c17 F (d + 6) hF (none : Option Addr) n2 0 n2 h2 d2 hv2 at1.num at1.den _ rfl (by omega) ⟨An0, An1⟩ k2 hs2.kn hi hbe
  have k17 : ∀ ax : Option Addr, ReadC (CL F (d + 6 + 2)) 17 [.sl 1000 ax n2 n2, .agg [.int .i64 at1.num, .int .i64 at1.den]] [(1000, .ro ax n2 0 2 fun j => [.int .i64 (h2 j), .int .i64 (d2 j)])] (20000 + 900) (.tup [.agg [.int .i64 (cuX n2 h2 d2 (cuU h2 at1.num at1.den) at1.den k2), .int .i64 (cuY n2 h2 at1.den k2)], .int .i64 (Int.ofNat k2)]) := fun ax => c17 F (d + 6) hF ax n2 0 n2 h2 d2 hv2 at1.num at1.den _ rfl (by omega) ⟨An0, An1⟩ k2 hs2.kn hi hbe
  have hX := D2.X
  have hE := D2.e
  have hY0 := D2.L
  have hYY : cuY n2 h2 at1.den k2 = (nh n2 h2 k2 - h2 k2) * (at1.den : Int) := rfl
  rw [← hYY] at hE hY0
  have hcu : cuU h2 at1.num at1.den = at1.num ∨ cuU h2 at1.num at1.den = at1.num + 3600 * (at1.den : Int) := by unfold cuU; split <;> simp
  have hu9 : 0 ≤ cuU h2 at1.num at1.den ∧ cuU h2 at1.num at1.den < 7200 * (at1.den : Int) := by rcases hcu with e | e <;> (rw [e]; omega)
  generalize cuU h2 at1.num at1.den = u at *
  generalize hX9 : cuX n2 h2 d2 u at1.den k2 = X at *
  generalize hY9 : cuY n2 h2 at1.den k2 = Y at *
  generalize dvQ n2 h2 d2 u at1.den k2 = Q at *
  generalize hl9 : nh n2 h2 k2 - h2 k2 = l at *
  rw [hden] at hYY k17 hu9 hcu An1
  obtain ⟨D, hD⟩ : ∃ D : Int, D = (q1.den : Int) := ⟨_, rfl⟩
  have hDr : ((D : Int) : Rat) ≠ 0 := by intro hh; rw [Rat.intCast_eq_zero_iff] at hh; omega
  have hYr : ((Y : Int) : Rat) ≠ 0 := by intro hh; rw [Rat.intCast_eq_zero_iff] at hh; omega
  have hlr : ((l : Int) : Rat) ≠ 0 := by intro hh; rw [Rat.intCast_eq_zero_iff] at hh; omega
  rw [← hD] at hYY hu9 hcu An1
  have eq1 : q1 = ((q1.num : Int) : Rat) / ((D : Int) : Rat) := by rw [hD]; exact (num_div q1).symm
  have hOD : 0 < D * Y := Int.mul_pos (by omega) hY0
  have tw1 : tw = ((q1.num * Y + Q * D : Int) : Rat) / ((D * Y : Int) : Rat) := by
    rw [htw, hE]
    conv => lhs; arg 1; rw [eq1]
    push_cast
    generalize ((q1.num : Int) : Rat) = xn at *
    generalize ((D : Int) : Rat) = DD at *
    generalize ((Y : Int) : Rat) = YY at *
    generalize ((Q : Int) : Rat) = QQ at *
    clear hE eq1
    grind
  have tw2 : tw = ((q1.num * l + Q : Int) : Rat) / ((l * D : Int) : Rat) := by
    rw [tw1, hYY]
    push_cast
    generalize ((q1.num : Int) : Rat) = xn at *
    generalize ((D : Int) : Rat) = DD at *
    generalize ((l : Int) : Rat) = LL at *
    generalize ((Q : Int) : Rat) = QQ at *
    clear hE eq1 tw1
    grind
  have hY1 : Y ≤ 12960000 := by rw [hYY]; exact Int.mul_le_mul (show l ≤ 3600 by omega) (show D ≤ 3600 by omega) (by omega) (by omega)
  have twd : (tw.den : Int) ≤ 12960000 := by
    have : (tw.den : Int) ≤ l * D := by rw [tw2]; exact den_le (by rw [← hYY]; exact hY0)
    omega
  have vtw : Vb tw 1570 (3600 * (3600 * 3600)) := by rw [htw]; exact vq1.add vq2
  have vlo := vtw.lo
  have vhi := vtw.hi
  have twp := tw.den_pos
  have cr : tw.num * (D * Y) = (q1.num * Y + Q * D) * tw.den := by rw [tw1]; exact div_cross _ hOD
  obtain ⟨own0, hown⟩ : ∃ o : Int, o = q1.num * Y + Q * D := ⟨_, rfl⟩
  rw [← hown] at cr
  have o1 : own0 ≤ 1570 * (D * Y) := by
    refine Int.le_of_mul_le_mul_right ?_ (show (0 : Int) < tw.den by omega)
    rw [← cr, Int.mul_right_comm]
    exact Int.mul_le_mul_of_nonneg_right vhi (by omega)
  have o2 : -1570 * (D * Y) ≤ own0 := by
    refine Int.le_of_mul_le_mul_right ?_ (show (0 : Int) < tw.den by omega)
    rw [← cr, Int.mul_right_comm]
    exact Int.mul_le_mul_of_nonneg_right vlo (by omega)
  obtain ⟨OD, hODD⟩ : ∃ o : Int, o = D * Y := ⟨_, rfl⟩
  rw [← hODD] at cr o1 o2 hOD
  have OD1 : OD ≤ 46656000000 := by rw [hODD]; exact Int.mul_le_mul (show D ≤ 3600 by omega) (show Y ≤ 12960000 by omega) (by omega) (by omega)
  have n1 := vq1.nab
  have xY : (q1.num * Y).natAbs ≤ 785 * 3600 * 12960000 := nab_mul n1 (by omega)
  have QD : Q * D = own0 - q1.num * Y := by omega
  have XD : X * D = u * Y + Q * D := by rw [hX, hYY]; grind
  have uY : (u * Y).natAbs ≤ 25920000 * 12960000 := nab_mul (by omega) (by omega)
  have AY : (at1.num * Y).natAbs ≤ 12960000 * 12960000 := nab_mul (by omega) (by omega)
  obtain ⟨ON, hON⟩ : ∃ o : Int, o = q1.num * Y + X * D - at1.num * Y := ⟨_, rfl⟩
  have hON2 : ON = own0 ∨ ON = own0 + 3600 * OD := by
    rw [hON, XD, QD]
    rcases hcu with e | e
    · left; rw [e]; omega
    · right; rw [e, Int.add_mul, hODD]; grind
  have w1 : wr .i64 (Int.mul q1.num Y) = q1.num * Y := smW (n := q1.num * Y) (by omega)
  have w2' : wr .i64 (Int.mul X (Int.ofNat q1.den)) = X * D := by rw [hD]; exact smW (n := X * (q1.den : Int)) (by rw [← hD]; omega)
  have w3 : wr .i64 (Int.add (q1.num * Y) (X * D)) = q1.num * Y + X * D := smW (n := q1.num * Y + X * D) (by omega)
  have w4 : wr .i64 (Int.mul at1.num Y) = at1.num * Y := smW (n := at1.num * Y) (by omega)
  have eON : wr .i64 (Int.sub (wr .i64 (Int.add (wr .i64 (Int.mul q1.num Y)) (wr .i64 (Int.mul X (Int.ofNat q1.den))))) (wr .i64 (Int.mul at1.num Y))) = ON := by rw [w1, w2', w3, w4, hON]; exact smW (n := q1.num * Y + X * D - at1.num * Y) (by omega)
  have eOD : wr .i64 (Int.mul (Int.ofNat q1.den) Y) = OD := by rw [hODD, hD]; exact smW (n := (q1.den : Int) * Y) (by rw [← hD, ← hODD]; omega)
  have w5 : wr .i64 (Int.mul 3600 (Int.ofNat q1.den)) = 3600 * D := by rw [hD]; exact smW (n := 3600 * (q1.den : Int)) (by omega)
  have w6 : wr .i64 (Int.mul m (Int.ofNat q1.den)) = m * D := by rw [hD]; exact mlW (A := 3600) (B := 3600) (by omega) (by show ((q1.den : Nat) : Int).natAbs ≤ 3600; omega) (by decide)
  have mD0 : 0 ≤ m * D ∧ m * D ≤ 3600 * D - D := ⟨Int.mul_nonneg (by omega) (by omega), by have : m * D ≤ 3599 * D := Int.mul_le_mul_of_nonneg_right (by omega) (by omega); omega⟩
  have qlo := vq1.lo
  have qhi := vq1.hi
  have w7 : wr .i64 (Int.add (m * D) q1.num) = t1.num := (smW (n := m * D + q1.num) (by omega)).trans (by rw [tn, hD]; omega)
  have tr : -(3600 * D) ≤ t1.num ∧ t1.num < 2 * (3600 * D) := by rw [tn, ← hD]; omega
  have w8 : wr .i64 (Int.add (Int.tmod t1.num (3600 * D)) (3600 * D)) = Int.tmod t1.num (3600 * D) + 3600 * D := by
    have q2' : -(3600 * D) < Int.tmod t1.num (3600 * D) := Int.lt_tmod_of_pos t1.num (by omega)
    have q3 : Int.tmod t1.num (3600 * D) < 3600 * D := Int.tmod_lt_of_pos t1.num (by omega)
    exact smW (n := Int.tmod t1.num (3600 * D) + 3600 * D) (by omega)
  have eAt : Int.tmod (wr .i64 (Int.add (Int.tmod (wr .i64 (Int.add (wr .i64 (Int.mul (Int.tmod (wr .i64 (Int.ofNat y)) 3600) (Int.ofNat q1.den))) q1.num)) (wr .i64 (Int.mul 3600 (Int.ofNat q1.den)))) (wr .i64 (Int.mul 3600 (Int.ofNat q1.den))))) (wr .i64 (Int.mul 3600 (Int.ofNat q1.den))) = at1.num := by
    rw [em2, w5, w6, w7, w8, bk_mod (by omega) tr.1 tr.2, bn, td, hD]
  have nzD : wr .i64 (Int.mul 3600 (Int.ofNat q1.den)) ≠ 0 := by rw [w5]; omega
  have nzO : OD ≠ 0 := by omega
  have nzT : Int.ofNat tw.den ≠ 0 := by show (tw.den : Int) ≠ 0; omega
  have c1 : iLt (Int.ofNat k2) 0 = false := iLt_0 k2
  have c2' : iLt (Int.ofNat tw.den) 1 = false := ltF (by show (1 : Int) ≤ (tw.den : Int); omega)
  have c3 : iLt 67108864 (Int.ofNat tw.den) = false := ltF (by show (tw.den : Int) ≤ 67108864; omega)
  have c4 : iLt 274877906944 tw.num = false := ltF (by omega)
  have c5 : iLt tw.num (-274877906944) = false := ltF (by omega)
  have w9 : wr .i64 (Int.mul 1800 OD) = 1800 * OD := smW (n := 1800 * OD) (by omega)
  have w10 : wr .i64 (Int.mul 3600 OD) = 3600 * OD := smW (n := 3600 * OD) (by omega)
  have fin : ∀ O : Int, O = own0 → iEq (wr .i64 (Int.tdiv O OD)) (wr .i64 (Int.tdiv tw.num (Int.ofNat tw.den))) = true ∧ iEq (wr .i64 (Int.mul (Int.tmod O OD) (Int.ofNat tw.den))) (wr .i64 (Int.mul (Int.tmod tw.num (Int.ofNat tw.den)) OD)) = true := by
    rintro O rfl
    obtain ⟨s1, s2⟩ := same_frac (a := O) (b := OD) (c := tw.num) (d := (tw.den : Int)) hOD (by omega) cr.symm
    have r1 : (Int.tmod O OD).natAbs ≤ 46656000000 := by
      have := Int.lt_tmod_of_pos O hOD
      have := Int.tmod_lt_of_pos O hOD
      omega
    have r2 : (Int.tmod tw.num (tw.den : Int)).natAbs ≤ 12960000 := by
      have := Int.lt_tmod_of_pos tw.num (show (0 : Int) < tw.den by omega)
      have := Int.tmod_lt_of_pos tw.num (show (0 : Int) < tw.den by omega)
      omega
    constructor
    · rw [s1]; exact iEq_self _
    · rw [show wr .i64 (Int.mul (Int.tmod O OD) (Int.ofNat tw.den)) = Int.tmod O OD * (tw.den : Int) from mlW (B := 12960000) r1 (by show ((tw.den : Nat) : Int).natAbs ≤ _; omega) (by decide), show wr .i64 (Int.mul (Int.tmod tw.num (Int.ofNat tw.den)) OD) = Int.tmod tw.num (tw.den : Int) * OD from mlW (B := 46656000000) r2 (by omega) (by decide), s2]
      exact iEq_self _
  intro R
  rw [show 100000000 + 900 = (100000000) + 900 from rfl, addL_eq, ← Nat.add_assoc, ← addL_eq _ 900, Nat.add_comm R (100000000)]
  have v0 : Vb ((0 : Int) : Rat) 0 1 := Vb.int (V := 0) (by omega)
  have hq0 : q1 = ((0 : Int) : Rat) + q1 := by rw [show ((0 : Int) : Rat) = 0 from rfl, Rat.zero_add]
  have z1 : iEq 0 0 = true := iEq_self _
  have k50 := c50 F (d + 6) m
  rw [decide_eq_true hm, ← em2] at k50
  refine call_in (n := 187) Try.func7 rfl rfl rfl rfl rfl rfl rfl ?_
  repeat' ((conv => whnf); first | refine eqS_rfl ?_ | refine eqA_rfl ?_ | refine eqA_of (by assumption) ?_ | refine eqS_of (by rfl) ?_ | refine eqL_rfl ?_ | refine eqJ_rfl ?_ | refine gE ?_ | refine seS_rfl ?_ | refine lsS_of hup ?_ | refine lsS_rfl ?_ | refine brS_tt ?_ | refine brS_ff ?_ | refine brS_not ?_ | refine gI ?_ | refine gT ?_ | refine gF ?_ | refine brS_intro (fun _ => ?_) (fun _ => ?_) | refine gL ?_ | refine gX ?_ | refine gO ?_ | refine gN ?_ | refine call11 F _ hF 600 a N e c p0 p1 w hp0 hp1 hw n h dv en eh ed (addL (95000000 + R) 900) (by rfl) (by exact SeesM.cons 1000 (sees_ro (i := 1000) (by rfl)) (SeesM.nil _) (fun _ _ _ _ _ _ x hx => by cases hx)) (nM1) ?_ | refine call11 F _ hF 601 a2 N2 e2 c2 p2 p3 w2 hp2 hp3 hw2 n2 h2 d2 en2 eh2 ed2 (addL (90000000 + R) 900) (by rfl) (by exact SeesM.cons 1000 (sees_ro (i := 1001) (by rfl)) (SeesM.nil _) (fun _ _ _ _ _ _ x hx => by cases hx)) (nM1) ?_ | refine call_readL (c24 F d hF _ n 0 n h dv hv m hm q1 k hs1 hq1) (addL (80000000 + R) 900) (by rw [em2]; rfl) (by exact SeesM.cons 1000 (sees_gr (i := 600) (by rfl)) (SeesM.nil _) (fun _ _ _ _ _ _ x hx => by cases hx)) (nM1) ?_ | refine call_in (n := 63) Try.func23 rfl rfl rfl rfl rfl rfl rfl ?_ | refine call_in (n := 12) Try.func49 rfl rfl rfl rfl rfl rfl rfl ?_ | refine loS_u 4 (by omega) ?_ | refine call_readL (c22 F (d + 5) (by omega) _ n 0 n h dv hv) (addL (59000000 + R) 900) (by rfl) (by exact SeesM.cons 1000 (sees_gr (i := 600) (by rfl)) (SeesM.nil _) (fun _ _ _ _ _ _ x hx => by cases hx)) (nM1) ?_ | refine call_pure k50 ?_ | refine call_pure (c53 F _ m _ em2) ?_ | refine call_readL (c54u F d hF _ n 0 n h dv hv (m : Rat) vm g1 g2 k hs1 q1 hq1) (addL (54500000 + R) 900) (by rfl) (by exact SeesM.cons 1000 (sees_gr (i := 600) (by rfl)) (SeesM.nil _) (fun _ _ _ _ _ _ x hx => by cases hx)) (nM1) ?_ | refine call_readL (c55a F (d + 4) hF (m : Rat) q1 t1 ht1 1 3600 3600 785 v1 vq1 (by decide) (by decide) _ 1 0) (addL (54400000 + R) 900) (by rfl) (by exact SeesM.cons 1000 (SeesE.ro_congr (g := fun _ => [.int .i64 (q1).num, .int .i64 (Int.ofNat (q1).den)]) (sees_own (i := 9) (n := 1) (o := 0) (sz := 2) (c := 0) (by rfl) (by exact Nat.le_refl 2)) (fun j hj => by match j, hj with | 0, _ => rfl | j + 1, hj => exact absurd hj (by omega))) (SeesM.nil _) (fun _ _ _ _ _ _ x hx => by cases hx)) (nM1) ?_ | refine call_pure (c56 F _ t1 at1 hat 7200 3600 vt1 (by decide) (by decide)) ?_ | refine call_pure (c53 F _ 0 _ rfl) ?_ | refine call_readL (c55a F (d + 4) hF ((0 : Int) : Rat) q1 q1 hq0 1 3600 0 785 v0 vq1 (by decide) (by decide) _ 1 0) (addL (54000000 + R) 900) (by rfl) (by exact SeesM.cons 1000 (SeesE.ro_congr (g := fun _ => [.int .i64 (q1).num, .int .i64 (Int.ofNat (q1).den)]) (sees_gr (i := 8) (n := 1) (e := 81) (sz := 2) (c' := 0) (by rfl)) (fun j hj => by match j, hj with | 0, _ => rfl | j + 1, hj => exact absurd hj (by omega))) (SeesM.nil _) (fun _ _ _ _ _ _ x hx => by cases hx)) (nM1) ?_ | intro _)
  have z0 : iEq 0 0 = true := iEq_self _
  rcases hON2 with hO | hO
  · obtain ⟨f1, f2⟩ := fin ON hO
    have c6 : iLt ON (wr .i64 (Int.mul 1800 OD)) = true := by rw [w9]; exact ltT (by omega)
    repeat' ((conv => whnf); first | refine eqS_rfl ?_ | refine eqA_rfl ?_ | refine eqA_of (by assumption) ?_ | refine eqS_of (by rfl) ?_ | refine eqL_rfl ?_ | refine eqJ_rfl ?_ | refine gE ?_ | refine seS_rfl ?_ | refine lsS_of hup ?_ | refine lsS_rfl ?_ | refine brS_tt ?_ | refine brS_ff ?_ | refine brS_not ?_ | refine gI ?_ | refine gT ?_ | refine gF ?_ | refine brS_intro (fun _ => ?_) (fun _ => ?_) | refine gL ?_ | refine gX ?_ | refine gO ?_ | refine gN ?_ | refine loS_u 4 (by omega) ?_ | refine call_readL (c22 F (d + 5) (by omega) _ n 0 n h dv hv) (addL (53000000 + R) 900) (by rfl) (by exact SeesM.cons 1000 (sees_gr (i := 600) (by rfl)) (SeesM.nil _) (fun _ _ _ _ _ _ x hx => by cases hx)) (nM1) ?_ | refine call_readL (c22 F (d + 5) (by omega) _ n2 0 n2 h2 d2 hv2) (addL (52000000 + R) 900) (by rfl) (by exact SeesM.cons 1000 (sees_gr (i := 601) (by rfl)) (SeesM.nil _) (fun _ _ _ _ _ _ x hx => by cases hx)) (nM1) ?_ | refine call_pure k50 ?_ | refine call_pure (c53 F _ m _ em2) ?_ | refine call_readL (c54u F d hF _ n 0 n h dv hv (m : Rat) vm g1 g2 k hs1 q1 hq1) (addL (47000000 + R) 900) (by rfl) (by exact SeesM.cons 1000 (sees_gr (i := 600) (by rfl)) (SeesM.nil _) (fun _ _ _ _ _ _ x hx => by cases hx)) (nM1) ?_ | refine call_readL (c55a F (d + 4) hF (m : Rat) q1 t1 ht1 1 3600 3600 785 v1 vq1 (by decide) (by decide) _ 1 0) (addL (46900000 + R) 900) (by rfl) (by exact SeesM.cons 1000 (SeesE.ro_congr (g := fun _ => [.int .i64 (q1).num, .int .i64 (Int.ofNat (q1).den)]) (sees_own (i := 17) (n := 1) (o := 0) (sz := 2) (c := 0) (by rfl) (by exact Nat.le_refl 2)) (fun j hj => by match j, hj with | 0, _ => rfl | j + 1, hj => exact absurd hj (by omega))) (SeesM.nil _) (fun _ _ _ _ _ _ x hx => by cases hx)) (nM1) ?_ | refine call_pure (c56 F _ t1 at1 hat 7200 3600 vt1 (by decide) (by decide)) ?_ | refine call_readL (c54u F d hF _ n2 0 n2 h2 d2 hv2 at1 (vat.mono (by decide) (by decide)) hat2.1 hat2.2 k2 hs2 q2 hq2) (addL (42000000 + R) 900) (by rfl) (by exact SeesM.cons 1000 (sees_gr (i := 601) (by rfl)) (SeesM.nil _) (fun _ _ _ _ _ _ x hx => by cases hx)) (nM1) ?_ | refine call_readL (c55a F (d + 4) hF at1 q2 t2 ht2 3600 12960000 3600 785 vat vq2 (by decide) (by decide) _ 1 0) (addL (41900000 + R) 900) (by rfl) (by exact SeesM.cons 1000 (SeesE.ro_congr (g := fun _ => [.int .i64 (q2).num, .int .i64 (Int.ofNat (q2).den)]) (sees_own (i := 21) (n := 1) (o := 0) (sz := 2) (c := 0) (by rfl) (by exact Nat.le_refl 2)) (fun j hj => by match j, hj with | 0, _ => rfl | j + 1, hj => exact absurd hj (by omega))) (SeesM.nil _) (fun _ _ _ _ _ _ x hx => by cases hx)) (nM1) ?_ | refine call_pure (c56 F _ t2 b2 hb2' 7200 46656000000 vt2 (by decide) (by decide)) ?_ | refine call_pure (c53 F _ 0 _ rfl) ?_ | refine call_readL (c55w F (d + 4) hF 2 (by omega) (S22 ((0 : Int) : Rat) q1 tw) (g22 q1 q2) _ 2 0 tw rfl (fun z hz => by match z, hz with | 0, _ => exact hq0 | 1, _ => exact htw | z + 2, hz => exact absurd hz (by omega)) 3600 12960000 785 785 (fun z hz => by match z, hz with | 0, _ => exact v0.mono (by decide) (by decide) | 1, _ => exact vq1 | z + 2, hz => exact absurd hz (by omega)) (fun z hz => by match z, hz with | 0, _ => exact vq1.mono (by decide) (by decide) | 1, _ => exact vq2 | z + 2, hz => exact absurd hz (by omega)) (by decide) (by decide)) (addL (41000000 + R) 900) (by rfl) (by exact SeesM.cons 1000 (SeesE.ro_congr (g := fun j => [.int .i64 (g22 q1 q2 j).num, .int .i64 (Int.ofNat (g22 q1 q2 j).den)]) (sees_gr (i := 20) (n := 2) (e := 81) (sz := 2) (c' := 0) (by rfl)) (fun j hj => by match j, hj with | 0, _ => rfl | 1, _ => rfl | j + 2, hj => exact absurd hj (by omega))) (SeesM.nil _) (fun _ _ _ _ _ _ x hx => by cases hx)) (nM1) ?_ | refine agS.mk (by kernel_rfl) ?_ | refine eqvS_of (eq42t _ _) ?_ | refine call_pure k27 ?_ | refine call_pure (c25e F _ at1.num (Int.ofNat q1.den) _ _ eAt rfl) ?_ | refine call_pure (c25e F _ ON OD _ _ eON eOD) ?_ | refine call_readL (k17 _) (addL (40000000 + R) 900) (by rfl) (by exact SeesM.cons 1000 (sees_gr (i := 601) (by rfl)) (SeesM.nil _) (fun _ _ _ _ _ _ x hx => by cases hx)) (nM1) ?_ | refine nzS_intro nzD ?_ | refine nzS_intro nzO ?_ | refine nzS_intro nzT ?_ | refine call_w rfl ?_ | intro _)
    conv => whnf
    exact ⟨rfl, nM1⟩
  · have e9 : wr .i64 (Int.sub ON (wr .i64 (Int.mul 3600 OD))) = own0 := by rw [w10]; exact (smW (n := ON - 3600 * OD) (by omega)).trans (by omega)
    obtain ⟨f1, f2⟩ := fin _ e9
    have c6 : iLt ON (wr .i64 (Int.mul 1800 OD)) = false := by rw [w9]; exact ltF (by omega)
    repeat' ((conv => whnf); first | refine eqS_rfl ?_ | refine eqA_rfl ?_ | refine eqA_of (by assumption) ?_ | refine eqS_of (by rfl) ?_ | refine eqL_rfl ?_ | refine eqJ_rfl ?_ | refine gE ?_ | refine seS_rfl ?_ | refine lsS_of hup ?_ | refine lsS_rfl ?_ | refine brS_tt ?_ | refine brS_ff ?_ | refine brS_not ?_ | refine gI ?_ | refine gT ?_ | refine gF ?_ | refine brS_intro (fun _ => ?_) (fun _ => ?_) | refine gL ?_ | refine gX ?_ | refine gO ?_ | refine gN ?_ | refine loS_u 4 (by omega) ?_ | refine call_readL (c22 F (d + 5) (by omega) _ n 0 n h dv hv) (addL (53000000 + R) 900) (by rfl) (by exact SeesM.cons 1000 (sees_gr (i := 600) (by rfl)) (SeesM.nil _) (fun _ _ _ _ _ _ x hx => by cases hx)) (nM1) ?_ | refine call_readL (c22 F (d + 5) (by omega) _ n2 0 n2 h2 d2 hv2) (addL (52000000 + R) 900) (by rfl) (by exact SeesM.cons 1000 (sees_gr (i := 601) (by rfl)) (SeesM.nil _) (fun _ _ _ _ _ _ x hx => by cases hx)) (nM1) ?_ | refine call_pure k50 ?_ | refine call_pure (c53 F _ m _ em2) ?_ | refine call_readL (c54u F d hF _ n 0 n h dv hv (m : Rat) vm g1 g2 k hs1 q1 hq1) (addL (47000000 + R) 900) (by rfl) (by exact SeesM.cons 1000 (sees_gr (i := 600) (by rfl)) (SeesM.nil _) (fun _ _ _ _ _ _ x hx => by cases hx)) (nM1) ?_ | refine call_readL (c55a F (d + 4) hF (m : Rat) q1 t1 ht1 1 3600 3600 785 v1 vq1 (by decide) (by decide) _ 1 0) (addL (46900000 + R) 900) (by rfl) (by exact SeesM.cons 1000 (SeesE.ro_congr (g := fun _ => [.int .i64 (q1).num, .int .i64 (Int.ofNat (q1).den)]) (sees_own (i := 17) (n := 1) (o := 0) (sz := 2) (c := 0) (by rfl) (by exact Nat.le_refl 2)) (fun j hj => by match j, hj with | 0, _ => rfl | j + 1, hj => exact absurd hj (by omega))) (SeesM.nil _) (fun _ _ _ _ _ _ x hx => by cases hx)) (nM1) ?_ | refine call_pure (c56 F _ t1 at1 hat 7200 3600 vt1 (by decide) (by decide)) ?_ | refine call_readL (c54u F d hF _ n2 0 n2 h2 d2 hv2 at1 (vat.mono (by decide) (by decide)) hat2.1 hat2.2 k2 hs2 q2 hq2) (addL (42000000 + R) 900) (by rfl) (by exact SeesM.cons 1000 (sees_gr (i := 601) (by rfl)) (SeesM.nil _) (fun _ _ _ _ _ _ x hx => by cases hx)) (nM1) ?_ | refine call_readL (c55a F (d + 4) hF at1 q2 t2 ht2 3600 12960000 3600 785 vat vq2 (by decide) (by decide) _ 1 0) (addL (41900000 + R) 900) (by rfl) (by exact SeesM.cons 1000 (SeesE.ro_congr (g := fun _ => [.int .i64 (q2).num, .int .i64 (Int.ofNat (q2).den)]) (sees_own (i := 21) (n := 1) (o := 0) (sz := 2) (c := 0) (by rfl) (by exact Nat.le_refl 2)) (fun j hj => by match j, hj with | 0, _ => rfl | j + 1, hj => exact absurd hj (by omega))) (SeesM.nil _) (fun _ _ _ _ _ _ x hx => by cases hx)) (nM1) ?_ | refine call_pure (c56 F _ t2 b2 hb2' 7200 46656000000 vt2 (by decide) (by decide)) ?_ | refine call_pure (c53 F _ 0 _ rfl) ?_ | refine call_readL (c55w F (d + 4) hF 2 (by omega) (S22 ((0 : Int) : Rat) q1 tw) (g22 q1 q2) _ 2 0 tw rfl (fun z hz => by match z, hz with | 0, _ => exact hq0 | 1, _ => exact htw | z + 2, hz => exact absurd hz (by omega)) 3600 12960000 785 785 (fun z hz => by match z, hz with | 0, _ => exact v0.mono (by decide) (by decide) | 1, _ => exact vq1 | z + 2, hz => exact absurd hz (by omega)) (fun z hz => by match z, hz with | 0, _ => exact vq1.mono (by decide) (by decide) | 1, _ => exact vq2 | z + 2, hz => exact absurd hz (by omega)) (by decide) (by decide)) (addL (41000000 + R) 900) (by rfl) (by exact SeesM.cons 1000 (SeesE.ro_congr (g := fun j => [.int .i64 (g22 q1 q2 j).num, .int .i64 (Int.ofNat (g22 q1 q2 j).den)]) (sees_gr (i := 20) (n := 2) (e := 81) (sz := 2) (c' := 0) (by rfl)) (fun j hj => by match j, hj with | 0, _ => rfl | 1, _ => rfl | j + 2, hj => exact absurd hj (by omega))) (SeesM.nil _) (fun _ _ _ _ _ _ x hx => by cases hx)) (nM1) ?_ | refine agS.mk (by kernel_rfl) ?_ | refine eqvS_of (eq42t _ _) ?_ | refine call_pure k27 ?_ | refine call_pure (c25e F _ at1.num (Int.ofNat q1.den) _ _ eAt rfl) ?_ | refine call_pure (c25e F _ ON OD _ _ eON eOD) ?_ | refine call_readL (k17 _) (addL (40000000 + R) 900) (by rfl) (by exact SeesM.cons 1000 (sees_gr (i := 601) (by rfl)) (SeesM.nil _) (fun _ _ _ _ _ _ x hx => by cases hx)) (nM1) ?_ | refine nzS_intro nzD ?_ | refine nzS_intro nzO ?_ | refine nzS_intro nzT ?_ | refine call_w rfl ?_ | intro _)
    conv => whnf
    exact ⟨rfl, nM1⟩
end Go.Proofs.Ytogncjicndbahaa
