/- CardAllowed: the law. -/
import Derived.Test.YtogncjicndbahaaCdW
import Derived.KernelRfl
namespace Go.Proofs.Ytogncjicndbahaa
open Go.Ab
attribute [local irreducible] aggOk drwOK
set_option maxRecDepth 100000
set_option maxHeartbeats 4000000
set_option linter.unusedVariables false
set_option linter.unusedSimpArgs false
theorem c18e (F d : Nat) (x y t x' y' t' : Int) (ex : x' = x) (ey : y' = y) (et : t' = t) (hy : 0 < y ∧ y ≤ 100000000000000) (hx : x.natAbs ≤ 1000000000000000000) (ht : t.natAbs ≤ 4000) (hd : 3600 * y ∣ x - t * y) : PureC (CL F (d + 1)) 18 [.agg [.int .i64 x', .int .i64 y'], .int .i64 t'] 40 (.bool true) := by
  subst ex ey et
  have := c18 F d x' y' t' hy hx ht
  rw [decide_eq_true hd] at this
  exact this
theorem sum_num {x q : Rat} {z : Int} (h : x + q = (z : Rat)) : x.num * q.den + q.num * x.den = z * (x.den * q.den) := by
  have h1 := rat_num x
  have h2 := rat_num q
  have e : (x.num : Rat) * (q.den : Rat) + (q.num : Rat) * (x.den : Rat) = (z : Rat) * ((x.den : Rat) * (q.den : Rat)) := by
    rw [← h, h1, h2]; grind
  exact_mod_cast e
theorem l6 (F d : Nat) (hF : 300 < F) (a : Option Addr) (N e c : Nat) (p0 p1 : Nat → Nat) (w : Nat) (hp0 : ∀ j, p0 j < 65536) (hp1 : ∀ j, p1 j < 65536) (hw : w < 256) (y : Nat) (hy : y < 65536) : ReadC (CL F (d + 11)) 6 [.agg [.sl 1000 a N c, .int .u8 (Int.ofNat w)], .int .u16 (Int.ofNat y)] [(1000, .ro a N e 2 fun j => [.int .u16 (Int.ofNat (p0 j)), .int .u16 (Int.ofNat (p1 j))])] (100000000 + 900) (.bool true) := by
  obtain ⟨n, en⟩ : ∃ n, n = rN N := ⟨_, rfl⟩
  obtain ⟨h, eh⟩ : ∃ h, h = rH N p0 := ⟨_, rfl⟩
  obtain ⟨dv, ed⟩ : ∃ dv, dv = rD N p1 w := ⟨_, rfl⟩
  have hv : VC n h dv := by rw [en, eh, ed]; exact rVC N p0 p1 w hw
  have hn5 : n ≤ 5 := by rw [en]; unfold rN; split <;> omega
  have hn0 := hv.n0
  obtain ⟨m, em⟩ : ∃ m : Int, m = ((y % 3600 : Nat) : Int) := ⟨_, rfl⟩
  have hm : 0 ≤ m ∧ m < 3600 := by rw [em]; have := Nat.mod_lt y (show 0 < 3600 by omega); omega
  have em2 : Int.tmod (wr .i64 (Int.ofNat y)) 3600 = m := by rw [smn (i := y) (by omega), em]; exact tmN y 3600
  have h12 : (csA n h dv m n).length ≤ 12 := by have := csA_len n h dv m n; omega
  intro R
  rw [show 100000000 + 900 = (100000000) + 900 from rfl, addL_eq, ← Nat.add_assoc, ← addL_eq _ 900, Nat.add_comm R (100000000)]
  have z1 : iEq 0 0 = true := iEq_self _
  have z2 : iEq 21 21 = true := iEq_self _
  by_cases hs : ∀ k, k < n → 0 < rs n h dv k
  · obtain ⟨x, k, hx, hA, v1, v2, v3⟩ := alw_ex hv hm hs
    obtain ⟨q, hq⟩ : ∃ q, q = dvU n h dv x k := ⟨_, rfl⟩
    rw [← hq] at hA
    have hst := snd_st (m := m) hs
    have k16 := c16 F (d + 9) x v1 v2 v3
    have k27 := c27 F (d + 9) q hA.vq
    have xd := x.den_pos
    have qd := q.den_pos
    have xd2 := v1.d
    have qd2 := hA.vq.d
    have t1 : iEq (Int.ofNat [x].length) 1 = true := rfl
    obtain ⟨z, hz⟩ := hA.e
    have hZ := sum_num hz
    obtain ⟨Y, hY⟩ : ∃ Y : Int, Y = (x.den : Int) * q.den := ⟨_, rfl⟩
    obtain ⟨Z, hZZ⟩ : ∃ Z : Int, Z = x.num * q.den + q.num * x.den := ⟨_, rfl⟩
    rw [← hZZ, ← hY] at hZ
    have m1 := mlZ (a := x.num) (b := q.den) (B := 3600 * 6000 * 6000) (by decide) (Nat.mul_le_mul v1.nab hA.vq.d)
    have m2 := mlZ (a := q.num) (b := x.den) (B := 900 * 6000 * 6000) (by decide) (Nat.mul_le_mul hA.vq.nab v1.d)
    have m3 := mlN (a := x.den) (b := q.den) (Nat.le_trans (Nat.mul_le_mul v1.d hA.vq.d) (by decide))
    have m4 : (x.num * (q.den : Int)).natAbs ≤ 3600 * 6000 * 6000 := by rw [Int.natAbs_mul]; exact Nat.mul_le_mul v1.nab hA.vq.d
    have m5 : (q.num * (x.den : Int)).natAbs ≤ 900 * 6000 * 6000 := by rw [Int.natAbs_mul]; exact Nat.mul_le_mul hA.vq.nab v1.d
    have m6 : x.den * q.den ≤ 6000 * 6000 := Nat.mul_le_mul v1.d hA.vq.d
    have eZ : wr .i64 (Int.add (wr .i64 (Int.mul x.num (Int.ofNat q.den))) (wr .i64 (Int.mul q.num (Int.ofNat x.den)))) = Z := by rw [m1, m2, hZZ]; exact smW (n := x.num * (q.den : Int) + q.num * (x.den : Int)) (by omega)
    have eY : wr .i64 (Int.mul (Int.ofNat x.den) (Int.ofNat q.den)) = Y := by rw [m3, hY]; exact (by push_cast; rfl)
    have Y0 : 0 < Y := by rw [hY]; exact Int.mul_pos (by omega) (by omega)
    have Y1 : Y ≤ 100000000000000 := by
      have e : Y = ((x.den * q.den : Nat) : Int) := by rw [hY]; push_cast; rfl
      omega
    have Z1 : Z.natAbs ≤ 1000000000000000000 := by rw [hZZ]; omega
    have hdv : 3600 * Y ∣ Z - m * Y := ⟨z, by rw [hZ]; grind⟩
    refine call_in (n := 87) Try.func6 rfl rfl rfl rfl rfl rfl rfl ?_
    repeat' ((conv => whnf); first | refine eqS_rfl ?_ | refine eqA_rfl ?_ | refine eqA_of (by assumption) ?_ | refine eqS_of (by rfl) ?_ | refine eqL_rfl ?_ | refine eqJ_rfl ?_ | refine gE ?_ | refine seS_rfl ?_ | refine lsS_of hup ?_ | refine lsS_rfl ?_ | refine brS_tt ?_ | refine brS_ff ?_ | refine brS_not ?_ | refine gI ?_ | refine gT ?_ | refine gF ?_ | refine brS_intro (fun _ => ?_) (fun _ => ?_) | refine gL ?_ | refine gX ?_ | refine gO ?_ | refine gN ?_ | refine call11 F _ hF 600 a N e c p0 p1 w hp0 hp1 hw n h dv en eh ed (addL (90000000 + R) 900) (by rfl) (by exact SeesM.cons 1000 (sees_ro (i := 1000) (by rfl)) (SeesM.nil _) (fun _ _ _ _ _ _ x hx => by cases hx)) (nM1) ?_ | refine call_readL (c21 F d hF _ n 0 n h dv hv m hm x q k hs hx hA v1 v2 v3) (addL (45000000 + R) 900) (by rw [em2]; rfl) (by exact SeesM.cons 1000 (sees_gr (i := 600) (by rfl)) (SeesM.nil _) (fun _ _ _ _ _ _ x hx => by cases hx)) (nM1) ?_ | intro _)
    conv => whnf
    refine call12 F (d + 1) hF 602 _ n 0 n h dv hv m hm hst h12 (addL (200000 + R) 900) (by rw [em2]; rfl) (by exact SeesM.cons 1000 (sees_gr (i := 600) (by rfl)) (SeesM.nil _) (fun _ _ _ _ _ _ x hx => by cases hx)) (nM1) ?_
    intro aL L2 hp hS
    rw [hx] at hp
    obtain rfl := perm_one hp
    repeat' ((conv => whnf); first | refine eqS_rfl ?_ | refine eqA_rfl ?_ | refine eqA_of (by assumption) ?_ | refine eqS_of (by rfl) ?_ | refine eqL_rfl ?_ | refine eqJ_rfl ?_ | refine gE ?_ | refine seS_rfl ?_ | refine lsS_of hup ?_ | refine lsS_rfl ?_ | refine brS_tt ?_ | refine brS_ff ?_ | refine brS_not ?_ | refine gI ?_ | refine gT ?_ | refine gF ?_ | refine brS_intro (fun _ => ?_) (fun _ => ?_) | refine gL ?_ | refine gX ?_ | refine gO ?_ | refine gN ?_ | refine call_readL (c20 F (d + 8) hF _ n 0 n h dv hv true ⟨fun _ => hs, fun _ => rfl⟩) (addL (2000 + R) 900) (by rfl) (by exact SeesM.cons 1000 (sees_gr (i := 600) (by rfl)) (SeesM.nil _) (fun _ _ _ _ _ _ x hx => by cases hx)) (nM1) ?_ | refine call_pure k16 ?_ | refine call_pure k27 ?_ | refine ixS_of (q := 0) rfl (by exact Nat.succ_pos _) ?_ | refine call_pure (c25 F _ _ _) ?_ | refine call_pure (c18e F (d + 9) Z Y m _ _ _ eZ eY em2 ⟨Y0, Y1⟩ Z1 (by omega) hdv) ?_ | refine call_w rfl ?_ | intro _)
    conv => whnf
    exact ⟨rfl, nM1⟩
  · by_cases hst : ∃ k, k < n ∧ stK n h dv m k
    · skip
      refine call_in (n := 87) Try.func6 rfl rfl rfl rfl rfl rfl rfl ?_
      repeat' ((conv => whnf); first | refine eqS_rfl ?_ | refine eqA_rfl ?_ | refine eqA_of (by assumption) ?_ | refine eqS_of (by rfl) ?_ | refine eqL_rfl ?_ | refine eqJ_rfl ?_ | refine gE ?_ | refine seS_rfl ?_ | refine lsS_of hup ?_ | refine lsS_rfl ?_ | refine brS_tt ?_ | refine brS_ff ?_ | refine brS_not ?_ | refine gI ?_ | refine gT ?_ | refine gF ?_ | refine brS_intro (fun _ => ?_) (fun _ => ?_) | refine gL ?_ | refine gX ?_ | refine gO ?_ | refine gN ?_ | refine call11 F _ hF 600 a N e c p0 p1 w hp0 hp1 hw n h dv en eh ed (addL (90000000 + R) 900) (by rfl) (by exact SeesM.cons 1000 (sees_ro (i := 1000) (by rfl)) (SeesM.nil _) (fun _ _ _ _ _ _ x hx => by cases hx)) (nM1) ?_ | refine call_readL (c21f F d hF _ n 0 n h dv hv m hm hs) (addL (45000000 + R) 900) (by rw [em2]; rfl) (by exact SeesM.cons 1000 (sees_gr (i := 600) (by rfl)) (SeesM.nil _) (fun _ _ _ _ _ _ x hx => by cases hx)) (nM1) ?_ | refine call_readL (c12s F (d + 1) hF _ n 0 n h dv hv m hm hst) (addL (200000 + R) 900) (by rw [em2]; rfl) (by exact SeesM.cons 1000 (sees_gr (i := 600) (by rfl)) (SeesM.nil _) (fun _ _ _ _ _ _ x hx => by cases hx)) (nM1) ?_ | refine call_readL (c20 F (d + 8) hF _ n 0 n h dv hv false ⟨fun h9 => absurd h9 (by decide), fun h9 => absurd h9 hs⟩) (addL (2000 + R) 900) (by rfl) (by exact SeesM.cons 1000 (sees_gr (i := 600) (by rfl)) (SeesM.nil _) (fun _ _ _ _ _ _ x hx => by cases hx)) (nM1) ?_ | refine call_w rfl ?_ | intro _)
      conv => whnf
      exact ⟨rfl, nM1⟩
    · skip
      refine call_in (n := 87) Try.func6 rfl rfl rfl rfl rfl rfl rfl ?_
      repeat' ((conv => whnf); first | refine eqS_rfl ?_ | refine eqA_rfl ?_ | refine eqA_of (by assumption) ?_ | refine eqS_of (by rfl) ?_ | refine eqL_rfl ?_ | refine eqJ_rfl ?_ | refine gE ?_ | refine seS_rfl ?_ | refine lsS_of hup ?_ | refine lsS_rfl ?_ | refine brS_tt ?_ | refine brS_ff ?_ | refine brS_not ?_ | refine gI ?_ | refine gT ?_ | refine gF ?_ | refine brS_intro (fun _ => ?_) (fun _ => ?_) | refine gL ?_ | refine gX ?_ | refine gO ?_ | refine gN ?_ | refine call11 F _ hF 600 a N e c p0 p1 w hp0 hp1 hw n h dv en eh ed (addL (90000000 + R) 900) (by rfl) (by exact SeesM.cons 1000 (sees_ro (i := 1000) (by rfl)) (SeesM.nil _) (fun _ _ _ _ _ _ x hx => by cases hx)) (nM1) ?_ | refine call_readL (c21f F d hF _ n 0 n h dv hv m hm hs) (addL (45000000 + R) 900) (by rw [em2]; rfl) (by exact SeesM.cons 1000 (sees_gr (i := 600) (by rfl)) (SeesM.nil _) (fun _ _ _ _ _ _ x hx => by cases hx)) (nM1) ?_ | refine call12 F (d + 1) hF 602 _ n 0 n h dv hv m hm hst h12 (addL (200000 + R) 900) (by rw [em2]; rfl) (by exact SeesM.cons 1000 (sees_gr (i := 600) (by rfl)) (SeesM.nil _) (fun _ _ _ _ _ _ x hx => by cases hx)) (nM1) ?_ | refine call_readL (c20 F (d + 8) hF _ n 0 n h dv hv false ⟨fun h9 => absurd h9 (by decide), fun h9 => absurd h9 hs⟩) (addL (2000 + R) 900) (by rfl) (by exact SeesM.cons 1000 (sees_gr (i := 600) (by rfl)) (SeesM.nil _) (fun _ _ _ _ _ _ x hx => by cases hx)) (nM1) ?_ | refine call_w rfl ?_ | intro _)
      conv => whnf
      exact ⟨rfl, nM1⟩
end Go.Proofs.Ytogncjicndbahaa
