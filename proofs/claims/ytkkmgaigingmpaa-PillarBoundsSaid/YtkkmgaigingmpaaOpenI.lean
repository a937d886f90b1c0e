/- Open runs: divisors and fractions. -/
import Derived.Test.YtkkmgaigingmpaaOpenH
namespace Go.Proofs.Ytkkmgaigingmpaa
open Go.Ab
attribute [local irreducible] iLt iEq wr runLoop ld1 ldN callF Ab.stN Ab.st1
set_option maxRecDepth 100000
set_option maxHeartbeats 4000000

def sm (a : Int) : Prop := -9223372036854775808 < a ∧ a < 9223372036854775808
def dv (a b : Int) : Int := Int.ofNat (Nat.gcd a.natAbs b.natAbs)
theorem neg_wrap {a : Int} (h : sm a) : IntKind.i64.wrap (0 - a) = -a := by
  rw [Int.zero_sub]
  exact IntWalk.i64_in _ ⟨by have := h.2; show (-9223372036854775808 : Int) ≤ -a; omega, by have := h.1; show -a ≤ (9223372036854775807 : Int); omega⟩
theorem mx_abs {a : Int} (h : sm a) : mx a (IntKind.i64.wrap (0 - a)) = Int.ofNat a.natAbs := by
  rw [neg_wrap h]
  unfold mx
  cases hl : iLt a (-a) with
  | true => have := iLt_true hl; show -a = (a.natAbs : Int); omega
  | false => have := iLt_false hl; show a = (a.natAbs : Int); omega
/-- how many rounds are left at most -/
def Rounds (A B j : Nat) : Prop := (B ≤ A ∧ A * B < 2 ^ j) ∨ (A < B ∧ ∃ i, j = i + 1 ∧ A * B < 2 ^ i)
theorem Rounds.step {A B j : Nat} (h : Rounds A B j) (hB : 0 < B) : ∃ i, j = i + 1 ∧ Rounds B (A % B) i := by
  rcases h with ⟨h1, h2⟩ | ⟨h1, i, rfl, h2⟩
  · have hm := Nat.mod_lt A hB
    have hd := Nat.div_add_mod A B
    have hq : 1 ≤ A / B := Nat.div_pos h1 hB
    have hqB : B * 1 ≤ B * (A / B) := Nat.mul_le_mul_left B hq
    have h2m : 2 * (A % B) ≤ A := by omega
    cases j with
    | zero =>
      have : 1 * 1 ≤ A * B := Nat.mul_le_mul (by omega) hB
      simp at h2; omega
    | succ i =>
      refine ⟨i, rfl, .inl ⟨by omega, ?_⟩⟩
      have h3 : B * (2 * (A % B)) ≤ B * A := Nat.mul_le_mul_left B h2m
      have h4 : B * (2 * (A % B)) = 2 * (B * (A % B)) := by rw [Nat.mul_left_comm]
      have h5 : (2 : Nat) ^ (i + 1) = 2 * 2 ^ i := by rw [Nat.pow_succ, Nat.mul_comm]
      have h6 : A * B = B * A := Nat.mul_comm A B
      omega
  · rw [Nat.mod_eq_of_lt h1]
    exact ⟨i, rfl, .inl ⟨by omega, by rw [Nat.mul_comm]; exact h2⟩⟩
theorem Rounds.start {A B j : Nat} (h : A * B < 2 ^ j) : Rounds A B (j + 1) := by
  rcases Nat.lt_or_ge A B with h1 | h1
  · exact .inr ⟨h1, j, rfl, h⟩
  · exact .inl ⟨h1, Nat.lt_of_lt_of_le h (Nat.pow_le_pow_right (by omega) (by omega))⟩
theorem gcd_step (A B : Nat) : Nat.gcd B (A % B) = Nat.gcd A B := by rw [Nat.gcd_comm B, ← Nat.gcd_rec, Nat.gcd_comm]
theorem divisor69 (F : Nat) (call : CallT) (s : St) (hs : s.nx + 1000 < 262144) (a b : Int) (ha : sm a) (hb : sm b) (hab : a.natAbs * b.natAbs < 2 ^ 62) (hF : 70 < F) : Sat (fun K => (cFun Try.prog F 69).run call [.int .i64 a, .int .i64 b] K s) fun x s' => Kp 1000 s s' ∧ x = .int .i64 (dv a b) := by
  intro K r hK
  change (cFun Try.prog F 69).run call [.int .i64 a, .int .i64 b] K s = r
  conv => lhs; whnf
  refine runLoop_rule (fun j m t s' => m = [] ∧ Keep s s' ∧ s'.nx + 10 * j ≤ s.nx + 630 ∧ ∃ A B : Nat, (getW 2 0).g t = .int .i64 (Int.ofNat A) ∧ (getW 2 1).g t = .int .i64 (Int.ofNat B) ∧ Rounds A B j ∧ Nat.gcd A B = Nat.gcd a.natAbs b.natAbs) ?_ _ 63 _ _ _ (by omega) ?_
  · rintro j m t s' ih ⟨rfl, hk', hnx, A, B, h0, h1, hR, hg⟩ hih
    obtain ⟨⟨a0, a8, a16, a24, a32, a40, a48, a56⟩, ⟨a1, a9, a17, a25, a33, a41, a49, a57⟩, g1_2, g1_3, g1_4, g1_5, g1_6, g1_7⟩ := t
    have h0 : a0 = _ := h0
    have h1 : a1 = _ := h1
    subst h0 h1
    conv => lhs; whnf
    cases h3 : iLt 0 (Int.ofNat B)
    · have hB : B = 0 := by have := iLt_false h3; have : (B : Int) ≤ 0 := this; omega
      subst hB
      conv => lhs; whnf
      refine hK _ _ ⟨⟨hk', by omega⟩, ?_⟩
      unfold dv
      rw [← hg, Nat.gcd_zero_right]
      kernel_rfl
    · have hB : 0 < B := by have := iLt_true h3; have : (0 : Int) < (B : Int) := this; omega
      have hz : iEq (Int.ofNat B) 0 = false := by rw [iEq_eq]; simp; omega
      obtain ⟨i, rfl, hR'⟩ := hR.step hB
      conv => lhs; whnf
      generalize hb : Nat.ble (Nat.add s'.nx _) 262144 = cb
      have hb : cb = true := hb.symm.trans (Nat.ble_eq_true_of_le (Nat.le_trans (Nat.add_le_add_left (Nat.le_of_ble_eq_true rfl : _ ≤ 60) _) (show s'.nx + 60 ≤ 262144 by omega)))
      subst hb
      generalize hs5 : St.mk s'.h (Nat.add s'.nx _) = s5
      have ks5 : Kp 10 s' s5 := by subst hs5; exact Kp.more (Nat.le_of_ble_eq_true rfl)
      clear hs5
      conv => lhs; whnf
      have hn5 := ks5.2
      rw [hz]
      conv => lhs; whnf
      refine hih i _ _ s5 (by omega) ⟨rfl, hk'.trans ks5.1, by omega, B, A % B, ?_, ?_, hR', ?_⟩
      · kernel_rfl
      · refine Eq.trans ?_ (congrArg (Value.int .i64) (show Int.tmod (Int.ofNat A) (Int.ofNat B) = Int.ofNat (A % B) from rfl)); kernel_rfl
      · rw [gcd_step, hg]
  · refine ⟨rfl, .refl _, by omega, a.natAbs, b.natAbs, ?_, ?_, Rounds.start hab, rfl⟩
    · refine Eq.trans ?_ (congrArg (Value.int .i64) (mx_abs ha)); kernel_rfl
    · refine Eq.trans ?_ (congrArg (Value.int .i64) (mx_abs hb)); kernel_rfl


theorem divisor104 (F : Nat) (call : CallT) (s : St) (hs : s.nx + 2000 < 262144) (a : Int) (B0 : Nat) (hB0 : 0 < B0) (ha : sm a) (hb : sm (Int.ofNat B0)) (hab : a.natAbs * B0 < 2 ^ 62) (hF : 70 < F) (v : Value) (hv : SlI s v [Int.ofNat B0]) : Sat (fun K => (cFun Try.prog F 104).run call [.int .i64 a, v] K s) fun x s' => Kp 1500 s s' ∧ x = .int .i64 (dv a (Int.ofNat B0)) := by
  intro K r hK
  change (cFun Try.prog F 104).run call [.int .i64 a, v] K s = r
  obtain ⟨b, o, c, ci, rfl, hR, _, hat⟩ := Sl_get hv (i := 0) (y := Int.ofNat B0) rfl
  have hR : ci = [.int .i64 (Int.ofNat B0)] := hR
  subst hR
  conv => lhs; whnf
  refine runLoop_rule (fun j m t s' => m = [] ∧ Keep s s' ∧ s'.nx + 800 * j ≤ s.nx + 1600 ∧ (getW 2 12).g t = .slice (some ⟨b, o, none⟩) 1 c ∧ (getW 2 13).g t = .int .i64 (Int.ofNat 1) ∧ ∃ i d, (getW 2 14).g t = .int .i64 (Int.ofNat i) ∧ (getW 2 5).g t = .int .i64 d ∧ i + j = 2 ∧ ((i = 0 ∧ d = Int.ofNat a.natAbs) ∨ (i = 1 ∧ d = dv a (Int.ofNat B0)))) ?_ _ 2 _ _ _ (by omega) ?_
  · rintro j m t s' ih ⟨rfl, hk', hnx, h12, h13, i, d, h14, h5, hij, hcase⟩ hih
    obtain ⟨g1_0, g1_1, g1_2, g1_3, ⟨a4, a12, a20, a28, a36, a44, a52, a60⟩, ⟨a5, a13, a21, a29, a37, a45, a53, a61⟩, ⟨a6, a14, a22, a30, a38, a46, a54, a62⟩, g1_7⟩ := t
    have h5 : a5 = _ := h5
    have h12 : a12 = _ := h12
    have h13 : a13 = _ := h13
    have h14 : a14 = _ := h14
    subst h5 h12 h13 h14
    rcases hcase with ⟨rfl, rfl⟩ | ⟨rfl, rfl⟩
    · have hat := hat.keep hk'
      have c0 : iLt (Int.ofNat 0) (Int.ofNat 1) = true := by rw [iLt_eq]; decide
      conv => lhs; whnf
      rw [c0]
      conv => lhs; whnf
      refine Eq.trans (hat.ld1 (j := 0) rfl rfl _) ?_
      conv => lhs; whnf
      refine runLoop_rule (fun jj m t s'' => m = [] ∧ Keep s s'' ∧ s''.nx + 10 * jj ≤ s'.nx + 630 ∧ (getW 2 12).g t = .slice (some ⟨b, o, none⟩) 1 c ∧ (getW 2 13).g t = .int .i64 (Int.ofNat 1) ∧ (getW 2 14).g t = .int .i64 (Int.ofNat 0) ∧ ∃ A B : Nat, (getW 2 5).g t = .int .i64 (Int.ofNat A) ∧ (getW 2 7).g t = .int .i64 (Int.ofNat B) ∧ Rounds A B jj ∧ Nat.gcd A B = Nat.gcd a.natAbs B0) ?_ _ 63 _ _ _ (by omega) ?_
      · rintro jj m t s'' ih' ⟨rfl, hk'', hnx', h12, h13, h14, A, B, h5, h7, hR, hg⟩ hih'
        obtain ⟨g1_0, g1_1, g1_2, g1_3, ⟨a4, a12, a20, a28, a36, a44, a52, a60⟩, ⟨a5, a13, a21, a29, a37, a45, a53, a61⟩, ⟨a6, a14, a22, a30, a38, a46, a54, a62⟩, ⟨a7, a15, a23, a31, a39, a47, a55, a63⟩⟩ := t
        have h5 : a5 = _ := h5
        have h7 : a7 = _ := h7
        have h12 : a12 = _ := h12
        have h13 : a13 = _ := h13
        have h14 : a14 = _ := h14
        subst h5 h7 h12 h13 h14
        conv => lhs; whnf
        cases hz : iEq (Int.ofNat B) 0
        · have hB : 0 < B := by have := iEq_false hz; rcases Nat.eq_zero_or_pos B with h | h; (subst h; exact absurd rfl this); exact h
          obtain ⟨q, rfl, hR'⟩ := hR.step hB
          conv => lhs; whnf
          generalize hb : Nat.ble (Nat.add s''.nx _) 262144 = cb
          have hb : cb = true := hb.symm.trans (Nat.ble_eq_true_of_le (Nat.le_trans (Nat.add_le_add_left (Nat.le_of_ble_eq_true rfl : _ ≤ 60) _) (show s''.nx + 60 ≤ 262144 by omega)))
          subst hb
          generalize hs5 : St.mk s''.h (Nat.add s''.nx _) = s5
          have ks5 : Kp 10 s'' s5 := by subst hs5; exact Kp.more (Nat.le_of_ble_eq_true rfl)
          clear hs5
          conv => lhs; whnf
          have hn5 := ks5.2
          rw [hz]
          conv => lhs; whnf
          refine hih' q _ _ s5 (by omega) ⟨rfl, hk''.trans ks5.1, by omega, ?_, ?_, ?_, B, A % B, ?_, ?_, hR', ?_⟩
          · kernel_rfl
          · kernel_rfl
          · kernel_rfl
          · kernel_rfl
          · refine Eq.trans ?_ (congrArg (Value.int .i64) (show Int.tmod (Int.ofNat A) (Int.ofNat B) = Int.ofNat (A % B) from rfl)); kernel_rfl
          · rw [gcd_step, hg]
        · have hB : B = 0 := by have := iEq_true hz; exact Int.ofNat.inj this
          subst hB
          rw [Nat.gcd_zero_right] at hg
          subst hg
          conv => lhs; whnf
          have hle : Nat.gcd a.natAbs B0 ≤ B0 := Nat.gcd_le_right _ hB0
          have hsg : sm (Int.ofNat (Nat.gcd a.natAbs B0)) := ⟨by show (-9223372036854775808 : Int) < ((Nat.gcd a.natAbs B0 : Nat) : Int); omega, by have h2 : ((B0 : Nat) : Int) < 9223372036854775808 := hb.2; show ((Nat.gcd a.natAbs B0 : Nat) : Int) < 9223372036854775808; omega⟩
          have hw : wr .i64 ((Int.ofNat 0).add 1) = Int.ofNat (0 + 1) := wr_nat (show 0 + 1 < 9223372036854775808 by omega)
          have hj2 : j = 2 := by omega
          subst hj2
          refine hih 1 _ _ s'' (by omega) ⟨rfl, hk'', by omega, ?_, ?_, 1, dv a (Int.ofNat B0), ?_, ?_, rfl, .inr ⟨rfl, rfl⟩⟩
          · kernel_rfl
          · kernel_rfl
          · refine Eq.trans ?_ (congrArg (Value.int .i64) hw); kernel_rfl
          · refine Eq.trans ?_ (congrArg (Value.int .i64) (mx_abs hsg)); kernel_rfl
      · refine ⟨rfl, hk', by omega, rfl, rfl, rfl, a.natAbs, B0, rfl, rfl, Rounds.start hab, rfl⟩
    · have c0 : iLt (Int.ofNat 1) (Int.ofNat 1) = false := by rw [iLt_eq]; decide
      conv => lhs; whnf
      rw [c0]
      conv => lhs; whnf
      exact hK _ _ ⟨⟨hk', by omega⟩, rfl⟩
  · refine ⟨rfl, .refl _, by omega, rfl, rfl, 0, Int.ofNat a.natAbs, rfl, ?_, rfl, .inl ⟨rfl, rfl⟩⟩
    refine Eq.trans ?_ (congrArg (Value.int .i64) (mx_abs ha)); kernel_rfl


def fr (a : Int) (B0 : Nat) : Value := .agg ⟨[.int .i64 (wr .i64 (Int.tdiv a (dv a (Int.ofNat B0)))), .int .i64 (wr .i64 (Int.tdiv (Int.ofNat B0) (dv a (Int.ofNat B0))))]⟩
theorem dv_pos {a : Int} {B0 : Nat} (h : 0 < B0) : iEq (dv a (Int.ofNat B0)) 0 = false := by
  have : 0 < Nat.gcd a.natAbs B0 := Nat.gcd_pos_of_pos_right _ h
  rw [iEq_eq]
  show (((Nat.gcd a.natAbs B0 : Nat) : Int) == 0) = false
  simp; omega
theorem fraction73 (F d : Nat) (s : St) (hs : s.nx + 3000 < 262144) (a : Int) (B0 : Nat) (hB0 : 0 < B0) (ha : sm a) (hb : sm (Int.ofNat B0)) (hab : a.natAbs * B0 < 2 ^ 62) (hF : 70 < F) : Sat (fun K => (cFun Try.prog F 73).run (CL F (d + 1)) [.int .i64 a, .int .i64 (Int.ofNat B0)] K s) fun x s' => Kp 2000 s s' ∧ x = fr a B0 := by
  intro K r hK
  change (cFun Try.prog F 73).run (CL F (d + 1)) [.int .i64 a, .int .i64 (Int.ofNat B0)] K s = r
  conv => lhs; whnf
  rw [blt_of (show s.nx < 262144 by omega)]
  generalize hs1 : s.push _ = s1
  have hO : Own s1 s.nx [.int .i64 0, .int .i64 0] := by subst hs1; exact Own.push (l := [.int .i64 0, .int .i64 0]) (by show 2 ≤ 32768; omega) (by omega) rfl
  have hkp : Kp 1 s s1 := by subst hs1; exact Kp.push _ (by omega)
  clear hs1
  have hn1 := hkp.2
  conv => lhs; whnf
  rw [blt_of (show s1.nx < 262144 by omega)]
  generalize hs2 : s1.push _ = s2
  have hv : SlI s2 (slc s1.nx 0 1 1) [Int.ofNat B0] := by
    subst hs2
    have := AtN.push (s := s1) (l := [.int .i64 (Int.ofNat B0)]) (e := 3) (g := false) (by show 1 ≤ 32768; omega) (by omega)
    refine .inl ⟨s1.nx, 0, 1, rfl, Nat.le_refl _, fun i y hi => ⟨[.int .i64 y], rfl, rfl, ?_⟩⟩
    match i, hi with
    | 0, hi => cases hi; exact this
    | i + 1, hi => simp at hi
  have hkp2 : Kp 1 s1 s2 := by subst hs2; exact Kp.push _ (by omega)
  clear hs2
  have hn2 := hkp2.2
  conv => lhs; whnf
  refine (Sat.call (F := F) (d := d) (g := 104) rfl (divisor104 F _ s2 (by omega) a B0 hB0 ha hb hab hF _ hv)) _ _ ?_
  rintro x s3 ⟨k3, rfl⟩
  have hn3 := k3.2
  have hO3 := hO.keep (hkp2.1.trans k3.1)
  have hz := dv_pos (a := a) hB0
  conv => lhs; whnf
  generalize hb : Nat.ble (Nat.add s3.nx _) 262144 = cb
  have hb : cb = true := hb.symm.trans (Nat.ble_eq_true_of_le (Nat.le_trans (Nat.add_le_add_left (Nat.le_of_ble_eq_true rfl : _ ≤ 60) _) (show s3.nx + 60 ≤ 262144 by omega)))
  subst hb
  generalize hs4 : St.mk s3.h (Nat.add s3.nx _) = s4
  have ks4 : Kp 60 s3 s4 := by subst hs4; exact Kp.more (Nat.le_of_ble_eq_true rfl)
  clear hs4
  conv => lhs; whnf
  have hn4 := ks4.2
  have hO4 := hO3.keep ks4.1
  rw [hz]
  conv => lhs; whnf
  rw [hz]
  conv => lhs; whnf
  refine hO4.stN (o := 0) (l := [.int .i64 (wr .i64 (Int.tdiv a (dv a (Int.ofNat B0)))), .int .i64 (wr .i64 (Int.tdiv (Int.ofNat B0) (dv a (Int.ofNat B0))))]) (by show 0 + 2 ≤ 2; omega) rfl ?_ rfl
  intro s5 hn5 hk5 _ hO5
  have hk5 := hk5 s (Nat.le_refl _) (hkp.1.trans (hkp2.1.trans (k3.1.trans ks4.1)))
  have hO5 : Own s5 s.nx [.int .i64 (wr .i64 (Int.tdiv a (dv a (Int.ofNat B0)))), .int .i64 (wr .i64 (Int.tdiv (Int.ofNat B0) (dv a (Int.ofNat B0))))] := hO5
  conv => lhs; whnf
  refine Eq.trans (hO5.at.ldN rfl rfl _) ?_
  conv => lhs; whnf
  exact hK _ _ ⟨⟨hk5, by show s5.nx ≤ _; omega⟩, rfl⟩
theorem reduced68 (F d : Nat) (s : St) (hs : s.nx + 3000 < 262144) (a : Int) (B0 : Nat) (hB0 : 0 < B0) (ha : sm a) (hb : sm (Int.ofNat B0)) (hab : a.natAbs * B0 < 2 ^ 62) (hF : 70 < F) : Sat (fun K => (cFun Try.prog F 68).run (CL F (d + 1)) [.int .i64 a, .int .i64 (Int.ofNat B0)] K s) fun x s' => Kp 2000 s s' ∧ x = fr a B0 := by
  intro K r hK
  change (cFun Try.prog F 68).run (CL F (d + 1)) [.int .i64 a, .int .i64 (Int.ofNat B0)] K s = r
  have c0 : iLt (Int.ofNat B0) 0 = false := by rw [iLt_eq]; simp
  conv => lhs; whnf
  rw [blt_of (show s.nx < 262144 by omega)]
  generalize hs1 : s.push _ = s1
  have hO : Own s1 s.nx [.int .i64 0, .int .i64 0] := by subst hs1; exact Own.push (l := [.int .i64 0, .int .i64 0]) (by show 2 ≤ 32768; omega) (by omega) rfl
  have hkp : Kp 1 s s1 := by subst hs1; exact Kp.push _ (by omega)
  clear hs1
  have hn1 := hkp.2
  conv => lhs; whnf
  rw [c0]
  conv => lhs; whnf
  refine (Sat.call (F := F) (d := d) (g := 69) rfl (divisor69 F _ s1 (by omega) a (Int.ofNat B0) ha hb hab hF)) _ _ ?_
  rintro x s3 ⟨k3, rfl⟩
  have hn3 := k3.2
  have hO3 := hO.keep k3.1
  have hz := dv_pos (a := a) hB0
  conv => lhs; whnf
  generalize hb : Nat.ble (Nat.add s3.nx _) 262144 = cb
  have hb : cb = true := hb.symm.trans (Nat.ble_eq_true_of_le (Nat.le_trans (Nat.add_le_add_left (Nat.le_of_ble_eq_true rfl : _ ≤ 60) _) (show s3.nx + 60 ≤ 262144 by omega)))
  subst hb
  generalize hs4 : St.mk s3.h (Nat.add s3.nx _) = s4
  have ks4 : Kp 60 s3 s4 := by subst hs4; exact Kp.more (Nat.le_of_ble_eq_true rfl)
  clear hs4
  conv => lhs; whnf
  have hn4 := ks4.2
  have hO4 := hO3.keep ks4.1
  rw [hz]
  conv => lhs; whnf
  rw [hz]
  conv => lhs; whnf
  refine hO4.stN (o := 0) (l := [.int .i64 (wr .i64 (Int.tdiv a (dv a (Int.ofNat B0)))), .int .i64 (wr .i64 (Int.tdiv (Int.ofNat B0) (dv a (Int.ofNat B0))))]) (by show 0 + 2 ≤ 2; omega) rfl ?_ rfl
  intro s5 hn5 hk5 _ hO5
  have hk5 := hk5 s (Nat.le_refl _) (hkp.1.trans (k3.1.trans ks4.1))
  have hO5 : Own s5 s.nx [.int .i64 (wr .i64 (Int.tdiv a (dv a (Int.ofNat B0)))), .int .i64 (wr .i64 (Int.tdiv (Int.ofNat B0) (dv a (Int.ofNat B0))))] := hO5
  conv => lhs; whnf
  refine Eq.trans (hO5.at.ldN rfl rfl _) ?_
  conv => lhs; whnf
  exact hK _ _ ⟨⟨hk5, by show s5.nx ≤ _; omega⟩, rfl⟩

end Go.Proofs.Ytkkmgaigingmpaa
