/- Open runs: how many hours are enough. -/
import Derived.Test.YtmikjjhlkfgmbaaProg
import Derived.Test.YtmikjjhlkfgmbaaEngQd
import Derived.KernelRfl
namespace Go.Proofs.Ytmikjjhlkfgmbaa
open Go.Ab
noncomputable abbrev CL (F d : Nat) : CallT := callF Try.prog F (extB [] 15) d
attribute [local irreducible] iLt iEq wr runLoop ld1 ldN callF Ab.stN Ab.st1
set_option maxRecDepth 100000
set_option maxHeartbeats 4000000
def isP (x : Int) : Bool := !iLt x 1 && !iLt 30 x
theorem isP55 (F : Nat) (call : CallT) (s : St) (x : Int) : Sat (fun K => (cFun Try.prog F 55).run call ([.int .i64 x] ++ []) K s) (fun v s' => s' = s ∧ v = .bool (isP x)) := by
  intro K r hK
  change (cFun Try.prog F 55).run call ([.int .i64 x] ++ []) K s = r
  have hK : ∀ b, b = isP x → K (.bool b) s = r := fun b hb => hK _ _ ⟨rfl, by rw [hb]⟩
  unfold isP at hK
  cases h1 : iLt x 1 <;> cases h2 : iLt 30 x <;> rw [h1, h2] at hK
  all_goals
    conv => lhs; whnf
    rw [h1]
    conv => lhs; whnf
    first
    | exact hK _ rfl
    | (rw [h2]; conv => lhs; whnf
       exact hK _ rfl)
    | trace_state; sorry
theorem is57 (F : Nat) (call : CallT) (s : St) (x : Int) : Sat (fun K => (cFun Try.prog F 57).run call ([.int .i64 x, .int .i64 1, .int .i64 30] ++ []) K s) (fun v s' => s' = s ∧ v = .bool (isP x)) := by
  intro K r hK
  change (cFun Try.prog F 57).run call ([.int .i64 x, .int .i64 1, .int .i64 30] ++ []) K s = r
  have hK : ∀ b, b = isP x → K (.bool b) s = r := fun b hb => hK _ _ ⟨rfl, by rw [hb]⟩
  unfold isP at hK
  cases h1 : iLt x 1 <;> cases h2 : iLt 30 x <;> rw [h1, h2] at hK
  all_goals
    conv => lhs; whnf
    rw [h1]
    conv => lhs; whnf
    first
    | exact hK _ rfl
    | (rw [h2]; conv => lhs; whnf
       exact hK _ rfl)
    | trace_state; sorry

def enough (a b : Int) : Int × Int := if isP a = true ∧ isP b = true then (wr .i64 (Int.sub (wr .i64 (Int.add a b)) (Int.ofNat (Nat.gcd b.toNat a.toNat))), 0) else (0, 1)
theorem isP_nat {x : Int} (h : isP x = true) : ∃ n : Nat, x = Int.ofNat n ∧ n ≤ 30 := by
  unfold isP at h
  rw [iLt_eq, iLt_eq] at h
  simp at h
  exact ⟨x.toNat, by show x = (x.toNat : Int); omega, by omega⟩
theorem div68 (F : Nat) (hF : 100 < F) (call : CallT) (s : St) (hs : s.nx + 2000 < 262144) (a b : Nat) (ha : a ≤ 30) (hb : b ≤ 30) : Sat (fun K => (cFun Try.prog F 68).run call ([.int .i64 (Int.ofNat a), .int .i64 (Int.ofNat b)] ++ []) K s) (fun v s' => Kp 2000 s s' ∧ v = .int .i64 (Int.ofNat (Nat.gcd b a))) := by
  intro K r hK
  change (cFun Try.prog F 68).run call ([.int .i64 (Int.ofNat a), .int .i64 (Int.ofNat b)] ++ []) K s = r
  conv => lhs; whnf
  refine runLoop_rule (fun j m t s' => m = [] ∧ ∃ x y : Nat, (getW 2 0).g t = .int .i64 (Int.ofNat x) ∧ (getW 2 1).g t = .int .i64 (Int.ofNat y) ∧ x ≤ 30 ∧ y ≤ 30 ∧ y < j ∧ Nat.gcd y x = Nat.gcd b a ∧ Keep s s' ∧ s'.nx + 60 * y ≤ s.nx + 1800) ?_ _ 40 _ _ _ (by omega) ?_
  · rintro j m t s1 ih ⟨rfl, x, y, h0, h1, hx, hy30, hy, hg, hk, hn⟩ hih
    obtain ⟨⟨a0, a8, a16, a24, a32, a40, a48, a56⟩, ⟨a1, a9, a17, a25, a33, a41, a49, a57⟩, g1_2, g1_3, g1_4, g1_5, g1_6, g1_7⟩ := t
    have h0 : _ = a0 := Eq.symm h0
    have h1 : _ = a1 := Eq.symm h1
    subst h0 h1
    conv => lhs; whnf
    cases h3 : iLt 0 (Int.ofNat y)
    · conv => lhs; whnf
      have hy0 : y = 0 := by rw [iLt_eq] at h3; simp at h3; omega
      subst hy0
      rw [Nat.gcd_zero_left] at hg
      subst hg
      exact hK _ _ ⟨⟨hk, by omega⟩, rfl⟩
    · have hy0 : 0 < y := by rw [iLt_eq] at h3; simp at h3; omega
      conv => lhs; whnf
      generalize hb : Nat.ble (Nat.add s1.nx _) 262144 = cb
      have hb : cb = true := hb.symm.trans (Nat.ble_eq_true_of_le (Nat.le_trans (Nat.add_le_add_left (Nat.le_of_ble_eq_true rfl : _ ≤ 60) _) (show s1.nx + 60 ≤ 262144 by omega)))
      subst hb
      generalize hs2 : St.mk s1.h (Nat.add s1.nx _) s1.fl = s2
      have ks2 : Kp 60 s1 s2 := by subst hs2; exact Kp.more (Nat.le_of_ble_eq_true rfl)
      clear hs2
      conv => lhs; whnf
      have h5 : iEq (Int.ofNat y) 0 = false := by rw [iEq_eq]; simp; omega
      rw [h5]
      conv => lhs; whnf
      have ks := ks2.2
      have hlt : x % y < y := Nat.mod_lt x hy0
      change ih [] _ s2 = r
      refine hih (j - 1) _ _ _ (by omega) ⟨rfl, y, x % y, rfl, rfl, hy30, by omega, by omega, ?_, hk.trans ks2.1, ?_⟩
      · rw [← hg]; exact (Nat.gcd_rec y x).symm
      · have h60 : 60 * (x % y) + 60 ≤ 60 * y := by omega
        omega
  · exact ⟨rfl, a, b, rfl, rfl, ha, hb, by omega, rfl, .refl s, by omega⟩
theorem enough35 (F d : Nat) (hF : 100 < F) (s : St) (hs : s.nx + 3000 < 262144) (a b : Int) : Sat (fun K => (cFun Try.prog F 35).run (CL F (d + 1)) ([.int .i64 a, .int .i64 b] ++ []) K s) (fun v s' => Kp 3000 s s' ∧ v = .tuple ⟨[.int .i64 (enough a b).1, .int .i64 (enough a b).2]⟩) := by
  intro K r hK
  change (cFun Try.prog F 35).run (CL F (d + 1)) ([.int .i64 a, .int .i64 b] ++ []) K s = r
  conv => lhs; whnf
  refine (Sat.callB (g := 55) (cs := []) rfl rfl (isP55 F _ s a)) _ _ ?_
  rintro v s1 ⟨rfl, rfl⟩
  cases ha : isP a
  · conv => lhs; whnf
    exact hK _ _ ⟨(Kp.refl _).mono (by omega), by rw [show enough a b = (0, 1) from if_neg (by rw [ha]; simp)]; rfl⟩
  conv => lhs; whnf
  refine (Sat.callB (g := 55) (cs := []) rfl rfl (isP55 F _ s1 b)) _ _ ?_
  rintro v s2 ⟨rfl, rfl⟩
  cases hb : isP b
  · conv => lhs; whnf
    exact hK _ _ ⟨(Kp.refl _).mono (by omega), by rw [show enough a b = (0, 1) from if_neg (by rw [hb]; simp)]; rfl⟩
  conv => lhs; whnf
  obtain ⟨p, rfl, hp⟩ := isP_nat ha
  obtain ⟨q, rfl, hq⟩ := isP_nat hb
  refine (Sat.callB (g := 68) (cs := []) rfl rfl (div68 F hF _ s2 (by omega) p q hp hq)) _ _ ?_
  rintro v s3 ⟨k3, rfl⟩
  conv => lhs; whnf
  refine hK _ _ ⟨k3.mono (by omega), ?_⟩
  unfold enough
  rw [if_pos ⟨ha, hb⟩]
  rfl

theorem enough36 (F d : Nat) (hF : 100 < F) (s : St) (hs : s.nx + 3000 < 262144) (a b : Int) : Sat (fun K => (cFun Try.prog F 36).run (CL F (d + 1)) ([.int .i64 a, .int .i64 b] ++ []) K s) (fun v s' => Kp 3000 s s' ∧ v = .tuple ⟨[.int .i64 (enough a b).1, .int .i64 (enough a b).2]⟩) := by
  intro K r hK
  change (cFun Try.prog F 36).run (CL F (d + 1)) ([.int .i64 a, .int .i64 b] ++ []) K s = r
  conv => lhs; whnf
  refine (Sat.callB (g := 57) (cs := []) rfl rfl (is57 F _ s a)) _ _ ?_
  rintro v s1 ⟨rfl, rfl⟩
  cases ha : isP a
  · conv => lhs; whnf
    exact hK _ _ ⟨(Kp.refl _).mono (by omega), by rw [show enough a b = (0, 1) from if_neg (by rw [ha]; simp)]; rfl⟩
  conv => lhs; whnf
  refine (Sat.callB (g := 57) (cs := []) rfl rfl (is57 F _ s1 b)) _ _ ?_
  rintro v s2 ⟨rfl, rfl⟩
  cases hb : isP b
  · conv => lhs; whnf
    exact hK _ _ ⟨(Kp.refl _).mono (by omega), by rw [show enough a b = (0, 1) from if_neg (by rw [hb]; simp)]; rfl⟩
  conv => lhs; whnf
  obtain ⟨p, rfl, hp⟩ := isP_nat ha
  obtain ⟨q, rfl, hq⟩ := isP_nat hb
  refine runLoop_rule (fun j m t s' => m = [] ∧ (getW 2 0).g t = .int .i64 (Int.ofNat p) ∧ (getW 2 1).g t = .int .i64 (Int.ofNat q) ∧ ∃ x y : Nat, (getW 2 6).g t = .int .i64 (Int.ofNat x) ∧ (getW 2 7).g t = .int .i64 (Int.ofNat y) ∧ x ≤ 30 ∧ y ≤ 30 ∧ y < j ∧ Nat.gcd y x = Nat.gcd q p ∧ Keep s2 s' ∧ s'.nx + 60 * y ≤ s2.nx + 1800) ?_ _ 40 _ _ _ (by omega) ?_
  · rintro j m t s1 ih ⟨rfl, h0, h1, x, y, h6, h7, hx, hy30, hy, hg, hk, hn⟩ hih
    obtain ⟨⟨a0, a8, a16, a24, a32, a40, a48, a56⟩, ⟨a1, a9, a17, a25, a33, a41, a49, a57⟩, g1_2, g1_3, g1_4, g1_5, ⟨a6, a14, a22, a30, a38, a46, a54, a62⟩, ⟨a7, a15, a23, a31, a39, a47, a55, a63⟩⟩ := t
    have h0 : _ = a0 := Eq.symm h0
    have h1 : _ = a1 := Eq.symm h1
    have h6 : _ = a6 := Eq.symm h6
    have h7 : _ = a7 := Eq.symm h7
    subst h0 h1 h6 h7
    conv => lhs; whnf
    cases h3 : iLt 0 (Int.ofNat y)
    · conv => lhs; whnf
      have hy0 : y = 0 := by rw [iLt_eq] at h3; simp at h3; omega
      subst hy0
      rw [Nat.gcd_zero_left] at hg
      subst hg
      refine hK _ _ ⟨⟨hk, by omega⟩, ?_⟩
      unfold enough
      rw [if_pos ⟨ha, hb⟩]
      rfl
    · have hy0 : 0 < y := by rw [iLt_eq] at h3; simp at h3; omega
      conv => lhs; whnf
      generalize hb : Nat.ble (Nat.add s1.nx _) 262144 = cb
      have hb : cb = true := hb.symm.trans (Nat.ble_eq_true_of_le (Nat.le_trans (Nat.add_le_add_left (Nat.le_of_ble_eq_true rfl : _ ≤ 60) _) (show s1.nx + 60 ≤ 262144 by omega)))
      subst hb
      generalize hs3 : St.mk s1.h (Nat.add s1.nx _) s1.fl = s3
      have ks3 : Kp 60 s1 s3 := by subst hs3; exact Kp.more (Nat.le_of_ble_eq_true rfl)
      clear hs3
      conv => lhs; whnf
      have h5 : iEq (Int.ofNat y) 0 = false := by rw [iEq_eq]; simp; omega
      rw [h5]
      conv => lhs; whnf
      have ks := ks3.2
      have hlt : x % y < y := Nat.mod_lt x hy0
      change ih [] _ s3 = r
      refine hih (j - 1) _ _ _ (by omega) ⟨rfl, rfl, rfl, y, x % y, rfl, rfl, hy30, by omega, by omega, ?_, hk.trans ks3.1, ?_⟩
      · rw [← hg]; exact (Nat.gcd_rec y x).symm
      · have h60 : 60 * (x % y) + 60 ≤ 60 * y := by omega
        omega
  · exact ⟨rfl, rfl, rfl, p, q, rfl, rfl, hp, hq, by omega, rfl, .refl _, by omega⟩
theorem law6 (F d : Nat) (hF : 100 < F) (s : St) (hs : s.nx + 8000 < 262144) (a b : Int) : Sat (fun K => (cFun Try.prog F 6).run (CL F (d + 2)) [.int .i64 a, .int .i64 b] K s) (fun v _ => v = .bool true) := by
  intro K r hK
  change (cFun Try.prog F 6).run (CL F (d + 2)) [.int .i64 a, .int .i64 b] K s = r
  conv => lhs; whnf
  refine (Sat.callB (g := 35) (cs := []) rfl rfl (enough35 F d hF s (by omega) a b)) _ _ ?_
  rintro v s1 ⟨k1, rfl⟩
  have n1 := k1.2
  conv => lhs; whnf
  refine (Sat.callB (g := 36) (cs := []) rfl rfl (enough36 F d hF s1 (by omega) a b)) _ _ ?_
  rintro v s2 ⟨k2, rfl⟩
  generalize (enough a b).1 = x
  generalize (enough a b).2 = y
  conv => lhs; whnf
  rw [iEq_self x]
  conv => lhs; whnf
  rw [iEq_self y]
  conv => lhs; whnf
  refine Eq.trans (callF_B_w rfl _ _) ?_
  conv => lhs; whnf
  exact hK _ _ rfl
end Go.Proofs.Ytmikjjhlkfgmbaa
