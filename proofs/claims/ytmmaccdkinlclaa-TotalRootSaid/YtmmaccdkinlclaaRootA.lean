/- Open runs: the search of a root. -/
import Derived.Test.YtmmaccdkinlclaaProg
import Derived.Test.YtmmaccdkinlclaaEngQc
import Derived.KernelRfl
namespace Go.Proofs.Ytmmaccdkinlclaa
open Go.Ab
noncomputable abbrev CL (F d : Nat) : CallT := callF Try.prog F (extB [70] 16) d
attribute [local irreducible] iLt iEq wr runLoop ld1 ldN callF Ab.stN Ab.st1
set_option maxRecDepth 100000
set_option maxHeartbeats 4000000
theorem mid_eq {lo hi : Nat} (h : lo + hi < 9223372036854775808) : wr .i64 ((wr .u64 (wr .i64 ((Int.ofNat lo).add (Int.ofNat hi)))).fdiv (2 ^ min (Int.toNat 1) IntKind.u64.bits)) = Int.ofNat ((lo + hi) / 2) := by
  have h1 : wr .i64 ((Int.ofNat lo).add (Int.ofNat hi)) = Int.ofNat (lo + hi) := wr_nat h
  have h2 : wr .u64 (Int.ofNat (lo + hi)) = Int.ofNat (lo + hi) := by
    rw [wr_eq]
    exact IntWalk.u64_in _ ⟨by show (0 : Int) ≤ ((lo + hi : Nat) : Int); omega, by show ((lo + hi : Nat) : Int) ≤ _; omega⟩
  have h3 : (2 ^ min (Int.toNat 1) IntKind.u64.bits : Int) = 2 := by decide
  have h4 : (Int.ofNat (lo + hi)).fdiv 2 = Int.ofNat ((lo + hi) / 2) := by
    rw [Int.fdiv_eq_ediv_of_nonneg _ (by omega)]; rfl
  rw [h1, h2, h3, h4]
  exact wr_nat (i := (lo + hi) / 2) (by omega)
/-- the closure: whether a number's square is at least the one that is asked for -/
theorem clo46 (F : Nat) (call : CallT) (s : St) (x sq : Int) (b : Nat) (h : AtN s b 0 [.int .i64 sq]) : Sat (fun K => (cFun Try.prog F 46).run call ([.int .i64 x] ++ [ptr b 0]) K s) (fun v s' => s' = s ∧ v = .bool (!iLt (wr .i64 (Int.mul x x)) sq)) := by
  intro K r hK
  change (cFun Try.prog F 46).run call ([.int .i64 x] ++ [ptr b 0]) K s = r
  conv => lhs; whnf
  refine Eq.trans (h.ld1 (j := 0) rfl rfl _) ?_
  conv => lhs; whnf
  exact hK _ _ ⟨rfl, rfl⟩
theorem search (F d : Nat) (hF : 100 < F) (s : St) (sq : Int) (b : Nat) (h : AtN s b 0 [.int .i64 sq]) : Sat (fun K => (cFun Try.prog F 45).run (CL F (d + 1)) ([.int .i64 33554432, .func (.func 46) ⟨[]⟩ ⟨[ptr b 0]⟩] ++ []) K s)
    (fun v s' => s' = s ∧ ∃ c : Nat, v = .int .i64 (Int.ofNat c) ∧ c ≤ 33554432 ∧ (∀ y : Nat, y < c → (y * y : Int) < sq) ∧ (c = 33554432 ∨ sq ≤ (c * c : Int))) := by
  intro K r hK
  change (cFun Try.prog F 45).run (CL F (d + 1)) ([.int .i64 33554432, .func (.func 46) ⟨[]⟩ ⟨[ptr b 0]⟩] ++ []) K s = r
  conv => lhs; whnf
  refine runLoop_rule (fun j m t s' => m = [] ∧ s' = s ∧ (getW 2 1).g t = .func (.func 46) ⟨[]⟩ ⟨[ptr b 0]⟩ ∧ ∃ lo hi : Nat, (getW 2 5).g t = .int .i64 (Int.ofNat lo) ∧ (getW 2 6).g t = .int .i64 (Int.ofNat hi) ∧ lo ≤ hi ∧ hi ≤ 33554432 ∧ hi - lo < 2 ^ j ∧ (∀ y : Nat, y < lo → (y * y : Int) < sq) ∧ (hi = 33554432 ∨ sq ≤ (hi * hi : Int))) ?_ _ 26 _ _ _ (by omega) ?_
  · rintro j m t s' ih ⟨rfl, rfl, h1, lo, hi, h5, h6, hle, hmx, hj, hlo, hhi⟩ hih
    obtain ⟨g1_0, ⟨a1, a9, a17, a25, a33, a41, a49, a57⟩, g1_2, g1_3, g1_4, ⟨a5, a13, a21, a29, a37, a45, a53, a61⟩, ⟨a6, a14, a22, a30, a38, a46, a54, a62⟩, g1_7⟩ := t
    have h1 : _ = a1 := Eq.symm h1
    have h5 : _ = a5 := Eq.symm h5
    have h6 : _ = a6 := Eq.symm h6
    subst h1 h5 h6
    conv => lhs; whnf
    cases h3 : iLt (Int.ofNat lo) (Int.ofNat hi)
    · conv => lhs; whnf
      have hlh : lo = hi := by rw [iLt_eq] at h3; simp at h3; omega
      subst hlh
      exact hK _ _ ⟨rfl, lo, rfl, hmx, hlo, hhi⟩
    · have hlh : lo < hi := by rw [iLt_eq] at h3; simp at h3; omega
      conv => lhs; whnf
      have hj1 : j = (j - 1) + 1 := by
        cases j with
        | zero => rw [Nat.pow_zero] at hj; omega
        | succ j => rfl
      have hj2 : hi - lo < 2 * 2 ^ (j - 1) := by
        have e : 2 ^ j = 2 ^ (j - 1) * 2 := (congrArg (fun x => 2 ^ x) hj1).trans (Nat.pow_succ 2 (j - 1))
        omega
      have hx := mid_eq (lo := lo) (hi := hi) (by omega)
      have hc := clo46 F (CL F d) s' (Int.ofNat ((lo + hi) / 2)) sq b h
      rw [← hx] at hc
      refine Sat.callB (g := 46) (cs := [ptr b 0]) rfl rfl hc _ _ ?_
      rintro v s2 ⟨rfl, rfl⟩
      conv => lhs; whnf
      have hsq : iLt (wr .i64 (Int.mul (wr .i64 ((wr .u64 (wr .i64 ((Int.ofNat lo).add (Int.ofNat hi)))).fdiv (2 ^ min (Int.toNat 1) IntKind.u64.bits))) (wr .i64 ((wr .u64 (wr .i64 ((Int.ofNat lo).add (Int.ofNat hi)))).fdiv (2 ^ min (Int.toNat 1) IntKind.u64.bits))))) sq = iLt (Int.ofNat (((lo + hi) / 2) * ((lo + hi) / 2))) sq := by
        rw [hx]
        congr 1
        refine wr_nat ?_
        have h1 : (lo + hi) / 2 ≤ 33554432 := by omega
        have := Nat.mul_le_mul h1 h1
        omega
      cases hlt : iLt (Int.ofNat (((lo + hi) / 2) * ((lo + hi) / 2))) sq
      · generalize hcq : iLt _ sq = cq
        have hcq : cq = false := hcq.symm.trans (hsq.trans hlt)
        subst hcq
        conv => lhs; whnf
        refine hih (j - 1) _ _ _ ?_ ⟨rfl, rfl, rfl, lo, (lo + hi) / 2, rfl, congrArg (Value.int .i64) hx, by omega, by omega, by omega, hlo, .inr ?_⟩
        · omega
        · rw [iLt_eq] at hlt
          have hlt : ¬ ((((lo + hi) / 2 * ((lo + hi) / 2) : Nat) : Int) < sq) := by simpa using hlt
          have e : ((((lo + hi) / 2 * ((lo + hi) / 2) : Nat)) : Int) = (((lo + hi) / 2 : Nat) : Int) * (((lo + hi) / 2 : Nat) : Int) := Int.natCast_mul _ _
          omega
      · generalize hcq : iLt _ sq = cq
        have hcq : cq = true := hcq.symm.trans (hsq.trans hlt)
        subst hcq
        conv => lhs; whnf
        have hw : wr .i64 ((wr .i64 ((wr .u64 (wr .i64 ((Int.ofNat lo).add (Int.ofNat hi)))).fdiv (2 ^ min (Int.toNat 1) IntKind.u64.bits))).add 1) = Int.ofNat ((lo + hi) / 2 + 1) := by
          rw [hx]; exact wr_nat (i := (lo + hi) / 2 + 1) (by omega)
        refine hih (j - 1) _ _ _ ?_ ⟨rfl, rfl, rfl, (lo + hi) / 2 + 1, hi, congrArg (Value.int .i64) hw, rfl, by omega, by omega, by omega, ?_, hhi⟩
        · omega
        · intro y hy
          rw [iLt_eq] at hlt
          have hlt : (((lo + hi) / 2 * ((lo + hi) / 2) : Nat) : Int) < sq := by simpa using hlt
          have h1 : y ≤ (lo + hi) / 2 := by omega
          have h2 : y * y ≤ (lo + hi) / 2 * ((lo + hi) / 2) := Nat.mul_le_mul h1 h1
          have e : ((y * y : Nat) : Int) = (y : Int) * (y : Int) := Int.natCast_mul _ _
          omega
  · exact ⟨rfl, rfl, rfl, 0, 33554432, rfl, rfl, by omega, by omega, by omega, fun y hy => absurd hy (Nat.not_lt_zero _), .inl rfl⟩

theorem root17 (F d : Nat) (hF : 100 < F) (s : St) (hs : s.nx + 1 < 262144) (q : Nat) (hq : q ≤ 1125899906842624) : Sat (fun K => (cFun Try.prog F 17).run (CL F (d + 2)) ([.int .i64 (Int.ofNat q)] ++ []) K s)
    (fun v s' => Kp 1 s s' ∧ ∃ c lo : Nat, v = .tuple ⟨[.int .i64 (Int.ofNat lo), .int .i64 (Int.ofNat c), .int .i64 0]⟩ ∧ c ≤ 33554432 ∧ (∀ y : Nat, y < c → y * y < q) ∧ q ≤ c * c ∧ (c * c = q ∧ lo = c ∨ c * c ≠ q ∧ lo + 1 = c)) := by
  intro K r hK
  change (cFun Try.prog F 17).run (CL F (d + 2)) ([.int .i64 (Int.ofNat q)] ++ []) K s = r
  conv => lhs; whnf
  rw [blt_of (show s.nx < 262144 by omega)]
  generalize hs1 : s.push _ = s1
  have hA : AtN s1 s.nx 0 [.int .i64 (Int.ofNat q)] := by
    subst hs1
    exact AtN.push (l := [.int .i64 (Int.ofNat q)]) (by show 1 ≤ 32768; omega) (by omega)
  have hkp : Kp 1 s s1 := by subst hs1; exact Kp.push _ (by omega)
  clear hs1
  conv => lhs; whnf
  refine Eq.trans (hA.ld1 (j := 0) rfl rfl _) ?_
  conv => lhs; whnf
  generalize hc : iLt _ 0 = cq
  have hc : cq = false := hc.symm.trans (show iLt (Int.ofNat q) 0 = false by rw [iLt_eq]; simp)
  subst hc
  conv => lhs; whnf
  refine Eq.trans (hA.ld1 (j := 0) rfl rfl _) ?_
  conv => lhs; whnf
  generalize hc : iLt 1125899906842624 _ = cq
  have hc : cq = false := hc.symm.trans (show iLt 1125899906842624 (Int.ofNat q) = false by rw [iLt_eq]; simp; omega)
  subst hc
  conv => lhs; whnf
  refine Sat.callB (g := 45) (cs := []) rfl rfl (search F d hF s1 (Int.ofNat q) s.nx hA) _ _ ?_
  rintro v s2 ⟨rfl, c, rfl, hcm, hlo, hhi⟩
  have hlo : ∀ y : Nat, y < c → y * y < q := fun y hy => by
    have := hlo y hy
    rw [← Int.natCast_mul] at this
    exact Int.ofNat_lt.1 this
  have hhi : q ≤ c * c := by
    rcases hhi with rfl | h
    · omega
    · rw [← Int.natCast_mul] at h
      exact Int.ofNat_le.1 h
  have hcc : c * c ≤ 1125899906842624 := Nat.mul_le_mul hcm hcm
  conv => lhs; whnf
  refine Eq.trans (hA.ld1 (j := 0) rfl rfl _) ?_
  conv => lhs; whnf
  have hw : wr .i64 (Int.mul (Int.ofNat c) (Int.ofNat c)) = Int.ofNat (c * c) := wr_nat (i := c * c) (by omega)
  cases he : iEq (Int.ofNat (c * c)) (Int.ofNat q)
  · generalize hc : iEq _ _ = cq
    have hc : cq = false := hc.symm.trans ((congrArg (iEq · (Int.ofNat q)) hw).trans he)
    subst hc
    have hne : c * c ≠ q := fun e => by rw [e, iEq_self] at he; cases he
    have hc1 : 1 ≤ c := by
      rcases Nat.eq_zero_or_pos c with h0 | h0
      · subst h0; omega
      · exact h0
    have hw2 : wr .i64 (Int.sub (Int.ofNat c) 1) = Int.ofNat (c - 1) := by
      have : Int.sub (Int.ofNat c) 1 = Int.ofNat (c - 1) := by rw [isub]; show (c : Int) - 1 = ((c - 1 : Nat) : Int); omega
      rw [this]; exact wr_nat (by omega)
    conv => lhs; whnf
    refine hK _ _ ⟨hkp, c, c - 1, ?_, hcm, hlo, hhi, .inr ⟨hne, by omega⟩⟩
    exact congrArg (fun x => Value.tuple ⟨[.int .i64 x, .int .i64 (Int.ofNat c), .int .i64 0]⟩) hw2
  · generalize hc : iEq _ _ = cq
    have hc : cq = true := hc.symm.trans ((congrArg (iEq · (Int.ofNat q)) hw).trans he)
    subst hc
    have heq : c * c = q := by
      rw [iEq_eq] at he
      exact Int.ofNat_inj.1 (eq_of_beq he)
    conv => lhs; whnf
    exact hK _ _ ⟨hkp, c, c, rfl, hcm, hlo, hhi, .inl ⟨heq, rfl⟩⟩
end Go.Proofs.Ytmmaccdkinlclaa
