/- Open runs: weights. -/
import Derived.Test.YtkkmgaigingmpaaOpenI
namespace Go.Proofs.Ytkkmgaigingmpaa
open Go.Ab
attribute [local irreducible] iLt iEq wr runLoop ld1 ldN callF Ab.stN Ab.st1
set_option maxRecDepth 100000
set_option maxHeartbeats 4000000

def cw (rows : List (List Int)) (u : Int) (ws : List Int) : Int := bif iEq (Int.ofNat ws.length) (Int.ofNat rows.length) then (bif iLt u 1 then 1 else bif iLt 10000 u then 1 else bif wi 10000 ws then (bif sumOK u (sumRows [0, 0, 0, 0] ws rows) then 0 else 12) else 1) else 4
theorem checkWeights71 (F d : Nat) (s : St) (hs : s.nx + 6000 < 262144) (e : Int) (v : Value) (rows : List (List Int)) (h : SlR s v rows) (hG : Good e rows) (hF : rows.length + 10 < F) (u : Int) (vo : Value) (ws : List Int) (hvo : SlI s vo ws) (hFw : ws.length < F) (hwl : ws.length < 9223372036854775807) :
    Sat (fun K => (cFun Try.prog F 71).run (CL F (d + 1)) [.agg ⟨[.int .i64 e, v]⟩, .agg ⟨[.int .i64 u, vo]⟩] K s) fun x s' => Kp 4000 s s' ∧ x = .int .i64 (cw rows u ws) := by
  intro K r hK
  change (cFun Try.prog F 71).run (CL F (d + 1)) [.agg ⟨[.int .i64 e, v]⟩, .agg ⟨[.int .i64 u, vo]⟩] K s = r
  have fin : ∀ s', Kp 4000 s s' → ∀ x, x = cw rows u ws → K (.int .i64 x) s' = r := fun s' hk x hx => hK _ _ ⟨hk, by rw [hx]⟩
  unfold cw at fin
  obtain ⟨a0, c0, hv⟩ := SlR_len h
  obtain ⟨a3, c3, hvo'⟩ := SlI_len hvo
  conv => lhs; whnf
  rw [blt_of (show s.nx < 262144 by omega)]
  generalize hs1 : s.push _ = s1
  have hA : AtN s1 s.nx 0 [.int .i64 e, v] := by subst hs1; exact AtN.push (l := [.int .i64 e, v]) (by show 2 ≤ 32768; omega) (by omega)
  have hkp : Kp 1 s s1 := by subst hs1; exact Kp.push _ (by omega)
  clear hs1
  have hn1 := hkp.2
  conv => lhs; whnf
  rw [blt_of (show s1.nx < 262144 by omega)]
  generalize hs2 : s1.push _ = s2
  have hB : AtN s2 s1.nx 0 [.int .i64 u, vo] := by subst hs2; exact AtN.push (l := [.int .i64 u, vo]) (by show 2 ≤ 32768; omega) (by omega)
  have hkp2 : Kp 1 s1 s2 := by subst hs2; exact Kp.push _ (by omega)
  clear hs2
  have hn2 := hkp2.2
  have hA2 := hA.keep hkp2.1
  conv => lhs; whnf
  refine Eq.trans (hB.ld1 (j := 1) rfl rfl _) ?_
  rw [hvo']
  conv => lhs; whnf
  refine Eq.trans (hA2.ld1 (j := 1) rfl rfl _) ?_
  rw [hv]
  conv => lhs; whnf
  have hkk2 := hkp.trans hkp2
  generalize hc : iEq _ _ = c1
  have hc : iEq (Int.ofNat ws.length) (Int.ofNat rows.length) = c1 := hc
  rw [hc] at fin
  cases c1
  · conv => lhs; whnf
    exact fin s2 (hkk2.mono (by omega)) _ rfl
  · have hws : ws.length = rows.length := by have := iEq_true hc; have : (ws.length : Int) = (rows.length : Int) := this; omega
    conv => lhs; whnf
    refine Eq.trans (hB.ld1 (j := 0) rfl rfl _) ?_
    conv => lhs; whnf
    generalize c7 : iLt _ _ = c1
    have c7 : iLt u 1 = c1 := c7
    rw [c7] at fin
    cases c1
    · conv => lhs; whnf
      refine Eq.trans (hB.ld1 (j := 0) rfl rfl _) ?_
      conv => lhs; whnf
      generalize c8 : iLt _ _ = c1
      have c8 : iLt 10000 u = c1 := c8
      rw [c8] at fin
      cases c1
      · conv => lhs; whnf
        refine Eq.trans (hB.ld1 (j := 1) rfl rfl _) ?_
        conv => lhs; whnf
        refine Eq.trans (within_call F d _ s2 vo ws 10000 (hvo.keep hkk2.1) hFw hwl) ?_
        cases c9 : wi 10000 ws
        · rw [c9] at fin
          conv => lhs; whnf
          exact fin s2 (hkk2.mono (by omega)) _ rfl
        · rw [c9] at fin
          conv => lhs; whnf
          refine Eq.trans (hA2.ldN rfl rfl _) ?_
          conv => lhs; whnf
          refine Eq.trans (hB.ld1 (j := 1) rfl rfl _) ?_
          conv => lhs; whnf
          refine Eq.trans (hB.ld1 (j := 0) rfl rfl _) ?_
          conv => lhs; whnf
          refine (Sat.call (F := F) (d := d) (g := 83) rfl (sumsTo83 F d s2 (by omega) e v rows (h.keep hkk2.1) hG hF vo ws (hvo.keep hkk2.1) hws u)) _ _ ?_
          rintro x s3 ⟨k3, rfl⟩
          have hk3 := hkk2.trans k3
          cases c10 : sumOK u (sumRows [0, 0, 0, 0] ws rows)
          · rw [c10] at fin
            conv => lhs; whnf
            exact fin s3 (hk3.mono (by omega)) _ rfl
          · rw [c10] at fin
            conv => lhs; whnf
            exact fin s3 (hk3.mono (by omega)) _ rfl
      · conv => lhs; whnf
        exact fin s2 (hkk2.mono (by omega)) _ rfl
    · conv => lhs; whnf
      exact fin s2 (hkk2.mono (by omega)) _ rfl

end Go.Proofs.Ytkkmgaigingmpaa
