/- Open runs: readings, by the reference. -/
import Derived.Test.YtkkmgaigingmpaaOpenD
namespace Go.Proofs.Ytkkmgaigingmpaa
open Go.Ab
attribute [local irreducible] iLt iEq wr runLoop ld1 ldN callF Ab.stN Ab.st1
set_option maxRecDepth 100000
set_option maxHeartbeats 4000000

theorem read65 (F d : Nat) (s : St) (hs : s.nx + 3000 < 262144) (e : Int) (v : Value) (rows : List (List Int)) (h : SlR s v rows) (hF : rows.length < F) (hrl : rows.length < 9223372036854775807) (hFr : ∀ r ∈ rows, r.length < F) (hr : ∀ r ∈ rows, r.length < 9223372036854775807)
    (vs : Value) (ss : List (Int × Int)) (hss : SlS s vs ss) (hFs : ss.length < F) (hsl : ss.length < 9223372036854775807) :
    Sat (fun K => (cFun Try.prog F 65).run (CL F (d + 2)) [.agg ⟨[.int .i64 e, v]⟩, vs] K s) fun x s' => Kp 1000 s s' ∧ x = .int .i64 (rd e rows ss) := by
  intro K r hK
  show (cFun Try.prog F 65).run (CL F (d + 2)) [.agg ⟨[.int .i64 e, v]⟩, vs] K s = r
  have fin : ∀ s', Kp 1000 s s' → ∀ x, x = rd e rows ss → K (.int .i64 x) s' = r := fun s' hk x hx => hK _ _ ⟨hk, by rw [hx]⟩
  unfold rd at fin
  obtain ⟨a0, c0, hv⟩ := SlR_len h
  obtain ⟨a3, c3, hvs⟩ := Sl_len hss
  conv => lhs; whnf
  rw [blt_of (show s.nx < 262144 by omega)]
  generalize hs1 : s.push _ = s1
  have hA : AtN s1 s.nx 0 [.int .i64 e, v] := by subst hs1; exact AtN.push (l := [.int .i64 e, v]) (by show 2 ≤ 32768; omega) (by omega)
  have hkp : Kp 1 s s1 := by subst hs1; exact Kp.push _ (by omega)
  clear hs1
  have hk1 := hkp.1
  conv => lhs; whnf
  refine Eq.trans (hA.ldN rfl rfl _) ?_
  conv => lhs; whnf
  refine (check24_call F d s1 (by have := hkp.2; omega) e v rows (h.keep hk1) hF hrl hFr hr) _ _ ?_
  rintro x s2 ⟨k2, rfl⟩
  have hkp2 := hkp.trans k2
  conv => lhs; whnf
  generalize hc : iEq _ _ = c1
  have hc : iEq (ck e rows) 0 = c1 := hc
  rw [hc] at fin
  cases c1
  · conv => lhs; whnf
    exact fin s2 (hkp2.mono (by omega)) _ rfl
  · have hG := ck_zero hc
    rw [hvs]
    conv => lhs; whnf
    have hA2 := hA.keep k2.1
    refine Eq.trans (hA2.ld1 (j := 1) rfl rfl _) ?_
    rw [hv]
    conv => lhs; whnf
    generalize hc : iEq _ _ = c1
    have hc : iEq (Int.ofNat ss.length) (Int.ofNat rows.length) = c1 := hc
    rw [hc] at fin
    cases c1
    · conv => lhs; whnf
      exact fin s2 (hkp2.mono (by omega)) _ rfl
    · have hsn : ss.length ≤ 7 := by
        have := iEq_true hc
        have : (ss.length : Int) = (rows.length : Int) := this
        have := hG.few
        omega
      conv => lhs; whnf
      refine runLoop_rule (fun j m t s' => m = [] ∧ Keep s2 s' ∧ s'.nx + 60 * j ≤ s2.nx + 60 * ss.length ∧ (getW 2 1).g t = .slice a3 ss.length c3 ∧
        ∃ i, (getW 2 6).g t = .int .i64 (Int.ofNat i) ∧ i + j = ss.length ∧ rds ss = rds (ss.drop i)) ?_ _ ss.length _ _ _ hFs ?_
      · rintro j m t s' ih ⟨rfl, hk', hnx, h1, i, h6, hij, hn⟩ hih
        have hn2 := hkp2.2
        have hkp' : Kp 1000 s s' := ⟨hkp2.1.trans hk', by omega⟩
        obtain ⟨g1_0, ⟨a1, a9, a17, a25, a33, a41, a49, a57⟩, g1_2, g1_3, g1_4, g1_5, ⟨a6, a14, a22, a30, a38, a46, a54, a62⟩, g1_7⟩ := t
        have h1 : a1 = _ := h1
        have h6 : a6 = _ := h6
        subst h1 h6
        conv => lhs; whnf
        cases h3 : iLt (Int.ofNat i) (Int.ofNat ss.length)
        · conv => lhs; whnf
          refine fin s' hkp' _ ?_
          show _ = rds ss
          rw [hn, drop_nil h3]; rfl
        · obtain ⟨sp, hi, hx, hd⟩ := drop_lt h3
          obtain ⟨lo, hh⟩ := sp
          have hw : wr .i64 ((Int.ofNat i).add 1) = Int.ofNat (i + 1) := wr_nat (show i + 1 < 9223372036854775808 by omega)
          have hfin : ∀ s', Kp 1000 s s' → ∀ x, x = rds ((lo, hh) :: ss.drop (i + 1)) → K (.int .i64 x) s' = r := fun s' hk x hx => fin s' hk x (by rw [hx, ← hd, ← hn]; rfl)
          obtain ⟨b, o, c, ci, hv', hR, _, hati⟩ := Sl_get (hss.keep hkp'.1) hx
          have hR : ci = [.int .i64 lo, .int .i64 hh] := hR
          subst hR
          rw [hvs] at hv'
          injection hv' with e1 e2 e3
          subst e1 e3
          conv => lhs; whnf
          generalize hb : Nat.ble (Nat.add s'.nx _) 262144 = cb
          have hb : cb = true := hb.symm.trans (Nat.ble_eq_true_of_le (Nat.le_trans (Nat.add_le_add_left (Nat.le_of_ble_eq_true rfl : _ ≤ 60) _) (show s'.nx + 60 ≤ 262144 by omega)))
          subst hb
          generalize hs3 : St.mk s'.h (Nat.add s'.nx _) = s3
          have ks3 : Kp 60 s' s3 := by subst hs3; exact Kp.more (Nat.le_of_ble_eq_true rfl)
          clear hs3
          conv => lhs; whnf
          have hati := hati.keep ks3.1
          rw [blt_of hi]
          conv => lhs; whnf
          refine Eq.trans (hati.ld1 (j := 0) rfl rfl _) ?_
          conv => lhs; whnf
          rw [blt_of hi]
          conv => lhs; whnf
          refine Eq.trans (hati.ld1 (j := 1) rfl rfl _) ?_
          conv => lhs; whnf
          refine Eq.trans (is_call F d.succ _ s3 lo (-1000000) hh) ?_
          have hn3 := ks3.2
          have hkp3 : Kp 1000 s s3 := ⟨hkp'.1.trans ks3.1, by omega⟩
          simp only [rds] at hfin
          cases h7 : iLt lo (-1000000)
          · cases h8 : iLt hh lo
            · rw [h7, h8] at hfin
              conv => lhs; whnf
              rw [blt_of hi]
              conv => lhs; whnf
              refine Eq.trans (hati.ld1 (j := 1) rfl rfl _) ?_
              conv => lhs; whnf
              generalize c9 : iLt _ _ = c1
              have c9 : iLt 1000000 hh = c1 := c9
              simp only [c9] at hfin
              cases c1
              · conv => lhs; whnf
                refine hih (j - 1) _ _ s3 (by omega) ⟨rfl, hk'.trans ks3.1, by omega, rfl, i + 1, ?_, by omega, ?_⟩
                · refine Eq.trans ?_ (congrArg (Value.int .i64) hw); kernel_rfl
                · rw [hn, hd]; simp only [rds, h7, h8, c9, cond_false]
              · conv => lhs; whnf
                exact hfin s3 hkp3 _ rfl
            · rw [h7, h8] at hfin
              conv => lhs; whnf
              exact hfin s3 hkp3 _ rfl
          · rw [h7] at hfin
            conv => lhs; whnf
            exact hfin s3 hkp3 _ rfl
      · exact ⟨rfl, .refl _, Nat.le_refl _, rfl, 0, rfl, Nat.zero_add _, rfl⟩
end Go.Proofs.Ytkkmgaigingmpaa
