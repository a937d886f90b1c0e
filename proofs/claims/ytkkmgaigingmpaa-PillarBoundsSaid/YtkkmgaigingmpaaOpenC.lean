/- Open runs: the reference's check of a plan. -/
import Derived.Test.YtkkmgaigingmpaaOpenB
namespace Go.Proofs.Ytkkmgaigingmpaa
open Go.Ab
attribute [local irreducible] iLt iEq wr runLoop ld1 ldN callF Ab.stN Ab.st1
set_option maxRecDepth 100000

theorem check24 (F d : Nat) (s : St) (hs : s.nx + 600 < 262144) (e : Int) (v : Value) (rows : List (List Int)) (h : SlR s v rows) (hF : rows.length < F) (hrl : rows.length < 9223372036854775807) (hFr : ∀ r ∈ rows, r.length < F) (hr : ∀ r ∈ rows, r.length < 9223372036854775807) :
    Sat (fun K => (cFun Try.prog F 24).run (CL F (d + 1)) [.agg ⟨[.int .i64 e, v]⟩] K s) fun x s' => Kp 500 s s' ∧ x = .int .i64 (ck e rows) := by
  intro K r hK
  show (cFun Try.prog F 24).run (CL F (d + 1)) [.agg ⟨[.int .i64 e, v]⟩] K s = r
  conv => lhs; whnf
  rw [blt_of (show s.nx < 262144 by omega)]
  generalize hs1 : s.push _ = s1
  have hA : AtN s1 s.nx 0 [.int .i64 e, v] := by subst hs1; exact AtN.push (l := [.int .i64 e, v]) (by show 2 ≤ 32768; omega) (by omega)
  have hkp : Kp 1 s s1 := by subst hs1; exact Kp.push _ (by omega)
  clear hs1
  have hk1 := hkp.1
  obtain ⟨a0, c0, hv⟩ := SlR_len h
  have fin : ∀ s', Kp 500 s s' → ∀ x, x = ck e rows → K (.int .i64 x) s' = r := fun s' hk x hx => hK _ _ ⟨hk, by rw [hx]⟩
  have hkp5 : Kp 500 s s1 := hkp.mono (by omega)
  unfold ck at fin
  conv => lhs; whnf
  refine Eq.trans (hA.ld1 (j := 0) rfl rfl _) ?_
  conv => lhs; whnf
  refine Eq.trans (is_call F d _ s1 e 0 3) ?_
  cases hc1 : iLt e 0
  · cases hc2 : iLt 3 e
    · rw [hc1, hc2] at fin
      conv => lhs; whnf
      refine Eq.trans (hA.ld1 (j := 1) rfl rfl _) ?_
      rw [hv]
      conv => lhs; whnf
      generalize hc : iEq _ _ = c1
      have hc : iEq (Int.ofNat rows.length) 0 = c1 := hc
      rw [hc] at fin
      cases c1
      · conv => lhs; whnf
        refine Eq.trans (hA.ld1 (j := 1) rfl rfl _) ?_
        rw [hv]
        conv => lhs; whnf
        generalize hc : iLt _ _ = c1
        have hc : iLt 7 (Int.ofNat rows.length) = c1 := hc
        rw [hc] at fin
        cases c1
        · conv => lhs; whnf
          have hr7 : rows.length ≤ 7 := by
            rw [iLt_eq] at hc; simp at hc; omega
          refine runLoop_rule (fun j m t s' => m = [] ∧ Keep s1 s' ∧ s'.nx + 70 * j ≤ s.nx + 491 ∧ (getW 2 1).g t = ptr s.nx 0 ∧ ∃ i, (getW 2 3).g t = .int .i64 (Int.ofNat i) ∧ i + j = rows.length ∧ ckRows e rows = ckRows e (rows.drop i)) ?_ _ rows.length _ _ _ hF ?_
          · rintro j m t s' ih ⟨rfl, hk', hnx, h1, i, h3, hij, hn⟩ hih
            obtain ⟨g1_0, ⟨a1, a9, a17, a25, a33, a41, a49, a57⟩, g1_2, ⟨a3, a11, a19, a27, a35, a43, a51, a59⟩, g1_4, g1_5, g1_6, g1_7⟩ := t
            have h1 : a1 = _ := h1
            have h3 : a3 = _ := h3
            subst h1 h3
            conv => lhs; whnf
            have hA' := hA.keep hk'
            refine Eq.trans (hA'.ld1 (j := 1) rfl rfl _) ?_
            rw [hv]
            conv => lhs; whnf
            cases h3 : iLt (Int.ofNat i) (Int.ofNat rows.length)
            · conv => lhs; whnf
              refine fin s' ⟨hk1.trans hk', by omega⟩ _ ?_
              show _ = ckRows e rows
              rw [hn, drop_nil h3]; rfl
            · obtain ⟨row, hi, hx, hd⟩ := drop_lt h3
              have hw : wr .i64 ((Int.ofNat i).add 1) = Int.ofNat (i + 1) := wr_nat (show i + 1 < 9223372036854775808 by omega)
              have hfin : ∀ s', Kp 500 s s' → ∀ x, x = ckRows e (row :: rows.drop (i + 1)) → K (.int .i64 x) s' = r := fun s' hk x hx => fin s' hk x (by rw [hx, ← hd, ← hn]; rfl)
              rcases h with ⟨b, o, c, hv', _, hat⟩ | ⟨h0, _⟩
              · obtain ⟨ci, ⟨vi, rfl, hvi⟩, _, hati⟩ := hat i row hx
                obtain ⟨ai, ci, hve⟩ := SlI_len hvi
                rw [hv] at hv'
                injection hv' with e1 e2 e3
                subst e1 e3
                conv => lhs; whnf
                generalize hb : Nat.ble (Nat.add s'.nx _) 262144 = cb
                have hb : cb = true := hb.symm.trans (Nat.ble_eq_true_of_le (Nat.le_trans (Nat.add_le_add_left (Nat.le_of_ble_eq_true rfl : _ ≤ 60) _) (show s'.nx + 60 ≤ 262144 by omega)))
                subst hb
                generalize hs2 : St.mk s'.h (Nat.add s'.nx _) = s2
                have ks2 : Kp 60 s' s2 := by subst hs2; exact Kp.more (Nat.le_of_ble_eq_true rfl)
                clear hs2
                conv => lhs; whnf
                have hks := (hk1.trans hk').trans ks2.1
                have hati := hati.keep hks
                have hA2 := hA'.keep ks2.1
                have hvi' := hvi.keep hks
                have hn2 := ks2.2
                refine Eq.trans (hA2.ld1 (j := 1) rfl rfl _) ?_
                rw [hv]
                conv => lhs; whnf
                rw [blt_of hi]
                conv => lhs; whnf
                refine Eq.trans (hati.ld1 (j := 0) rfl rfl _) ?_
                rw [hve]
                conv => lhs; whnf
                refine Eq.trans (hA2.ld1 (j := 0) rfl rfl _) ?_
                conv => lhs; whnf
                generalize hc : iEq _ _ = c1
                have hc : iEq (Int.ofNat row.length) (wr .i64 (Int.add e 1)) = c1 := hc
                simp only [ckRows, hc] at hfin
                cases c1
                · conv => lhs; whnf
                  exact hfin s2 ⟨hks, by omega⟩ _ rfl
                · conv => lhs; whnf
                  refine runLoop_rule (fun j' m t s' => m = [] ∧ s' = s2 ∧ (getW 2 1).g t = ptr s.nx 0 ∧ (getW 2 3).g t = .int .i64 (Int.ofNat i) ∧ ∃ k, (getW 2 4).g t = .int .i64 (Int.ofNat k) ∧ k + j' = row.length ∧ wi 3 row = wi 3 (row.drop k)) ?_ _ row.length _ _ _ (hFr row (List.mem_of_getElem? hx)) ?_
                  · rintro j' m t s' ih' ⟨rfl, rfl, h1, h3, k, h4, hkj, hwn⟩ hih'
                    obtain ⟨g1_0, ⟨a1, a9, a17, a25, a33, a41, a49, a57⟩, g1_2, ⟨a3, a11, a19, a27, a35, a43, a51, a59⟩, ⟨a4, a12, a20, a28, a36, a44, a52, a60⟩, g1_5, g1_6, g1_7⟩ := t
                    have h1 : a1 = _ := h1
                    have h3 : a3 = _ := h3
                    have h4 : a4 = _ := h4
                    subst h1 h3 h4
                    conv => lhs; whnf
                    refine Eq.trans (hA2.ld1 (j := 1) rfl rfl _) ?_
                    rw [hv]
                    conv => lhs; whnf
                    rw [blt_of hi]
                    conv => lhs; whnf
                    refine Eq.trans (hati.ld1 (j := 0) rfl rfl _) ?_
                    rw [hve]
                    conv => lhs; whnf
                    cases h6 : iLt (Int.ofNat k) (Int.ofNat row.length)
                    · conv => lhs; whnf
                      have hwi : wi 3 row = true := by rw [hwn, drop_nil h6]; rfl
                      refine hih (j - 1) _ _ _ (by omega) ⟨rfl, hk'.trans ks2.1, by omega, rfl, i + 1, ?_, by omega, ?_⟩
                      · refine Eq.trans ?_ (congrArg (Value.int .i64) hw); kernel_rfl
                      · rw [hn, hd]; simp only [ckRows, hc, hwi, cond_true]
                    · obtain ⟨x, hkl, hxk, hdk⟩ := drop_lt h6
                      have hrr := hr row (List.mem_of_getElem? hx)
                      have hw2 : wr .i64 ((Int.ofNat k).add 1) = Int.ofNat (k + 1) := wr_nat (show k + 1 < 9223372036854775808 by omega)
                      conv => lhs; whnf
                      rcases hvi' with ⟨b2, o2, c2, hv2, _, hat2⟩ | ⟨h0, _⟩
                      · obtain ⟨cx, hR, _, hatx⟩ := hat2 k x hxk
                        have hR : cx = [.int .i64 x] := hR
                        subst hR
                        refine Eq.trans (hA2.ld1 (j := 1) rfl rfl _) ?_
                        rw [hv]
                        conv => lhs; whnf
                        rw [blt_of hi]
                        conv => lhs; whnf
                        refine Eq.trans (hati.ld1 (j := 0) rfl rfl _) ?_
                        rw [hv2]
                        conv => lhs; whnf
                        rw [blt_of hkl]
                        conv => lhs; whnf
                        refine Eq.trans (hatx.ld1 (j := 0) rfl rfl _) ?_
                        conv => lhs; whnf
                        refine Eq.trans (is_call F d _ s' x (-3) 3) ?_
                        have hwd : wi 3 (x :: row.drop (k + 1)) = (bif iLt x (-3) then false else bif iLt 3 x then false else wi 3 (row.drop (k + 1))) := rfl
                        rw [hwn, hdk, hwd] at hfin
                        cases h7 : iLt x (-3)
                        · cases h8 : iLt 3 x
                          · conv => lhs; whnf
                            refine hih' (j' - 1) _ _ _ (by omega) ⟨rfl, rfl, rfl, rfl, k + 1, ?_, by omega, ?_⟩
                            · refine Eq.trans ?_ (congrArg (Value.int .i64) hw2); kernel_rfl
                            · rw [hwn, hdk, hwd, h7, h8]; rfl
                          · rw [h7, h8] at hfin
                            conv => lhs; whnf
                            exact hfin s' ⟨hks, by omega⟩ _ rfl
                        · rw [h7] at hfin
                          conv => lhs; whnf
                          exact hfin s' ⟨hks, by omega⟩ _ rfl
                      · subst h0; exact absurd hkl (Nat.not_lt_zero _)
                  · exact ⟨rfl, rfl, rfl, rfl, 0, rfl, Nat.zero_add _, rfl⟩
              · subst h0; exact absurd hi (Nat.not_lt_zero _)
          · exact ⟨rfl, .refl _, by have := hkp.2; omega, rfl, 0, rfl, Nat.zero_add _, rfl⟩
        · conv => lhs; whnf
          exact fin _ hkp5 _ rfl
      · conv => lhs; whnf
        exact fin _ hkp5 _ rfl
    · rw [hc1, hc2] at fin
      conv => lhs; whnf
      exact fin _ hkp5 _ rfl
  · rw [hc1] at fin
    conv => lhs; whnf
    exact fin _ hkp5 _ rfl

end Go.Proofs.Ytkkmgaigingmpaa
