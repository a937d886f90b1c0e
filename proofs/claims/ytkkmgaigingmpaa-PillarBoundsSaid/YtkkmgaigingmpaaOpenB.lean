/- Open runs: numbers within bounds; plans. -/
import Derived.Test.YtkkmgaigingmpaaOpenA
namespace Go.Proofs.Ytkkmgaigingmpaa
open Go.Ab
theorem Sat.eq {g : KV → Bool} {v : Value} {s : St} (h : ∀ K, g K = K v s) : Sat g fun v' s' => v' = v ∧ s' = s := fun K _ hK => (h K).trans (hK _ _ ⟨rfl, rfl⟩)
attribute [local irreducible] iLt iEq wr runLoop ld1 ldN callF Ab.stN Ab.st1
set_option maxRecDepth 100000
theorem is61 (F : Nat) (call : CallT) (K : KV) (s : St) (a b c : Int) : (cFun Try.prog F 61).run call [.int .i64 a, .int .i64 b, .int .i64 c] K s = K (.bool (!iLt a b && !iLt c a)) s := by
  cases h : iLt a b
  · cases h2 : iLt c a
    · conv => lhs; whnf
      rw [h]
      conv => lhs; whnf
      rw [h2]
      kernel_rfl
    · conv => lhs; whnf
      rw [h]
      conv => lhs; whnf
      rw [h2]
      kernel_rfl
  · conv => lhs; whnf
    rw [h]
    conv => lhs; whnf
    kernel_rfl
theorem is_call (F d : Nat) (K : KV) (s : St) (a b c : Int) : CL F (d + 1) (fnv 61) [.int .i64 a, .int .i64 b, .int .i64 c] K s = K (.bool (!iLt a b && !iLt c a)) s := (call_fn F d 61 rfl _ K s).trans (is61 F _ K s a b c)
def wi (h : Int) : List Int → Bool
  | [] => true
  | x :: l => bif iLt x (IntKind.i64.wrap (0 - h)) then false else bif iLt h x then false else wi h l
theorem within62 (F : Nat) (call : CallT) (K : KV) (s : St) (v : Value) (l : List Int) (h : Int) (hl : SlI s v l) (hF : l.length < F) (hs : l.length < 9223372036854775807) : (cFun Try.prog F 62).run call [v, .int .i64 h] K s = K (.bool (wi h l)) s := by
  obtain ⟨a0, c0, hv⟩ := SlI_len hl
  rw [hv]
  conv => lhs; whnf
  refine runLoop_rule (fun j m t s' => m = [] ∧ s' = s ∧ (getW 2 1).g t = .int .i64 h ∧ (getW 2 7).g t = .slice a0 l.length c0 ∧ (getW 2 8).g t = .int .i64 (Int.ofNat l.length) ∧
    ∃ i, (getW 2 9).g t = .int .i64 (Int.ofNat i) ∧ i + j = l.length ∧ wi h l = wi h (l.drop i)) ?_ _ l.length _ _ _ ?_ ?_
  · rintro j m t s' ih ⟨rfl, rfl, h1, h7, h8, i, h9, hij, hn⟩ hih
    obtain ⟨⟨a0, a8, a16, a24, a32, a40, a48, a56⟩, ⟨a1, a9, a17, a25, a33, a41, a49, a57⟩, c2, c3, c4, c5, c6, ⟨a7, a15, a23, a31, a39, a47, a55, a63⟩⟩ := t
    have h1 : a1 = _ := h1
    have h7 : a7 = _ := h7
    have h8 : a8 = _ := h8
    have h9 : a9 = _ := h9
    subst h1 h7 h8 h9
    conv => lhs; whnf
    cases h3 : iLt (Int.ofNat i) (Int.ofNat l.length)
    · rw [hn, drop_nil h3]
      conv => lhs; whnf
      kernel_rfl
    · obtain ⟨x, hi, hx, hd⟩ := drop_lt h3
      rcases hl with ⟨b, o, c, hv', _, hat⟩ | ⟨h0, _⟩
      · obtain ⟨ci, hR, _, hati⟩ := hat i x hx
        have hR : ci = [.int .i64 x] := hR
        subst hR
        rw [hv] at hv'
        injection hv' with e1 e2 e3
        subst e1 e3
        rw [hn, hd]
        conv => lhs; whnf
        rw [blt_of hi]
        conv => lhs; whnf
        refine Eq.trans (hati.ld1 (j := 0) rfl rfl _) ?_
        conv => lhs; whnf
        cases h4 : iLt x (IntKind.i64.wrap (0 - h))
        · conv => lhs; whnf
          cases h5 : iLt h x
          · conv => lhs; whnf
            have hw : wr .i64 ((Int.ofNat i).add 1) = Int.ofNat (i + 1) := wr_nat (show i + 1 < 9223372036854775808 by omega)
            have hn2 : wi h (x :: List.drop (i + 1) l) = wi h (List.drop (i + 1) l) := by simp only [wi, h4, h5, cond_false]
            rw [← hd, ← hn]
            refine hih (j - 1) _ _ _ (by omega) ⟨rfl, rfl, rfl, rfl, rfl, i + 1, ?_, by omega, ?_⟩
            · refine Eq.trans ?_ (congrArg (Value.int .i64) hw); kernel_rfl
            · rw [hn, hd, hn2]
          · conv => lhs; whnf
            simp only [wi, h4, h5, cond_true, cond_false]
            kernel_rfl
        · conv => lhs; whnf
          simp only [wi, h4, cond_true]
          kernel_rfl
      · subst h0; exact absurd hi (Nat.not_lt_zero _)
  · exact hF
  · exact ⟨rfl, rfl, rfl, rfl, rfl, 0, rfl, Nat.zero_add _, rfl⟩
theorem within_call (F d : Nat) (K : KV) (s : St) (v : Value) (l : List Int) (h : Int) (hl : SlI s v l) (hF : l.length < F) (hs : l.length < 9223372036854775807) : CL F (d + 1) (fnv 62) [v, .int .i64 h] K s = K (.bool (wi h l)) s := (call_fn F d 62 rfl _ K s).trans (within62 F _ K s v l h hl hF hs)
def ckRows (e : Int) : List (List Int) → Int
  | [] => 0
  | r :: l => bif iEq (Int.ofNat r.length) (wr .i64 (Int.add e 1)) then (bif wi 3 r then ckRows e l else 1) else 4
def ck (e : Int) (rows : List (List Int)) : Int := bif iLt e 0 then 1 else bif iLt 3 e then 1 else bif iEq (Int.ofNat rows.length) 0 then 2 else bif iLt 7 (Int.ofNat rows.length) then 3 else ckRows e rows
theorem check23 (F d : Nat) (s : St) (hs : s.nx + 1 < 262144) (e : Int) (v : Value) (rows : List (List Int)) (h : SlR s v rows) (hF : rows.length < F) (hrl : rows.length < 9223372036854775807) (hFr : ∀ r ∈ rows, r.length < F) (hr : ∀ r ∈ rows, r.length < 9223372036854775807) :
    Sat (fun K => (cFun Try.prog F 23).run (CL F (d + 1)) [.agg ⟨[.int .i64 e, v]⟩] K s) fun x s' => Kp 1 s s' ∧ x = .int .i64 (ck e rows) := by
  intro K r hK
  show (cFun Try.prog F 23).run (CL F (d + 1)) [.agg ⟨[.int .i64 e, v]⟩] K s = r
  conv => lhs; whnf
  rw [blt_of (show s.nx < 262144 by omega)]
  generalize hs1 : s.push _ = s1
  have hA : AtN s1 s.nx 0 [.int .i64 e, v] := by subst hs1; exact AtN.push (l := [.int .i64 e, v]) (by show 2 ≤ 32768; omega) (by omega)
  have hkp : Kp 1 s s1 := by subst hs1; exact Kp.push _ (by omega)
  clear hs1
  have hk1 := hkp.1
  obtain ⟨a0, c0, hv⟩ := SlR_len h
  have fin : ∀ x, x = ck e rows → K (.int .i64 x) s1 = r := fun x hx => hK _ _ ⟨hkp, by rw [hx]⟩
  unfold ck at fin
  conv => lhs; whnf
  refine Eq.trans (hA.ld1 (j := 0) rfl rfl _) ?_
  conv => lhs; whnf
  generalize hc : iLt e _ = c1
  have hc : iLt e 0 = c1 := hc
  rw [hc] at fin
  cases c1
  · conv => lhs; whnf
    refine Eq.trans (hA.ld1 (j := 0) rfl rfl _) ?_
    conv => lhs; whnf
    generalize hc : iLt _ e = c1
    have hc : iLt 3 e = c1 := hc
    rw [hc] at fin
    cases c1
    · conv => lhs; whnf
      refine Eq.trans (hA.ld1 (j := 1) rfl rfl _) ?_
      rw [hv]
      conv => lhs; whnf
      generalize hc : iEq _ _ = c1
      have hc : iEq (Int.ofNat rows.length) 0 = c1 := hc
      rw [hc] at fin
      cases c1
      · conv => lhs; whnf
        refine Eq.trans (hA.ld1 (j := 1) rfl rfl _) ?_
        rw [hv]
        conv => lhs; whnf
        generalize hc : iLt _ _ = c1
        have hc : iLt 7 (Int.ofNat rows.length) = c1 := hc
        rw [hc] at fin
        cases c1
        · conv => lhs; whnf
          refine Eq.trans (hA.ld1 (j := 1) rfl rfl _) ?_
          rw [hv]
          conv => lhs; whnf
          refine runLoop_rule (fun j m t s' => m = [] ∧ s' = s1 ∧ (getW 2 1).g t = ptr s.nx 0 ∧ (getW 2 25).g t = .slice a0 rows.length c0 ∧ (getW 2 26).g t = .int .i64 (Int.ofNat rows.length) ∧
            ∃ i, (getW 2 27).g t = .int .i64 (Int.ofNat i) ∧ i + j = rows.length ∧ ckRows e rows = ckRows e (rows.drop i)) ?_ _ rows.length _ _ _ hF ?_
          · rintro j m t s' ih ⟨rfl, rfl, h1, h25, h26, i, h27, hij, hn⟩ hih
            obtain ⟨g1_0, ⟨a1, a9, a17, a25, a33, a41, a49, a57⟩, ⟨a2, a10, a18, a26, a34, a42, a50, a58⟩, ⟨a3, a11, a19, a27, a35, a43, a51, a59⟩, g1_4, g1_5, g1_6, g1_7⟩ := t
            have h1 : a1 = _ := h1
            have h25 : a25 = _ := h25
            have h26 : a26 = _ := h26
            have h27 : a27 = _ := h27
            subst h1 h25 h26 h27
            conv => lhs; whnf
            cases h3 : iLt (Int.ofNat i) (Int.ofNat rows.length)
            · conv => lhs; whnf
              refine fin _ ?_
              show _ = ckRows e rows
              rw [hn, drop_nil h3]; rfl
            · obtain ⟨row, hi, hx, hd⟩ := drop_lt h3
              have hw : wr .i64 ((Int.ofNat i).add 1) = Int.ofNat (i + 1) := wr_nat (show i + 1 < 9223372036854775808 by omega)
              have hfin : ∀ x, x = ckRows e (row :: rows.drop (i + 1)) → K (.int .i64 x) s' = r := fun x hx => fin x (by rw [hx, ← hd, ← hn]; rfl)
              rcases h with ⟨b, o, c, hv', _, hat⟩ | ⟨h0, _⟩
              · obtain ⟨ci, ⟨vi, rfl, hvi⟩, _, hati⟩ := hat i row hx
                have hati := hati.keep hk1
                have hvi' := hvi.keep hk1
                obtain ⟨ai, ci, hve⟩ := SlI_len hvi
                rw [hv] at hv'
                injection hv' with e1 e2 e3
                subst e1 e3
                conv => lhs; whnf
                rw [blt_of hi]
                conv => lhs; whnf
                refine Eq.trans (hati.ld1 (j := 0) rfl rfl _) ?_
                rw [hve] at hvi' ⊢
                conv => lhs; whnf
                refine Eq.trans (hA.ld1 (j := 0) rfl rfl _) ?_
                conv => lhs; whnf
                generalize hc : iEq _ _ = c1
                have hc : iEq (Int.ofNat row.length) (wr .i64 (Int.add e 1)) = c1 := hc
                simp only [ckRows, hc] at hfin
                cases c1
                · conv => lhs; whnf
                  exact hfin _ rfl
                · conv => lhs; whnf
                  refine Eq.trans (within_call F d _ s' _ row 3 hvi' (hFr row (List.mem_of_getElem? hx)) (hr row (List.mem_of_getElem? hx))) ?_
                  cases hwi : wi 3 row
                  · rw [hwi] at hfin
                    conv => lhs; whnf
                    exact hfin _ rfl
                  · conv => lhs; whnf
                    refine hih (j - 1) _ _ _ (by omega) ⟨rfl, rfl, rfl, rfl, rfl, i + 1, ?_, by omega, ?_⟩
                    · refine Eq.trans ?_ (congrArg (Value.int .i64) hw); kernel_rfl
                    · rw [hn, hd]; simp only [ckRows, hc, hwi, cond_true]
              · subst h0; exact absurd hi (Nat.not_lt_zero _)
          · exact ⟨rfl, rfl, rfl, rfl, rfl, 0, rfl, Nat.zero_add _, rfl⟩
        · conv => lhs; whnf
          exact fin _ rfl
      · conv => lhs; whnf
        exact fin _ rfl
    · conv => lhs; whnf
      exact fin _ rfl
  · conv => lhs; whnf
    exact fin _ rfl
end Go.Proofs.Ytkkmgaigingmpaa
