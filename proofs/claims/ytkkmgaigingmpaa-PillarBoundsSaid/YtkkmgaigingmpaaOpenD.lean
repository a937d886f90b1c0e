/- Open runs: readings. -/
import Derived.Test.YtkkmgaigingmpaaOpenC
namespace Go.Proofs.Ytkkmgaigingmpaa
open Go.Ab
attribute [local irreducible] iLt iEq wr runLoop ld1 ldN callF Ab.stN Ab.st1
set_option maxRecDepth 100000
set_option maxHeartbeats 4000000

def R2 (ci : List Value) (y : Int × Int) : Prop := ci = [.int .i64 y.1, .int .i64 y.2]
def SlS (s : St) : Value → List (Int × Int) → Prop := Sl s 2 R2
theorem SlS.keep {s s' : St} (h : Keep s s') {v : Value} {l : List (Int × Int)} (hv : SlS s v l) : SlS s' v l := Sl.keep h (fun _ _ h => h) hv
theorem Sl_len {α : Type} {s : St} {sz : Nat} {R : List Value → α → Prop} {v : Value} {l : List α} (h : Sl s sz R v l) : ∃ a c, v = .slice a l.length c := by
  rcases h with ⟨b, o, c, h, _⟩ | ⟨h0, h | h⟩
  · exact ⟨_, _, h⟩
  · subst h0; exact ⟨_, _, h⟩
  · subst h0; exact ⟨_, _, h⟩
/-- an element of what reads as a list -/
theorem Sl_get {α : Type} {s : St} {sz : Nat} {R : List Value → α → Prop} {v : Value} {l : List α} (h : Sl s sz R v l) {i : Nat} {y : α} (hi : l[i]? = some y) : ∃ b o c ci, v = .slice (some ⟨b, o, none⟩) l.length c ∧ R ci y ∧ ci.length = sz ∧ AtN s b (o + i * sz) ci := by
  rcases h with ⟨b, o, c, h, _, hat⟩ | ⟨h0, _⟩
  · obtain ⟨ci, h1, h2, h3⟩ := hat i y hi
    exact ⟨b, o, c, ci, h, h1, h2, h3⟩
  · subst h0; simp at hi
theorem check23_call (F d : Nat) (s : St) (hs : s.nx + 1 < 262144) (e : Int) (v : Value) (rows : List (List Int)) (h : SlR s v rows) (hF : rows.length < F) (hrl : rows.length < 9223372036854775807) (hFr : ∀ r ∈ rows, r.length < F) (hr : ∀ r ∈ rows, r.length < 9223372036854775807) :
    Sat (fun K => CL F (d + 2) (fnv 23) [.agg ⟨[.int .i64 e, v]⟩] K s) fun x s' => Kp 1 s s' ∧ x = .int .i64 (ck e rows) := Sat.call rfl (check23 F d s hs e v rows h hF hrl hFr hr)
theorem check24_call (F d : Nat) (s : St) (hs : s.nx + 600 < 262144) (e : Int) (v : Value) (rows : List (List Int)) (h : SlR s v rows) (hF : rows.length < F) (hrl : rows.length < 9223372036854775807) (hFr : ∀ r ∈ rows, r.length < F) (hr : ∀ r ∈ rows, r.length < 9223372036854775807) :
    Sat (fun K => CL F (d + 2) (fnv 24) [.agg ⟨[.int .i64 e, v]⟩] K s) fun x s' => Kp 500 s s' ∧ x = .int .i64 (ck e rows) := Sat.call rfl (check24 F d s hs e v rows h hF hrl hFr hr)
def rds : List (Int × Int) → Int
  | [] => 0
  | (lo, hi) :: l => bif iLt lo (-1000000) then 1 else bif iLt hi lo then 1 else bif iLt 1000000 hi then 1 else rds l
def rd (e : Int) (rows : List (List Int)) (ss : List (Int × Int)) : Int := bif iEq (ck e rows) 0 then (bif iEq (Int.ofNat ss.length) (Int.ofNat rows.length) then rds ss else 4) else ck e rows
theorem iEq_true {a b : Int} (h : iEq a b = true) : a = b := by rw [iEq_eq] at h; simpa using h
theorem iEq_false {a b : Int} (h : iEq a b = false) : a ≠ b := by rw [iEq_eq] at h; simpa using h
theorem iLt_true {a b : Int} (h : iLt a b = true) : a < b := by rw [iLt_eq] at h; simpa using h
theorem iLt_false {a b : Int} (h : iLt a b = false) : b ≤ a := by rw [iLt_eq] at h; simp at h; omega
/-- a plan without an error -/
structure Good (e : Int) (rows : List (List Int)) : Prop where
  lo : 0 ≤ e
  hi : e ≤ 3
  few : rows.length ≤ 7
  all : ∀ r ∈ rows, (r.length : Int) = e + 1 ∧ wi 3 r = true
theorem ckRows_zero {e : Int} (h0 : 0 ≤ e) (h3 : e ≤ 3) : ∀ {rows : List (List Int)}, ckRows e rows = 0 → ∀ r ∈ rows, (r.length : Int) = e + 1 ∧ wi 3 r = true
  | [], _, r, hr => by cases hr
  | x :: l, h, r, hr => by
    have hw : wr .i64 (Int.add e 1) = e + 1 := by
      obtain ⟨n, rfl⟩ := Int.eq_ofNat_of_zero_le h0
      exact wr_nat (i := n + 1) (by omega)
    unfold ckRows at h
    cases h1 : iEq (Int.ofNat x.length) (wr .i64 (Int.add e 1)) with
    | false => rw [h1] at h; cases h
    | true =>
      cases h2 : wi 3 x with
      | false => rw [h1, h2] at h; cases h
      | true =>
        rw [h1, h2] at h
        cases hr with
        | head =>
          have := iEq_true h1
          rw [hw] at this
          exact ⟨this, h2⟩
        | tail _ hr => exact ckRows_zero h0 h3 h r hr
theorem ck_zero {e : Int} {rows : List (List Int)} (h : iEq (ck e rows) 0 = true) : Good e rows := by
  have h := iEq_true h
  unfold ck at h
  cases h1 : iLt e 0 with
  | true => rw [h1] at h; cases h
  | false =>
    cases h2 : iLt 3 e with
    | true => rw [h1, h2] at h; cases h
    | false =>
      cases h3 : iEq (Int.ofNat rows.length) 0 with
      | true => rw [h1, h2, h3] at h; cases h
      | false =>
        cases h4 : iLt 7 (Int.ofNat rows.length) with
        | true => rw [h1, h2, h3, h4] at h; cases h
        | false =>
          rw [h1, h2, h3, h4] at h
          have a1 := iLt_false h1
          have a2 := iLt_false h2
          have a4 := iLt_false h4
          have a4 : (rows.length : Int) ≤ 7 := a4
          exact ⟨a1, a2, by omega, ckRows_zero a1 a2 h⟩
theorem checkReadings70 (F d : Nat) (s : St) (hs : s.nx + 1000 < 262144) (e : Int) (v : Value) (rows : List (List Int)) (h : SlR s v rows) (hF : rows.length < F) (hrl : rows.length < 9223372036854775807) (hFr : ∀ r ∈ rows, r.length < F) (hr : ∀ r ∈ rows, r.length < 9223372036854775807)
    (vs : Value) (ss : List (Int × Int)) (hss : SlS s vs ss) (hFs : ss.length < F) (hsl : ss.length < 9223372036854775807) :
    Sat (fun K => (cFun Try.prog F 70).run (CL F (d + 2)) [.agg ⟨[.int .i64 e, v]⟩, vs] K s) fun x s' => Kp 10 s s' ∧ x = .int .i64 (rd e rows ss) := by
  intro K r hK
  show (cFun Try.prog F 70).run (CL F (d + 2)) [.agg ⟨[.int .i64 e, v]⟩, vs] K s = r
  have fin : ∀ s', Kp 10 s s' → ∀ x, x = rd e rows ss → K (.int .i64 x) s' = r := fun s' hk x hx => hK _ _ ⟨hk, by rw [hx]⟩
  unfold rd at fin
  obtain ⟨a0, c0, hv⟩ := SlR_len h
  obtain ⟨a3, c3, hvs⟩ := Sl_len hss
  conv => lhs; whnf
  rw [blt_of (show s.nx < 262144 by omega)]
  generalize hs1 : s.push _ = s1
  have hA : AtN s1 s.nx 0 [.int .i64 e, v] := by subst hs1; exact AtN.push (l := [.int .i64 e, v]) (by show 2 ≤ 32768; omega) (by omega)
  have hkp : Kp 1 s s1 := by subst hs1; exact Kp.push _ (by omega)
  clear hs1
  have hk1 := hkp.1
  conv => lhs; whnf
  refine Eq.trans (hA.ldN rfl rfl _) ?_
  conv => lhs; whnf
  refine (check23_call F d s1 (by have := hkp.2; omega) e v rows (h.keep hk1) hF hrl hFr hr) _ _ ?_
  rintro x s2 ⟨k2, rfl⟩
  have hkp2 := hkp.trans k2
  conv => lhs; whnf
  generalize hc : iEq _ _ = c1
  have hc : iEq (ck e rows) 0 = c1 := hc
  rw [hc] at fin
  cases c1
  · conv => lhs; whnf
    exact fin s2 (hkp2.mono (by omega)) _ rfl
  · have hG := ck_zero hc
    rw [hvs]
    conv => lhs; whnf
    have hA2 := hA.keep k2.1
    refine Eq.trans (hA2.ld1 (j := 1) rfl rfl _) ?_
    rw [hv]
    conv => lhs; whnf
    generalize hc : iEq _ _ = c1
    have hc : iEq (Int.ofNat ss.length) (Int.ofNat rows.length) = c1 := hc
    rw [hc] at fin
    cases c1
    · conv => lhs; whnf
      exact fin s2 (hkp2.mono (by omega)) _ rfl
    · have hsn : ss.length ≤ 7 := by
        have := iEq_true hc
        have : (ss.length : Int) = (rows.length : Int) := this
        have := hG.few
        omega
      conv => lhs; whnf
      refine runLoop_rule (fun j m t s' => m = [] ∧ Keep s2 s' ∧ s'.nx + j ≤ s2.nx + ss.length ∧ (getW 2 19).g t = .slice a3 ss.length c3 ∧ (getW 2 20).g t = .int .i64 (Int.ofNat ss.length) ∧
        ∃ i, (getW 2 21).g t = .int .i64 (Int.ofNat i) ∧ i + j = ss.length ∧ rds ss = rds (ss.drop i)) ?_ _ ss.length _ _ _ hFs ?_
      · rintro j m t s' ih ⟨rfl, hk', hnx, h19, h20, i, h21, hij, hn⟩ hih
        have hn2 := hkp2.2
        have hkp' : Kp 9 s s' := ⟨hkp2.1.trans hk', by omega⟩
        obtain ⟨g1_0, g1_1, g1_2, ⟨a3, a11, a19, a27, a35, a43, a51, a59⟩, ⟨a4, a12, a20, a28, a36, a44, a52, a60⟩, ⟨a5, a13, a21, a29, a37, a45, a53, a61⟩, g1_6, g1_7⟩ := t
        have h19 : a19 = _ := h19
        have h20 : a20 = _ := h20
        have h21 : a21 = _ := h21
        subst h19 h20 h21
        conv => lhs; whnf
        cases h3 : iLt (Int.ofNat i) (Int.ofNat ss.length)
        · conv => lhs; whnf
          refine fin s' (hkp'.mono (by omega)) _ ?_
          show _ = rds ss
          rw [hn, drop_nil h3]; rfl
        · obtain ⟨sp, hi, hx, hd⟩ := drop_lt h3
          obtain ⟨lo, hh⟩ := sp
          have hw : wr .i64 ((Int.ofNat i).add 1) = Int.ofNat (i + 1) := wr_nat (show i + 1 < 9223372036854775808 by omega)
          have hfin : ∀ s', Kp 10 s s' → ∀ x, x = rds ((lo, hh) :: ss.drop (i + 1)) → K (.int .i64 x) s' = r := fun s' hk x hx => fin s' hk x (by rw [hx, ← hd, ← hn]; rfl)
          obtain ⟨b, o, c, ci, hv', hR, _, hati⟩ := Sl_get (hss.keep hkp'.1) hx
          have hR : ci = [.int .i64 lo, .int .i64 hh] := hR
          subst hR
          rw [hvs] at hv'
          injection hv' with e1 e2 e3
          subst e1 e3
          conv => lhs; whnf
          rw [blt_of hi]
          conv => lhs; whnf
          refine Eq.trans (hati.ldN rfl rfl _) ?_
          conv => lhs; whnf
          rw [blt_of (show s'.nx < 262144 by omega)]
          generalize hs3 : s'.push _ = s3
          have hO : Own s3 s'.nx [.int .i64 0, .int .i64 0] := by subst hs3; exact Own.push (l := [.int .i64 0, .int .i64 0]) (by show 2 ≤ 32768; omega) (by omega) rfl
          have hk3 : Kp 1 s' s3 := by subst hs3; exact Kp.push _ (by omega)
          clear hs3
          conv => lhs; whnf
          refine hO.stN (by show 0 + 2 ≤ 2; omega) rfl ?_ rfl
          intro s4 hn4 hk4 _ hO4
          have hO4 : Own s4 s'.nx [.int .i64 lo, .int .i64 hh] := hO4
          have hA4 := hO4.at
          have hk4 := hk4 s' (Nat.le_refl _) hk3.1
          have hn3 := hk3.2
          have hkp4 : Kp 10 s s4 := ⟨hkp'.1.trans hk4, by have := hkp'.2; omega⟩
          conv => lhs; whnf
          refine Eq.trans (hA4.ld1 (j := 0) rfl rfl _) ?_
          conv => lhs; whnf
          generalize c7 : iLt lo _ = c1
          have c7 : iLt lo (-1000000) = c1 := c7
          simp only [rds, c7] at hfin
          cases c1
          · conv => lhs; whnf
            refine Eq.trans (hA4.ld1 (j := 0) rfl rfl _) ?_
            conv => lhs; whnf
            refine Eq.trans (hA4.ld1 (j := 1) rfl rfl _) ?_
            conv => lhs; whnf
            generalize c8 : iLt _ _ = c1
            have c8 : iLt hh lo = c1 := c8
            simp only [c8] at hfin
            cases c1
            · conv => lhs; whnf
              refine Eq.trans (hA4.ld1 (j := 1) rfl rfl _) ?_
              conv => lhs; whnf
              generalize c9 : iLt _ _ = c1
              have c9 : iLt 1000000 hh = c1 := c9
              simp only [c9] at hfin
              cases c1
              · conv => lhs; whnf
                refine hih (j - 1) _ _ _ (by omega) ⟨rfl, hk'.trans hk4, by omega, rfl, rfl, i + 1, ?_, by omega, ?_⟩
                · refine Eq.trans ?_ (congrArg (Value.int .i64) hw); kernel_rfl
                · rw [hn, hd]; simp only [rds, c7, c8, c9, cond_false]
              · conv => lhs; whnf
                exact hfin s4 hkp4 _ rfl
            · conv => lhs; whnf
              exact hfin s4 hkp4 _ rfl
          · conv => lhs; whnf
            exact hfin s4 hkp4 _ rfl
      · exact ⟨rfl, .refl _, Nat.le_refl _, rfl, rfl, 0, rfl, Nat.zero_add _, rfl⟩

end Go.Proofs.Ytkkmgaigingmpaa
