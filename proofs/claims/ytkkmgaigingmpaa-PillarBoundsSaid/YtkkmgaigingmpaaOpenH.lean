/- Open runs: the reach of numbers. -/
import Derived.Test.YtkkmgaigingmpaaOpenG
namespace Go.Proofs.Ytkkmgaigingmpaa
open Go.Ab
attribute [local irreducible] iLt iEq wr runLoop ld1 ldN callF Ab.stN Ab.st1
set_option maxRecDepth 100000
set_option maxHeartbeats 4000000

def mn (x y : Int) : Int := bif iLt y x then y else x
def mx (x y : Int) : Int := bif iLt x y then y else x
def reachS : Int → Int → List Int → List (Int × Int) → Int × Int
  | lo, hi, w :: ws, (a, b) :: ss => reachS (wr .i64 (Int.add lo (mn (wr .i64 (Int.mul w a)) (wr .i64 (Int.mul w b))))) (wr .i64 (Int.add hi (mx (wr .i64 (Int.mul w a)) (wr .i64 (Int.mul w b))))) ws ss
  | lo, hi, _, _ => (lo, hi)
theorem reach72 (F d : Nat) (s : St) (hs : s.nx + 5000 < 262144) (vo vs : Value) (ws : List Int) (ss : List (Int × Int)) (hvo : SlI s vo ws) (hvs : SlS s vs ss) (hws : ws.length = ss.length) (hsn : ss.length ≤ 7) (hF : ss.length + 10 < F) :
    Sat (fun K => (cFun Try.prog F 72).run (CL F d) [vo, vs] K s) fun x s' => Kp 4000 s s' ∧ x = .tuple ⟨[.int .i64 (reachS 0 0 ws ss).1, .int .i64 (reachS 0 0 ws ss).2]⟩ := by
  intro K r hK
  change (cFun Try.prog F 72).run (CL F d) [vo, vs] K s = r
  obtain ⟨a0, c0, hvo'⟩ := SlI_len hvo
  obtain ⟨a3, c3, hvs'⟩ := Sl_len hvs
  subst hvo' hvs'
  conv => lhs; whnf
  refine runLoop_rule (fun j m t s' => m = [] ∧ Keep s s' ∧ s'.nx + 100 * j ≤ s.nx + 100 * ss.length ∧ (getW 2 0).g t = .slice a0 ws.length c0 ∧ (getW 2 10).g t = .slice a3 ss.length c3 ∧ (getW 2 11).g t = .int .i64 (Int.ofNat ss.length) ∧
    ∃ i lo hi, (getW 2 12).g t = .int .i64 (Int.ofNat i) ∧ (getW 2 4).g t = .int .i64 lo ∧ (getW 2 5).g t = .int .i64 hi ∧ i + j = ss.length ∧ reachS 0 0 ws ss = reachS lo hi (ws.drop i) (ss.drop i)) ?_ _ ss.length _ _ _ (by omega) ?_
  · rintro j m t s' ih ⟨rfl, hk', hnx, h0, h10, h11, i, lo, hi, h12, h4, h5, hij, hn⟩ hih
    obtain ⟨⟨a0, a8, a16, a24, a32, a40, a48, a56⟩, g1_1, ⟨a2, a10, a18, a26, a34, a42, a50, a58⟩, ⟨a3, a11, a19, a27, a35, a43, a51, a59⟩, ⟨a4, a12, a20, a28, a36, a44, a52, a60⟩, ⟨a5, a13, a21, a29, a37, a45, a53, a61⟩, g1_6, g1_7⟩ := t
    have h0 : a0 = _ := h0
    have h4 : a4 = _ := h4
    have h5 : a5 = _ := h5
    have h10 : a10 = _ := h10
    have h11 : a11 = _ := h11
    have h12 : a12 = _ := h12
    subst h0 h4 h5 h10 h11 h12
    conv => lhs; whnf
    cases h3 : iLt (Int.ofNat i) (Int.ofNat ss.length)
    · conv => lhs; whnf
      rw [hn, drop_nil h3] at hK
      have e0 : ∀ l, reachS lo hi l [] = (lo, hi) := fun l => by cases l <;> rfl
      rw [e0] at hK
      exact hK _ _ ⟨⟨hk', by omega⟩, rfl⟩
    · obtain ⟨sp, hi', hx, hd⟩ := drop_lt h3
      obtain ⟨a, b⟩ := sp
      have hw : wr .i64 ((Int.ofNat i).add 1) = Int.ofNat (i + 1) := wr_nat (show i + 1 < 9223372036854775808 by omega)
      obtain ⟨w, hwi⟩ : ∃ w, ws[i]? = some w := ⟨_, List.getElem?_eq_getElem (by omega)⟩
      obtain ⟨bb, o, c, ci, hv', hR, _, hati⟩ := Sl_get (hvs.keep hk') hx
      have hR : ci = [.int .i64 a, .int .i64 b] := hR
      subst hR
      injection hv' with e1 e2 e3
      subst e1 e3
      obtain ⟨b3, o3, c4, cw, hv3, hRw, _, hatw⟩ := Sl_get (hvo.keep hk') hwi
      have hRw : cw = [.int .i64 w] := hRw
      subst hRw
      injection hv3 with e1 e2 e3
      subst e1 e3
      conv => lhs; whnf
      rw [blt_of hi']
      conv => lhs; whnf
      refine Eq.trans (hati.ldN rfl rfl _) ?_
      conv => lhs; whnf
      rw [blt_of (show s'.nx < 262144 by omega)]
      generalize hs3 : s'.push _ = s3
      have hO : Own s3 s'.nx [.int .i64 0, .int .i64 0] := by subst hs3; exact Own.push (l := [.int .i64 0, .int .i64 0]) (by show 2 ≤ 32768; omega) (by omega) rfl
      have hk3 : Kp 1 s' s3 := by subst hs3; exact Kp.push _ (by omega)
      clear hs3
      conv => lhs; whnf
      refine hO.stN (by show 0 + 2 ≤ 2; omega) rfl ?_ rfl
      intro s4 hn4 hk4 _ hO4
      have hO4 : Own s4 s'.nx [.int .i64 a, .int .i64 b] := hO4
      have hk4 := hk4 s' (Nat.le_refl _) hk3.1
      have hn3 := hk3.2
      conv => lhs; whnf
      generalize hb : Nat.ble (Nat.add s4.nx _) 262144 = cb
      have hb : cb = true := hb.symm.trans (Nat.ble_eq_true_of_le (Nat.le_trans (Nat.add_le_add_left (Nat.le_of_ble_eq_true rfl : _ ≤ 60) _) (show s4.nx + 60 ≤ 262144 by omega)))
      subst hb
      generalize hs5 : St.mk s4.h (Nat.add s4.nx _) = s5
      have ks5 : Kp 60 s4 s5 := by subst hs5; exact Kp.more (Nat.le_of_ble_eq_true rfl)
      clear hs5
      conv => lhs; whnf
      have hn5 := ks5.2
      have hks5 : Keep s s5 := hk'.trans (hk4.trans ks5.1)
      have hA5 := (hO4.keep ks5.1).at
      have hatw := hatw.keep (hk4.trans ks5.1)
      rw [blt_of (show i < ws.length by omega)]
      conv => lhs; whnf
      refine Eq.trans (hatw.ld1 (j := 0) rfl rfl _) ?_
      conv => lhs; whnf
      refine Eq.trans (hA5.ld1 (j := 0) rfl rfl _) ?_
      conv => lhs; whnf
      rw [blt_of (show i < ws.length by omega)]
      conv => lhs; whnf
      refine Eq.trans (hatw.ld1 (j := 0) rfl rfl _) ?_
      conv => lhs; whnf
      refine Eq.trans (hA5.ld1 (j := 1) rfl rfl _) ?_
      conv => lhs; whnf
      refine hih (j - 1) _ _ s5 (by omega) ⟨rfl, hks5, by omega, rfl, rfl, rfl, i + 1, wr .i64 (Int.add lo (mn (wr .i64 (Int.mul w a)) (wr .i64 (Int.mul w b)))), wr .i64 (Int.add hi (mx (wr .i64 (Int.mul w a)) (wr .i64 (Int.mul w b)))), ?_, ?_, ?_, by omega, ?_⟩
      · refine Eq.trans ?_ (congrArg (Value.int .i64) hw); kernel_rfl
      · kernel_rfl
      · kernel_rfl
      · rw [hn, hd, List.drop_eq_getElem_cons (show i < ws.length by omega)]
        have : ws[i]'(by omega) = w := by rw [List.getElem?_eq_getElem (by omega)] at hwi; exact Option.some.inj hwi
        rw [this]; rfl
  · exact ⟨rfl, .refl _, Nat.le_refl _, rfl, rfl, rfl, 0, 0, 0, rfl, rfl, rfl, Nat.zero_add _, rfl⟩
theorem reach67 (F d : Nat) (s : St) (hs : s.nx + 5000 < 262144) (vo vs : Value) (ws : List Int) (ss : List (Int × Int)) (hvo : SlI s vo ws) (hvs : SlS s vs ss) (hws : ws.length = ss.length) (hsn : ss.length ≤ 7) (hF : ss.length + 10 < F) :
    Sat (fun K => (cFun Try.prog F 67).run (CL F d) [vs, vo] K s) fun x s' => Kp 4000 s s' ∧ x = .tuple ⟨[.int .i64 (reachS 0 0 ws ss).1, .int .i64 (reachS 0 0 ws ss).2]⟩ := by
  intro K r hK
  change (cFun Try.prog F 67).run (CL F d) [vs, vo] K s = r
  obtain ⟨a0, c0, hvo'⟩ := SlI_len hvo
  obtain ⟨a3, c3, hvs'⟩ := Sl_len hvs
  subst hvo' hvs'
  conv => lhs; whnf
  refine runLoop_rule (fun j m t s' => m = [] ∧ Keep s s' ∧ s'.nx + 200 * j ≤ s.nx + 200 * ss.length ∧ (getW 2 0).g t = .slice a3 ss.length c3 ∧ (getW 2 1).g t = .slice a0 ws.length c0 ∧
    ∃ i lo hi, (getW 2 8).g t = .int .i64 (Int.ofNat i) ∧ (getW 2 6).g t = .int .i64 lo ∧ (getW 2 7).g t = .int .i64 hi ∧ i + j = ss.length ∧ reachS 0 0 ws ss = reachS lo hi (ws.drop i) (ss.drop i)) ?_ _ ss.length _ _ _ (by omega) ?_
  · rintro j m t s' ih ⟨rfl, hk', hnx, h0, h1, i, lo, hi, h8, h6, h7, hij, hn⟩ hih
    obtain ⟨⟨a0, a8, a16, a24, a32, a40, a48, a56⟩, ⟨a1, a9, a17, a25, a33, a41, a49, a57⟩, g1_2, g1_3, g1_4, g1_5, ⟨a6, a14, a22, a30, a38, a46, a54, a62⟩, ⟨a7, a15, a23, a31, a39, a47, a55, a63⟩⟩ := t
    have h0 : a0 = _ := h0
    have h1 : a1 = _ := h1
    have h6 : a6 = _ := h6
    have h7 : a7 = _ := h7
    have h8 : a8 = _ := h8
    subst h0 h1 h6 h7 h8
    conv => lhs; whnf
    cases h3 : iLt (Int.ofNat i) (Int.ofNat ws.length)
    · conv => lhs; whnf
      have h3 : iLt (Int.ofNat i) (Int.ofNat ss.length) = false := by rw [← hws]; exact h3
      rw [hn, drop_nil h3] at hK
      have e0 : ∀ l, reachS lo hi l [] = (lo, hi) := fun l => by cases l <;> rfl
      rw [e0] at hK
      exact hK _ _ ⟨⟨hk', by omega⟩, rfl⟩
    · have h3 : iLt (Int.ofNat i) (Int.ofNat ss.length) = true := by rw [← hws]; exact h3
      obtain ⟨sp, hi', hx, hd⟩ := drop_lt h3
      obtain ⟨a, b⟩ := sp
      have hw : wr .i64 ((Int.ofNat i).add 1) = Int.ofNat (i + 1) := wr_nat (show i + 1 < 9223372036854775808 by omega)
      obtain ⟨w, hwi⟩ : ∃ w, ws[i]? = some w := ⟨_, List.getElem?_eq_getElem (by omega)⟩
      obtain ⟨bb, o, c, ci, hv', hR, _, hati⟩ := Sl_get (hvs.keep hk') hx
      have hR : ci = [.int .i64 a, .int .i64 b] := hR
      subst hR
      injection hv' with e1 e2 e3
      subst e1 e3
      obtain ⟨b3, o3, c4, cw, hv3, hRw, _, hatw⟩ := Sl_get (hvo.keep hk') hwi
      have hRw : cw = [.int .i64 w] := hRw
      subst hRw
      injection hv3 with e1 e2 e3
      subst e1 e3
      conv => lhs; whnf
      generalize hb : Nat.ble (Nat.add s'.nx _) 262144 = cb
      have hb : cb = true := hb.symm.trans (Nat.ble_eq_true_of_le (Nat.le_trans (Nat.add_le_add_left (Nat.le_of_ble_eq_true rfl : _ ≤ 60) _) (show s'.nx + 60 ≤ 262144 by omega)))
      subst hb
      generalize hs5 : St.mk s'.h (Nat.add s'.nx _) = s5
      have ks5 : Kp 60 s' s5 := by subst hs5; exact Kp.more (Nat.le_of_ble_eq_true rfl)
      clear hs5
      conv => lhs; whnf
      have hn5 := ks5.2
      have hatw := hatw.keep ks5.1
      have hati := hati.keep ks5.1
      rw [blt_of (show i < ws.length by omega)]
      conv => lhs; whnf
      refine Eq.trans (hatw.ld1 (j := 0) rfl rfl _) ?_
      conv => lhs; whnf
      rw [blt_of hi']
      conv => lhs; whnf
      refine Eq.trans (hati.ld1 (j := 0) rfl rfl _) ?_
      conv => lhs; whnf
      rw [blt_of (show i < ws.length by omega)]
      conv => lhs; whnf
      refine Eq.trans (hatw.ld1 (j := 0) rfl rfl _) ?_
      conv => lhs; whnf
      rw [blt_of hi']
      conv => lhs; whnf
      refine Eq.trans (hati.ld1 (j := 1) rfl rfl _) ?_
      conv => lhs; whnf
      refine hih (j - 1) _ _ s5 (by omega) ⟨rfl, hk'.trans ks5.1, by omega, rfl, rfl, i + 1, wr .i64 (Int.add lo (mn (wr .i64 (Int.mul w a)) (wr .i64 (Int.mul w b)))), wr .i64 (Int.add hi (mx (wr .i64 (Int.mul w a)) (wr .i64 (Int.mul w b)))), ?_, ?_, ?_, by omega, ?_⟩
      · refine Eq.trans ?_ (congrArg (Value.int .i64) hw); kernel_rfl
      · kernel_rfl
      · kernel_rfl
      · rw [hn, hd, List.drop_eq_getElem_cons (show i < ws.length by omega)]
        have : ws[i]'(by omega) = w := by rw [List.getElem?_eq_getElem (by omega)] at hwi; exact Option.some.inj hwi
        rw [this]; rfl
  · exact ⟨rfl, .refl _, Nat.le_refl _, rfl, rfl, 0, 0, 0, rfl, rfl, rfl, Nat.zero_add _, rfl⟩

end Go.Proofs.Ytkkmgaigingmpaa
