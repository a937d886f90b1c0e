/- Open runs: sums, by the reference. -/
import Derived.Test.YtkkmgaigingmpaaOpenF
namespace Go.Proofs.Ytkkmgaigingmpaa
open Go.Ab
attribute [local irreducible] iLt iEq wr runLoop ld1 ldN callF Ab.stN Ab.st1
set_option maxRecDepth 100000
set_option maxHeartbeats 4000000

theorem repL_ints : ∀ n, repL [Value.int .i64 0] n = ints (List.replicate n 0)
  | 0 => rfl
  | n + 1 => by show Value.int .i64 0 :: repL _ n = _; rw [repL_ints n]; rfl
theorem sum66 (F d : Nat) (s : St) (hs : s.nx + 5000 < 262144) (n : Nat) (v : Value) (rows : List (List Int)) (h : SlR s v rows) (hG : Good (Int.ofNat n) rows) (hF : rows.length + 10 < F) (vo : Value) (ws : List Int) (hvo : SlI s vo ws) (hws : ws.length = rows.length) :
    Sat (fun K => (cFun Try.prog F 66).run (CL F d) [.agg ⟨[.int .i64 (Int.ofNat n), v]⟩, vo] K s) fun x s' => Kp 4000 s s' ∧ SlI s' x (sumRows (List.replicate (n + 1) 0) ws rows) := by
  intro K r hK
  change (cFun Try.prog F 66).run (CL F d) [.agg ⟨[.int .i64 (Int.ofNat n), v]⟩, vo] K s = r
  obtain ⟨a0, c0, hv⟩ := SlR_len h
  obtain ⟨a3, c3, hvo'⟩ := SlI_len hvo
  subst hvo'
  have hn3 : n ≤ 3 := by have : (n : Int) ≤ 3 := hG.hi; omega
  have hwn : wr .i64 ((Int.ofNat n).add 1) = Int.ofNat (n + 1) := wr_nat (show n + 1 < 9223372036854775808 by omega)
  conv => lhs; whnf
  rw [blt_of (show s.nx < 262144 by omega)]
  generalize hs1 : s.push _ = s1
  have hA : AtN s1 s.nx 0 [.int .i64 (Int.ofNat n), v] := by subst hs1; exact AtN.push (l := [.int .i64 (Int.ofNat n), v]) (by show 2 ≤ 32768; omega) (by omega)
  have hkp : Kp 1 s s1 := by subst hs1; exact Kp.push _ (by omega)
  clear hs1
  have hn1 := hkp.2
  conv => lhs; whnf
  refine Eq.trans (hA.ld1 (j := 0) rfl rfl _) ?_
  conv => lhs; whnf
  rw [hwn]
  conv => lhs; whnf
  rw [show (Nat.ble (n + 1) (n + 1) && Nat.ble (n + 1) 32768) = true by rw [Nat.ble_eq_true_of_le (Nat.le_refl _), Nat.ble_eq_true_of_le (show n + 1 ≤ 32768 by omega)]; rfl]
  conv => lhs; whnf
  generalize hb : Nat.ble _ 32768 = cb
  have hb : cb = true := hb.symm.trans (Nat.ble_eq_true_of_le (show (repL [Value.int .i64 0] (n + 1)).length ≤ 32768 by rw [repL_length]; show (n + 1) * 1 ≤ 32768; omega))
  subst hb
  conv => lhs; whnf
  rw [blt_of (show s1.nx < 262144 by omega)]
  generalize hs2 : s1.push _ = s2
  have hO : Own s2 s1.nx (ints (List.replicate (n + 1) 0)) := by
    subst hs2
    rw [← repL_ints]
    exact Own.push (l := repL [Value.int .i64 0] (n + 1)) (by rw [repL_length]; show (n + 1) * 1 ≤ 32768; omega) (by omega) rfl
  have hkp2 : Kp 1 s1 s2 := by subst hs2; exact Kp.push _ (by omega)
  clear hs2
  have hn2 := hkp2.2
  have hA2 := hA.keep hkp2.1
  conv => lhs; whnf
  refine runLoop_rule (fun j m t s' => m = [] ∧ Keep s1 s' ∧ s'.nx + 300 * j ≤ s2.nx + 300 * rows.length ∧ (getW 2 1).g t = .slice a3 ws.length c3 ∧ (getW 2 2).g t = ptr s.nx 0 ∧ (getW 2 5).g t = slc s1.nx 0 (n + 1) (n + 1) ∧
    ∃ i cur, (getW 2 6).g t = .int .i64 (Int.ofNat i) ∧ i + j = rows.length ∧ Own s' s1.nx (ints cur) ∧ cur.length = n + 1 ∧ sumRows (List.replicate (n + 1) 0) ws rows = sumRows cur (ws.drop i) (rows.drop i)) ?_ _ rows.length _ _ _ (by omega) ?_
  · rintro j m t s' ih ⟨rfl, hk', hnx, h1, h2, h5, i, cur, h6, hij, hO', hcl, hn⟩ hih
    obtain ⟨g1_0, ⟨a1, a9, a17, a25, a33, a41, a49, a57⟩, ⟨a2, a10, a18, a26, a34, a42, a50, a58⟩, g1_3, g1_4, ⟨a5, a13, a21, a29, a37, a45, a53, a61⟩, ⟨a6, a14, a22, a30, a38, a46, a54, a62⟩, g1_7⟩ := t
    have h1 : a1 = _ := h1
    have h2 : a2 = _ := h2
    have h5 : a5 = _ := h5
    have h6 : a6 = _ := h6
    subst h1 h2 h5 h6
    conv => lhs; whnf
    cases h3 : iLt (Int.ofNat i) (Int.ofNat ws.length)
    · conv => lhs; whnf
      have hir : i = rows.length := by have := iLt_false h3; have : (ws.length : Int) ≤ (i : Int) := this; omega
      have e0 : ∀ l, sumRows cur l [] = cur := fun l => by cases l <;> rfl
      refine hK _ _ ⟨⟨hkp.1.trans hk', by have := hG.few; omega⟩, ?_⟩
      rw [hn, List.drop_eq_nil_of_le (show rows.length ≤ i by omega), e0]
      refine .inl ⟨s1.nx, 0, n + 1, ?_, by omega, fun m y hm => ⟨[.int .i64 y], rfl, rfl, ?_⟩⟩
      · rw [hcl]; rfl
      · have hml : m < (ints cur).length := by
          rw [ints_length]
          rcases Nat.lt_or_ge m cur.length with h | h
          · exact h
          · rw [List.getElem?_eq_none h] at hm; cases hm
        have := hO'.part (a := m) (m := 1) (by omega)
        have e1 : ((ints cur).drop m).take 1 = [.int .i64 y] := by
          rw [List.drop_eq_getElem_cons hml]
          have := ints_get hm
          rw [List.getElem?_eq_getElem hml] at this
          simp [Option.some.inj this]
        rw [e1] at this
        rw [Nat.zero_add, Nat.mul_one]; exact this
    · have h3 : iLt (Int.ofNat i) (Int.ofNat rows.length) = true := by rw [← hws]; exact h3
      obtain ⟨row, hi, hx, hd⟩ := drop_lt h3
      have hw : wr .i64 ((Int.ofNat i).add 1) = Int.ofNat (i + 1) := wr_nat (show i + 1 < 9223372036854775808 by have := hG.few; omega)
      have hks : Keep s s' := hkp.1.trans hk'
      obtain ⟨b, o, c, ci, hv', ⟨vi, rfl, hvi⟩, _, hati⟩ := Sl_get h hx
      obtain ⟨ai, ci, hve⟩ := SlI_len hvi
      rw [hv] at hv'
      injection hv' with e1 e2 e3
      subst e1 e3
      obtain ⟨w, hwi⟩ : ∃ w, ws[i]? = some w := ⟨_, List.getElem?_eq_getElem (by omega)⟩
      have hrow := hG.all row (List.mem_of_getElem? hx)
      have hrl : row.length = n + 1 := by have := hrow.1; have : (row.length : Int) = (n : Int) + 1 := this; omega
      conv => lhs; whnf
      refine runLoop_rule (fun jj m t s'' => m = [] ∧ Keep s1 s'' ∧ s''.nx + 70 * jj ≤ s'.nx + 70 * row.length ∧ (getW 2 1).g t = .slice a3 ws.length c3 ∧ (getW 2 2).g t = ptr s.nx 0 ∧ (getW 2 5).g t = slc s1.nx 0 (n + 1) (n + 1) ∧ (getW 2 6).g t = .int .i64 (Int.ofNat i) ∧
        ∃ k c, (getW 2 7).g t = .int .i64 (Int.ofNat k) ∧ k + jj = row.length ∧ Own s'' s1.nx (ints c) ∧ Half w cur row k c) ?_ _ row.length _ _ _ (by omega) ?_
      · rintro jj m t s'' ih' ⟨rfl, hk'', hnx', h1, h2, h5, h6, k, c, h7, hkj, hO'', hH⟩ hih'
        obtain ⟨g1_0, ⟨a1, a9, a17, a25, a33, a41, a49, a57⟩, ⟨a2, a10, a18, a26, a34, a42, a50, a58⟩, g1_3, g1_4, ⟨a5, a13, a21, a29, a37, a45, a53, a61⟩, ⟨a6, a14, a22, a30, a38, a46, a54, a62⟩, ⟨a7, a15, a23, a31, a39, a47, a55, a63⟩⟩ := t
        have h1 : a1 = _ := h1
        have h2 : a2 = _ := h2
        have h5 : a5 = _ := h5
        have h6 : a6 = _ := h6
        have h7 : a7 = _ := h7
        subst h1 h2 h5 h6 h7
        have hA3 := hA.keep hk''
        conv => lhs; whnf
        refine Eq.trans (hA3.ld1 (j := 0) rfl rfl _) ?_
        conv => lhs; whnf
        cases h5 : iLt (Int.ofNat n) (Int.ofNat k)
        · have hkl : k < row.length := by have := iLt_false h5; have : (k : Int) ≤ (n : Int) := this; omega
          obtain ⟨a, hak⟩ : ∃ a, row[k]? = some a := ⟨_, List.getElem?_eq_getElem hkl⟩
          have hw2 : wr .i64 ((Int.ofNat k).add 1) = Int.ofNat (k + 1) := wr_nat (show k + 1 < 9223372036854775808 by omega)
          have hks2 : Keep s s'' := hkp.1.trans hk''
          have hati := hati.keep hks2
          obtain ⟨b2, o2, c2, cx, hv2, hRx, _, hatx⟩ := Sl_get (hvi.keep hks2) hak
          have hRx : cx = [.int .i64 a] := hRx
          subst hRx
          rw [hve] at hv2
          injection hv2 with e1 e2 e3
          subst e1 e3
          obtain ⟨b3, o3, c4, cw, hv3, hRw, _, hatw⟩ := Sl_get (hvo.keep hks2) hwi
          have hRw : cw = [.int .i64 w] := hRw
          subst hRw
          injection hv3 with e1 e2 e3
          subst e1 e3
          have hfew := hG.few
          conv => lhs; whnf
          generalize hb : Nat.ble (Nat.add s''.nx _) 262144 = cb
          have hb : cb = true := hb.symm.trans (Nat.ble_eq_true_of_le (Nat.le_trans (Nat.add_le_add_left (Nat.le_of_ble_eq_true rfl : _ ≤ 60) _) (show s''.nx + 60 ≤ 262144 by omega)))
          subst hb
          generalize hs3 : St.mk s''.h (Nat.add s''.nx _) = s3
          have ks3 : Kp 60 s'' s3 := by subst hs3; exact Kp.more (Nat.le_of_ble_eq_true rfl)
          clear hs3
          conv => lhs; whnf
          have hnx3 := ks3.2
          have hO3 := hO''.keep ks3.1
          have hatw := hatw.keep ks3.1
          have hatx := hatx.keep ks3.1
          have hati := hati.keep ks3.1
          have hA4 := hA3.keep ks3.1
          rw [blt_of (show k < n + 1 by omega)]
          conv => lhs; whnf
          obtain ⟨x, hxk⟩ : ∃ x, cur[k]? = some x := ⟨_, List.getElem?_eq_getElem (by omega)⟩
          obtain ⟨hck, hH2⟩ := hH.step hxk hak
          refine Eq.trans (hO3.at.ld1 (j := k) (ints_get hck) (show 0 + k * 1 = 0 + k by omega) _) ?_
          conv => lhs; whnf
          rw [blt_of (show i < ws.length by omega)]
          conv => lhs; whnf
          refine Eq.trans (hatw.ld1 (j := 0) rfl rfl _) ?_
          conv => lhs; whnf
          refine Eq.trans (hA4.ld1 (j := 1) rfl rfl _) ?_
          rw [hv]
          conv => lhs; whnf
          rw [blt_of hi]
          conv => lhs; whnf
          refine Eq.trans (hati.ld1 (j := 0) rfl rfl _) ?_
          rw [hve]
          conv => lhs; whnf
          rw [blt_of hkl]
          conv => lhs; whnf
          refine Eq.trans (hatx.ld1 (j := 0) rfl rfl _) ?_
          conv => lhs; whnf
          rw [blt_of (show k < n + 1 by omega)]
          conv => lhs; whnf
          have hcl2 := hH.1
          refine hO3.st1 (o := k) (v := .int .i64 (wr .i64 (Int.add x (wr .i64 (Int.mul w a))))) (by rw [ints_length]; omega) rfl ?_ (show 0 + k * 1 = k by omega)
          intro s4 hn4 hk4 _ hO4
          rw [ints_set] at hO4
          conv => lhs; whnf
          refine hih' (jj - 1) _ _ s4 (by omega) ⟨rfl, hk4 s1 (Nat.le_refl _) (hk''.trans ks3.1), by omega, rfl, rfl, rfl, rfl, k + 1, _, ?_, by omega, hO4, hH2⟩
          refine Eq.trans ?_ (congrArg (Value.int .i64) hw2); kernel_rfl
        · conv => lhs; whnf
          have hkr : k = row.length := by have := iLt_true h5; have : (n : Int) < (k : Int) := this; omega
          subst hkr
          have hdn := hH.done
          subst hdn
          refine hih (j - 1) _ _ s'' (by omega) ⟨rfl, hk'', by omega, rfl, rfl, rfl, i + 1, _, ?_, by omega, hO'', hH.1.trans hcl, ?_⟩
          · refine Eq.trans ?_ (congrArg (Value.int .i64) hw); kernel_rfl
          · rw [hn, hd, List.drop_eq_getElem_cons (show i < ws.length by omega)]
            have : ws[i]'(by omega) = w := by rw [List.getElem?_eq_getElem (by omega)] at hwi; exact Option.some.inj hwi
            rw [this]; rfl
      · exact ⟨rfl, hk', Nat.le_refl _, rfl, rfl, rfl, rfl, 0, cur, rfl, Nat.zero_add _, hO', Half.zero _ _ _⟩
  · exact ⟨rfl, hkp2.1, Nat.le_refl _, rfl, rfl, rfl, 0, List.replicate (n + 1) 0, rfl, Nat.zero_add _, hO, List.length_replicate, rfl⟩

end Go.Proofs.Ytkkmgaigingmpaa
