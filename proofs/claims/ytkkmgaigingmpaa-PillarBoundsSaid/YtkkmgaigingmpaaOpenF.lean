/- Open runs: sums. -/
import Derived.Test.YtkkmgaigingmpaaOpenE
namespace Go.Proofs.Ytkkmgaigingmpaa
open Go.Ab
attribute [local irreducible] iLt iEq wr runLoop ld1 ldN callF Ab.stN Ab.st1
set_option maxRecDepth 100000
set_option maxHeartbeats 4000000

def addRow (w : Int) : List Int → List Int → List Int
  | x :: xs, a :: l => wr .i64 (Int.add x (wr .i64 (Int.mul w a))) :: addRow w xs l
  | xs, [] => xs
  | [], _ :: _ => []
def ints (l : List Int) : List Value := l.map (Value.int .i64)
def sumRows : List Int → List Int → List (List Int) → List Int
  | sm, w :: ws, r :: rs => sumRows (addRow w sm r) ws rs
  | sm, _, _ => sm
theorem addRow_length (w : Int) : ∀ {xs l : List Int}, l.length ≤ xs.length → (addRow w xs l).length = xs.length
  | [], [], _ => rfl
  | _ :: _, [], _ => rfl
  | [], _ :: _, h => by simp at h
  | x :: xs, a :: l, h => by simp only [addRow, List.length_cons, addRow_length w (xs := xs) (l := l) (by simpa using h)]
theorem addRow_get (w : Int) : ∀ {xs l : List Int} {k : Nat} {x a : Int}, xs[k]? = some x → l[k]? = some a → (addRow w xs l)[k]? = some (wr .i64 (Int.add x (wr .i64 (Int.mul w a))))
  | x :: xs, a :: l, 0, _, _, h1, h2 => by simp at h1 h2; subst h1 h2; rfl
  | x :: xs, a :: l, k + 1, _, _, h1, h2 => by simp at h1 h2; simpa [addRow] using addRow_get w h1 h2
  | [], _, _, _, _, h1, _ => by simp at h1
  | _ :: _, [], _, _, _, _, h2 => by simp at h2
theorem addRow_rest (w : Int) : ∀ {xs l : List Int} {k : Nat}, l.length ≤ k → (addRow w xs l)[k]? = xs[k]?
  | [], [], _, _ => rfl
  | _ :: _, [], _, _ => rfl
  | [], _ :: _, _, _ => rfl
  | x :: xs, a :: l, 0, h => by simp at h
  | x :: xs, a :: l, k + 1, h => by simpa [addRow] using addRow_rest w (xs := xs) (l := l) (k := k) (by simpa using h)
/-- a row half added -/
def Half (w : Int) (xs l : List Int) (k : Nat) (c : List Int) : Prop := c.length = xs.length ∧ ∀ m, c[m]? = if m < k then (addRow w xs l)[m]? else xs[m]?
theorem Half.zero (w : Int) (xs l : List Int) : Half w xs l 0 xs := ⟨rfl, fun m => by rw [if_neg (by omega)]⟩
theorem Half.step {w : Int} {xs l : List Int} {k : Nat} {c : List Int} (h : Half w xs l k c) {x a : Int} (hx : xs[k]? = some x) (ha : l[k]? = some a) : c[k]? = some x ∧ Half w xs l (k + 1) (c.set k (wr .i64 (Int.add x (wr .i64 (Int.mul w a))))) := by
  obtain ⟨h1, h2⟩ := h
  have hk : k < c.length := by
    rcases Nat.lt_or_ge k xs.length with h | h
    · omega
    · rw [List.getElem?_eq_none h] at hx; cases hx
  refine ⟨by rw [h2 k, if_neg (by omega)]; exact hx, by rw [List.length_set]; exact h1, fun m => ?_⟩
  by_cases hm : m = k
  · subst hm
    rw [List.getElem?_set_self hk, if_pos (by omega), addRow_get w hx ha]
  · rw [List.getElem?_set_ne (by omega), h2 m]
    by_cases hmk : m < k
    · rw [if_pos hmk, if_pos (by omega)]
    · rw [if_neg hmk, if_neg (by omega)]
theorem Half.done {w : Int} {xs l : List Int} {c : List Int} (h : Half w xs l l.length c) : c = addRow w xs l := by
  refine List.ext_getElem? fun m => ?_
  rw [h.2 m]
  by_cases hm : m < l.length
  · rw [if_pos hm]
  · rw [if_neg hm, addRow_rest w (by omega)]
theorem ints_set (l : List Int) (k : Nat) (x : Int) : (ints l).set k (.int .i64 x) = ints (l.set k x) := by unfold ints; rw [List.map_set]
theorem ints_get {l : List Int} {k : Nat} {x : Int} (h : l[k]? = some x) : (ints l)[k]? = some (.int .i64 x) := by unfold ints; rw [List.getElem?_map, h]; rfl
theorem ints_length (l : List Int) : (ints l).length = l.length := by unfold ints; rw [List.length_map]
def zs : List Int → Bool
  | [] => true
  | x :: l => iEq x 0 && zs l
def sumOK (u : Int) : List Int → Bool
  | [] => true
  | x :: l => iEq x u && zs l
theorem sumsTo83 (F d : Nat) (s : St) (hs : s.nx + 5000 < 262144) (e : Int) (v : Value) (rows : List (List Int)) (h : SlR s v rows) (hG : Good e rows) (hF : rows.length + 10 < F) (vo : Value) (ws : List Int) (hvo : SlI s vo ws) (hws : ws.length = rows.length) (u : Int) :
    Sat (fun K => (cFun Try.prog F 83).run (CL F d) [.agg ⟨[.int .i64 e, v]⟩, vo, .int .i64 u] K s) fun x s' => Kp 3000 s s' ∧ x = .bool (sumOK u (sumRows [0, 0, 0, 0] ws rows)) := by
  intro K r hK
  change (cFun Try.prog F 83).run (CL F d) [.agg ⟨[.int .i64 e, v]⟩, vo, .int .i64 u] K s = r
  obtain ⟨a0, c0, hv⟩ := SlR_len h
  obtain ⟨a3, c3, hvo'⟩ := SlI_len hvo
  subst hvo'
  conv => lhs; whnf
  rw [blt_of (show s.nx < 262144 by omega)]
  generalize hs1 : s.push _ = s1
  have hA : AtN s1 s.nx 0 [.int .i64 e, v] := by subst hs1; exact AtN.push (l := [.int .i64 e, v]) (by show 2 ≤ 32768; omega) (by omega)
  have hkp : Kp 1 s s1 := by subst hs1; exact Kp.push _ (by omega)
  clear hs1
  have hn1 := hkp.2
  conv => lhs; whnf
  rw [blt_of (show s1.nx < 262144 by omega)]
  generalize hs2 : s1.push _ = s2
  have hO : Own s2 s1.nx (ints [0, 0, 0, 0]) := by subst hs2; exact Own.push (l := ints [0, 0, 0, 0]) (by show 4 ≤ 32768; omega) (by omega) rfl
  have hkp2 : Kp 1 s1 s2 := by subst hs2; exact Kp.push _ (by omega)
  clear hs2
  have hn2 := hkp2.2
  have hA2 := hA.keep hkp2.1
  conv => lhs; whnf
  refine Eq.trans (hA2.ld1 (j := 1) rfl rfl _) ?_
  rw [hv]
  conv => lhs; whnf
  refine runLoop_rule (fun j m t s' => m = [] ∧ Keep s1 s' ∧ s'.nx + 300 * j ≤ s2.nx + 300 * rows.length ∧ (getW 2 1).g t = .slice a3 ws.length c3 ∧ (getW 2 2).g t = .int .i64 u ∧ (getW 2 3).g t = ptr s.nx 0 ∧ (getW 2 7).g t = ptr s1.nx 0 ∧ (getW 2 13).g t = .slice a0 rows.length c0 ∧ (getW 2 14).g t = .int .i64 (Int.ofNat rows.length) ∧
    ∃ i cur, (getW 2 15).g t = .int .i64 (Int.ofNat i) ∧ i + j = rows.length ∧ Own s' s1.nx (ints cur) ∧ cur.length = 4 ∧ sumRows [0, 0, 0, 0] ws rows = sumRows cur (ws.drop i) (rows.drop i)) ?_ _ rows.length _ _ _ (by omega) ?_
  · rintro j m t s' ih ⟨rfl, hk', hnx, h1, h2, h3, h7, h13, h14, i, cur, h15, hij, hO', hcl, hn⟩ hih
    obtain ⟨g1_0, ⟨a1, a9, a17, a25, a33, a41, a49, a57⟩, ⟨a2, a10, a18, a26, a34, a42, a50, a58⟩, ⟨a3, a11, a19, a27, a35, a43, a51, a59⟩, g1_4, ⟨a5, a13, a21, a29, a37, a45, a53, a61⟩, ⟨a6, a14, a22, a30, a38, a46, a54, a62⟩, ⟨a7, a15, a23, a31, a39, a47, a55, a63⟩⟩ := t
    have h1 : a1 = _ := h1
    have h2 : a2 = _ := h2
    have h3 : a3 = _ := h3
    have h7 : a7 = _ := h7
    have h13 : a13 = _ := h13
    have h14 : a14 = _ := h14
    have h15 : a15 = _ := h15
    subst h1 h2 h3 h7 h13 h14 h15
    conv => lhs; whnf
    cases h3 : iLt (Int.ofNat i) (Int.ofNat rows.length)
    · conv => lhs; whnf
      obtain ⟨x0, x1, x2, x3, rfl⟩ : ∃ x0 x1 x2 x3, cur = [x0, x1, x2, x3] := by
        match cur, hcl with
        | [x0, x1, x2, x3], _ => exact ⟨_, _, _, _, rfl⟩
      refine Eq.trans (hO'.at.ldN rfl rfl _) ?_
      conv => lhs; whnf
      refine hK _ _ ⟨⟨hkp.1.trans hk', by have := hG.few; omega⟩, ?_⟩
      rw [hn, drop_nil h3]
      have e0 : ∀ l, sumRows [x0, x1, x2, x3] l [] = [x0, x1, x2, x3] := fun l => by cases l <;> rfl
      rw [e0]; rfl
    · obtain ⟨row, hi, hx, hd⟩ := drop_lt h3
      have hw : wr .i64 ((Int.ofNat i).add 1) = Int.ofNat (i + 1) := wr_nat (show i + 1 < 9223372036854775808 by have := hG.few; omega)
      have hks : Keep s s' := hkp.1.trans hk'
      obtain ⟨b, o, c, ci, hv', ⟨vi, rfl, hvi⟩, _, hati⟩ := Sl_get h hx
      have hati := hati.keep hks
      obtain ⟨ai, ci, hve⟩ := SlI_len hvi
      rw [hv] at hv'
      injection hv' with e1 e2 e3
      subst e1 e3
      conv => lhs; whnf
      rw [blt_of hi]
      conv => lhs; whnf
      refine Eq.trans (hati.ld1 (j := 0) rfl rfl _) ?_
      rw [hve]
      conv => lhs; whnf
      obtain ⟨w, hwi⟩ : ∃ w, ws[i]? = some w := ⟨_, List.getElem?_eq_getElem (by omega)⟩
      have hrow := hG.all row (List.mem_of_getElem? hx)
      have hrl : row.length ≤ 4 := by have := hG.hi; omega
      refine runLoop_rule (fun jj m t s'' => m = [] ∧ Keep s1 s'' ∧ s''.nx + 70 * jj ≤ s'.nx + 70 * row.length ∧ (getW 2 1).g t = .slice a3 ws.length c3 ∧ (getW 2 2).g t = .int .i64 u ∧ (getW 2 3).g t = ptr s.nx 0 ∧ (getW 2 7).g t = ptr s1.nx 0 ∧ (getW 2 8).g t = .int .i64 (Int.ofNat i) ∧ (getW 2 13).g t = .slice (some ⟨b, o, none⟩) rows.length c0 ∧ (getW 2 14).g t = .int .i64 (Int.ofNat rows.length) ∧ (getW 2 15).g t = .int .i64 (Int.ofNat i) ∧ (getW 2 20).g t = .slice ai row.length ci ∧ (getW 2 21).g t = .int .i64 (Int.ofNat row.length) ∧
        ∃ k c, (getW 2 22).g t = .int .i64 (Int.ofNat k) ∧ k + jj = row.length ∧ Own s'' s1.nx (ints c) ∧ Half w cur row k c) ?_ _ row.length _ _ _ (by omega) ?_
      · rintro jj m t s'' ih' ⟨rfl, hk'', hnx', h1, h2, h3, h7, h8, h13, h14, h15, h20, h21, k, c, h22, hkj, hO'', hH⟩ hih'
        obtain ⟨⟨a0, a8, a16, a24, a32, a40, a48, a56⟩, ⟨a1, a9, a17, a25, a33, a41, a49, a57⟩, ⟨a2, a10, a18, a26, a34, a42, a50, a58⟩, ⟨a3, a11, a19, a27, a35, a43, a51, a59⟩, ⟨a4, a12, a20, a28, a36, a44, a52, a60⟩, ⟨a5, a13, a21, a29, a37, a45, a53, a61⟩, ⟨a6, a14, a22, a30, a38, a46, a54, a62⟩, ⟨a7, a15, a23, a31, a39, a47, a55, a63⟩⟩ := t
        have h1 : a1 = _ := h1
        have h2 : a2 = _ := h2
        have h3 : a3 = _ := h3
        have h7 : a7 = _ := h7
        have h8 : a8 = _ := h8
        have h13 : a13 = _ := h13
        have h14 : a14 = _ := h14
        have h15 : a15 = _ := h15
        have h20 : a20 = _ := h20
        have h21 : a21 = _ := h21
        have h22 : a22 = _ := h22
        subst h1 h2 h3 h7 h8 h13 h14 h15 h20 h21 h22
        conv => lhs; whnf
        cases h5 : iLt (Int.ofNat k) (Int.ofNat row.length)
        · conv => lhs; whnf
          have hkr : k = row.length := by have := iLt_false h5; have : (row.length : Int) ≤ (k : Int) := this; omega
          subst hkr
          have hdn := hH.done
          subst hdn
          refine hih (j - 1) _ _ s'' (by omega) ⟨rfl, hk'', by omega, rfl, rfl, rfl, rfl, rfl, rfl, i + 1, _, ?_, by omega, hO'', hH.1.trans hcl, ?_⟩
          · refine Eq.trans ?_ (congrArg (Value.int .i64) hw); kernel_rfl
          · rw [hn, hd, List.drop_eq_getElem_cons (show i < ws.length by omega)]
            have : ws[i]'(by omega) = w := by rw [List.getElem?_eq_getElem (by omega)] at hwi; exact Option.some.inj hwi
            rw [this]; rfl
        · obtain ⟨a, hkl, hak, hdk⟩ := drop_lt h5
          have hw2 : wr .i64 ((Int.ofNat k).add 1) = Int.ofNat (k + 1) := wr_nat (show k + 1 < 9223372036854775808 by omega)
          have hks2 : Keep s s'' := hkp.1.trans hk''
          obtain ⟨b2, o2, c2, cx, hv2, hRx, _, hatx⟩ := Sl_get (hvi.keep hks2) hak
          have hRx : cx = [.int .i64 a] := hRx
          subst hRx
          rw [hve] at hv2
          injection hv2 with e1 e2 e3
          subst e1 e3
          obtain ⟨b3, o3, c4, cw, hv3, hRw, _, hatw⟩ := Sl_get (hvo.keep hks2) hwi
          have hRw : cw = [.int .i64 w] := hRw
          subst hRw
          injection hv3 with e1 e2 e3
          subst e1 e3
          conv => lhs; whnf
          rw [blt_of hkl]
          conv => lhs; whnf
          refine Eq.trans (hatx.ld1 (j := 0) rfl rfl _) ?_
          conv => lhs; whnf
          have hfew := hG.few
          generalize hb : Nat.ble (Nat.add s''.nx _) 262144 = cb
          have hb : cb = true := hb.symm.trans (Nat.ble_eq_true_of_le (Nat.le_trans (Nat.add_le_add_left (Nat.le_of_ble_eq_true rfl : _ ≤ 60) _) (show s''.nx + 60 ≤ 262144 by omega)))
          subst hb
          generalize hs3 : St.mk s''.h (Nat.add s''.nx _) = s3
          have ks3 : Kp 60 s'' s3 := by subst hs3; exact Kp.more (Nat.le_of_ble_eq_true rfl)
          clear hs3
          conv => lhs; whnf
          have hn3 := ks3.2
          have hO3 := hO''.keep ks3.1
          have hatw := hatw.keep ks3.1
          rw [blt_of (show k < 4 by omega)]
          conv => lhs; whnf
          obtain ⟨x, hxk⟩ : ∃ x, cur[k]? = some x := ⟨_, List.getElem?_eq_getElem (by omega)⟩
          obtain ⟨hck, hH2⟩ := hH.step hxk hak
          refine Eq.trans (hO3.at.ld1 (j := k) (ints_get hck) (show 0 + k * 1 = 0 + k by omega) _) ?_
          conv => lhs; whnf
          rw [blt_of (show i < ws.length by omega)]
          conv => lhs; whnf
          refine Eq.trans (hatw.ld1 (j := 0) rfl rfl _) ?_
          conv => lhs; whnf
          rw [blt_of (show k < 4 by omega)]
          conv => lhs; whnf
          have hcl2 := hH.1
          refine hO3.st1 (o := k) (v := .int .i64 (wr .i64 (Int.add x (wr .i64 (Int.mul w a))))) (by rw [ints_length]; omega) rfl ?_ (show 0 + k * 1 = k by omega)
          intro s4 hn4 hk4 _ hO4
          rw [ints_set] at hO4
          conv => lhs; whnf
          refine hih' (jj - 1) _ _ s4 (by omega) ⟨rfl, hk4 s1 (Nat.le_refl _) (hk''.trans ks3.1), by omega, rfl, rfl, rfl, rfl, rfl, rfl, rfl, rfl, rfl, rfl, k + 1, _, ?_, by omega, hO4, hH2⟩
          refine Eq.trans ?_ (congrArg (Value.int .i64) hw2); kernel_rfl
      · exact ⟨rfl, hk', Nat.le_refl _, rfl, rfl, rfl, rfl, rfl, rfl, rfl, rfl, rfl, rfl, 0, cur, rfl, Nat.zero_add _, hO', Half.zero _ _ _⟩
  · exact ⟨rfl, hkp2.1, Nat.le_refl _, rfl, rfl, rfl, rfl, rfl, rfl, 0, [0, 0, 0, 0], rfl, Nat.zero_add _, hO, rfl, rfl⟩
end Go.Proofs.Ytkkmgaigingmpaa
