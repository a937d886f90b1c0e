/- Swing: the order of rows, bars, smallest turns. -/
import Derived.Test.YtfcgfnlifdjfjaaSwX
import Derived.KernelRfl
namespace Go.Proofs.Ytfcgfnlifdjfjaa
open Go.Ab
attribute [local irreducible] aggOk drwOK
set_option maxRecDepth 100000
set_option maxHeartbeats 4000000
set_option linter.unusedVariables false
set_option linter.unusedSimpArgs false
/-- the order of rows -/
abbrev ltB (a b : ByteArray) : Bool := Op.bytesLess a.toList b.toList
theorem bl_irrefl : ∀ l : List UInt8, Op.bytesLess l l = false
  | [] => rfl
  | a :: l => by
    unfold Op.bytesLess
    rw [bl_irrefl l]; simp
theorem bl_cons (a b : UInt8) (x y : List UInt8) : Op.bytesLess (a :: x) (b :: y) = true ↔ a.toNat < b.toNat ∨ (a = b ∧ Op.bytesLess x y = true) := by
  rw [Op.bytesLess]
  simp [UInt8.lt_iff_toNat_lt]
theorem bl_trans : ∀ {a b c : List UInt8}, Op.bytesLess a b = true → Op.bytesLess b c = true → Op.bytesLess a c = true
  | _, [], _, h, _ => by cases (show False by cases ‹List UInt8› <;> simp [Op.bytesLess] at h)
  | _, _ :: _, [], _, h => by simp [Op.bytesLess] at h
  | [], _ :: _, _ :: _, _, _ => rfl
  | a :: x, b :: y, c :: z, h1, h2 => by
    rw [bl_cons] at *
    rcases h1 with h1 | ⟨rfl, h1⟩ <;> rcases h2 with h2 | ⟨rfl, h2⟩
    · exact .inl (by omega)
    · exact .inl h1
    · exact .inl h2
    · exact .inr ⟨rfl, bl_trans h1 h2⟩
theorem bl_tri : ∀ {a b : List UInt8}, Op.bytesLess a b = false → Op.bytesLess b a = false → a = b
  | [], [], _, _ => rfl
  | [], _ :: _, h, _ => by simp [Op.bytesLess] at h
  | _ :: _, [], _, h => by simp [Op.bytesLess] at h
  | a :: x, b :: y, h1, h2 => by
    have h1 : ¬ (Op.bytesLess (a :: x) (b :: y) = true) := by rw [h1]; decide
    have h2 : ¬ (Op.bytesLess (b :: y) (a :: x) = true) := by rw [h2]; decide
    rw [bl_cons] at h1 h2
    have e : a = b := UInt8.toNat_inj.1 (by omega)
    subst e
    rw [bl_tri (a := x) (b := y) (by cases h : Op.bytesLess x y <;> simp_all) (by cases h : Op.bytesLess y x <;> simp_all)]
theorem toList_data2 (w : ByteArray) : w.toList = w.data.toList := ByteArray.toList_eq w
theorem data_inj {a b : ByteArray} (h : a.data.toList = b.data.toList) : a = b := en_inj (congrArg enc h)
theorem ltB_irrefl (a : ByteArray) : ltB a a = false := bl_irrefl _
theorem ltB_trans {a b c : ByteArray} (h : ltB a b = true) (k : ltB b c = true) : ltB a c = true := bl_trans h k
theorem ltB_tri {a b : ByteArray} (h : ltB a b = false) (k : ltB b a = false) : a = b := data_inj (by rw [← toList_data2, ← toList_data2]; exact bl_tri h k)
theorem eqb_t {a b : ByteArray} (h : a = b) : (a.toList == b.toList) = true := by rw [h]; exact beq_self_eq_true _
theorem eqb_f {a b : ByteArray} (h : a ≠ b) : (a.toList == b.toList) = false := by
  cases hb : a.toList == b.toList with
  | false => rfl
  | true => exact absurd (data_inj (by rw [← toList_data2, ← toList_data2]; exact eq_of_beq hb)) h
theorem c35 (F d : Nat) (w : ByteArray) (hw : w.size ≤ 64) (k : Nat) (hk : k ≤ w.size) : PureC (CL F (d + 1)) 35 [.val (.string w), .int .i64 (Int.ofNat k)] 20 (.val (.string (tn w k))) := by
  have hj : k ≤ w.size := hk
  intro m R
  refine call_in (n := 12) Try.func35 rfl rfl rfl rfl rfl rfl rfl ?_
  repeat' ((conv => whnf); first | refine eqS_rfl ?_ | refine eqA_rfl ?_ | refine eqA_of (by assumption) ?_ | refine eqS_of (by rfl) ?_ | refine eqL_rfl ?_ | refine eqJ_rfl ?_ | refine gE ?_ | refine seS_rfl ?_ | refine lsS_of hup ?_ | refine lsS_rfl ?_ | refine brS_tt ?_ | refine brS_ff ?_ | refine brS_not ?_ | refine gI ?_ | refine gT ?_ | refine gF ?_ | refine brS_intro (fun _ => ?_) (fun _ => ?_) | refine gL ?_ | refine gX ?_ | refine gO ?_ | refine gN ?_ | refine ixS_of rfl (by show _ < _ + 1; omega) ?_ | refine ltS_intro (tn_sz w _ (by omega)) ?_ | intro _)
  all_goals (conv => whnf)
  all_goals refine ⟨?_, by repeat' (first | exact WkM.refl _ | refine WkM.drop ?_), by repeat' (first | exact Nat.le_refl _ | refine Nat.le_succ_of_le ?_)⟩
  all_goals (rfl)

/-- whether a row is a bar -/
def brB (w : ByteArray) : Bool := decide (0 < w.size ∧ ∀ k, k < w.size → k ≠ 0 → ltB w (tn w k) = true)
theorem c34 (F d : Nat) (hF : 200 < F) (w : ByteArray) (hw : w.size ≤ 64) : ReadC (CL F (d + 2)) 34 [.val (.string w)] [] (5000 + 100) (.bool (brB w)) := by
  intro R
  rw [show 5000 + 100 = (5000) + 100 from rfl, addL_eq, ← Nat.add_assoc, ← addL_eq _ 100, Nat.add_comm R (5000)]
  have k35 := fun k hk => c35 F d w hw k hk
  refine call_in (n := 18) Try.func34 rfl rfl rfl rfl rfl rfl rfl ?_
  conv => whnf
  refine loS_i (fun jj f mm R' ni => ∃ j : Nat, 1 ≤ j ∧ (j ≤ w.size ∨ j = 1) ∧ jj = w.size - j + 1 ∧ f = [(0, .val (.string w)), (3, .int .i64 (Int.ofNat j))] ∧ mm = [] ∧ (∀ k, k < j → k ≠ 0 → ltB w (tn w k) = true) ∧ R' = (addL (60 * (w.size - j) + R) 60) ∧ ni = 10) (w.size - 1 + 1) (by omega)
    ⟨[(0, .val (.string w)), (3, .int .i64 (Int.ofNat 1))], [], (addL (60 * (w.size - 1) + R) 60), 10, ⟨eqF_rfl _, eqF_rfl _, trivial⟩, WS, nM1, 1, Nat.le_refl _, .inr rfl, rfl, rfl, rfl, fun k hk h0 => by omega, rfl, rfl⟩ ?_
  rintro _ _ _ _ _ ⟨j, hj1, hj, rfl, rfl, rfl, hok, rfl, rfl⟩
  by_cases hlt : j < w.size
  · have d1 := iLt_t hlt
    have hb : 60 * (w.size - j) = 60 * (w.size - (j + 1)) + 60 := by omega
    have kj := k35 j (by omega)
    cases d2 : ltB w (tn w j) with
    | true =>
      repeat' ((conv => whnf); first | refine eqS_rfl ?_ | refine eqA_rfl ?_ | refine eqA_of (by assumption) ?_ | refine eqS_of (by rfl) ?_ | refine eqL_rfl ?_ | refine eqJ_rfl ?_ | refine gE ?_ | refine seS_rfl ?_ | refine lsS_of hup ?_ | refine lsS_rfl ?_ | refine brS_tt ?_ | refine brS_ff ?_ | refine brS_not ?_ | refine gI ?_ | refine gT ?_ | refine gF ?_ | refine brS_intro (fun _ => ?_) (fun _ => ?_) | refine gL ?_ | refine gX ?_ | refine gO ?_ | refine gN ?_ | refine gM ?_ | refine gY ?_ | refine call_pure kj ?_ | intro _)
      conv => whnf
      refine ⟨w.size - (j + 1) + 1, [(0, .val (.string w)), (3, .int .i64 (Int.ofNat (j + 1)))], [], (addL (60 * (w.size - (j + 1)) + R) 60), 10, by omega, ⟨eqF_rfl _, ⟨congrArg (Value.int .i64) (smn (i := j + 1) (by omega)), rfl⟩, trivial⟩, WS, nM1, j + 1, by omega, .inl (by omega), rfl, rfl, rfl, fun k hk h0 => ?_, rfl, rfl⟩
      by_cases e2 : k = j
      · rw [e2]; exact d2
      · exact hok k (by omega) h0
    | false =>
      have hno : brB w = false := decide_eq_false fun h => by rw [h.2 j hlt (by omega)] at d2; cases d2
      rw [hno]
      repeat' ((conv => whnf); first | refine eqS_rfl ?_ | refine eqA_rfl ?_ | refine eqA_of (by assumption) ?_ | refine eqS_of (by rfl) ?_ | refine eqL_rfl ?_ | refine eqJ_rfl ?_ | refine gE ?_ | refine seS_rfl ?_ | refine lsS_of hup ?_ | refine lsS_rfl ?_ | refine brS_tt ?_ | refine brS_ff ?_ | refine brS_not ?_ | refine gI ?_ | refine gT ?_ | refine gF ?_ | refine brS_intro (fun _ => ?_) (fun _ => ?_) | refine gL ?_ | refine gX ?_ | refine gO ?_ | refine gN ?_ | refine gM ?_ | refine gY ?_ | refine call_pure kj ?_ | intro _)
      conv => whnf
      exact ⟨rfl, nM1⟩
  · have d1 := iLt_f (a := j) (b := w.size) (by omega)
    repeat' ((conv => whnf); first | refine eqS_rfl ?_ | refine eqA_rfl ?_ | refine eqA_of (by assumption) ?_ | refine eqS_of (by rfl) ?_ | refine eqL_rfl ?_ | refine eqJ_rfl ?_ | refine gE ?_ | refine seS_rfl ?_ | refine lsS_of hup ?_ | refine lsS_rfl ?_ | refine brS_tt ?_ | refine brS_ff ?_ | refine brS_not ?_ | refine gI ?_ | refine gT ?_ | refine gF ?_ | refine brS_intro (fun _ => ?_) (fun _ => ?_) | refine gL ?_ | refine gX ?_ | refine gO ?_ | refine gN ?_ | intro _)
    conv => whnf
    refine ⟨congrArg Value.bool ?_, nM1⟩
    by_cases h0 : 0 < w.size
    · rw [show brB w = true from decide_eq_true ⟨h0, fun k hk hk0 => hok k (by omega) hk0⟩]
      exact iLt_t h0
    · rw [show brB w = false from decide_eq_false fun h => h0 h.1]
      exact iLt_f (a := 0) (b := w.size) (by omega)
end Go.Proofs.Ytfcgfnlifdjfjaa
namespace Go.Proofs.Ytfcgfnlifdjfjaa
open Go.Ab
attribute [local irreducible] aggOk drwOK
set_option maxRecDepth 100000
set_option maxHeartbeats 4000000
set_option linter.unusedVariables false
set_option linter.unusedSimpArgs false
/-- the smallest turn so far; by how many marks -/
def bs (w : ByteArray) : Nat → ByteArray
  | 0 => w
  | k + 1 => bif ltB (tn w k) (bs w k) then tn w k else bs w k
def bi (w : ByteArray) : Nat → Nat
  | 0 => 0
  | k + 1 => bif ltB (tn w k) (bs w k) then k else bi w k
theorem c15 (F d : Nat) (hF : 200 < F) (w : ByteArray) (hw : marks w) (h0 : 0 < w.size) (h64 : w.size ≤ 64) : ReadC (CL F (d + 7)) 15 [.val (.string w)] [] (20000 + 200) (.tup [.val (.string (bs w w.size)), .int .i64 (Int.ofNat (bi w w.size)), .int .i64 0]) := by
  intro R
  rw [show 20000 + 200 = (20000) + 200 from rfl, addL_eq, ← Nat.add_assoc, ← addL_eq _ 200, Nat.add_comm R (20000)]
  have k22 := c22 F d hF w hw h0 h64
  refine call_in (n := 25) Try.func15 rfl rfl rfl rfl rfl rfl rfl ?_
  repeat' ((conv => whnf); first | refine eqS_rfl ?_ | refine eqA_rfl ?_ | refine eqA_of (by assumption) ?_ | refine eqS_of (by rfl) ?_ | refine eqL_rfl ?_ | refine eqJ_rfl ?_ | refine gE ?_ | refine seS_rfl ?_ | refine lsS_of hup ?_ | refine lsS_rfl ?_ | refine brS_tt ?_ | refine brS_ff ?_ | refine brS_not ?_ | refine gI ?_ | refine gT ?_ | refine gF ?_ | refine brS_intro (fun _ => ?_) (fun _ => ?_) | refine gL ?_ | refine gX ?_ | refine gO ?_ | refine gN ?_ | refine call_readL k22 (addL (15000 + R) 100) (by rfl) (SeesM.nil _) (nM1) ?_ | refine call_in (n := 4) Try.func40 rfl rfl rfl rfl rfl rfl rfl ?_ | intro _)
  rename_i br bt bw b1 b2
  refine call_iter (c57 F (d + 4) 60 hF w h64 bw) (fun k m => m = [(3, lopF Try.f15 0 b2 .ready none 25 [(2, .ptr 0 br 0), (3, .ptr 1 bt 0)] b1), (dfN, .dfr [b1]), (1, .own bt 3 [.int .i64 (Int.ofNat (bi w k))]), (0, .own br 9 [.val (.string (bs w k))])]) (fun _ => False) [(3, lopF Try.f15 0 b2 .ready none 25 [(2, .ptr 0 br 0), (3, .ptr 1 bt 0)] b1), (dfN, .dfr [b1]), (1, .own bt 3 [.int .i64 (Int.ofNat (bi w 0))]), (0, .own br 9 [.val (.string (bs w 0))])] (addL R 50) (by rfl) (by exact (WkM.lop (i := 3) (j := 3) (f' := [(2, .ptr 0 br 0), (3, .ptr 1 bt 0)]) ⟨eqF_rfl _, eqF_rfl _, trivial⟩ (WkM.refl _)).trans WS) rfl ?_ (nM1) ?_
  · rintro k hk _ rfl me' R
    refine call_yield ?_
    cases hd : ltB (tn w k) (bs w k) with
    | true =>
      rw [show bs w (k + 1) = tn w k by rw [bs, hd]; rfl, show bi w (k + 1) = k by rw [bi, hd]; rfl]
      repeat' ((conv => whnf); first | refine eqS_rfl ?_ | refine eqA_rfl ?_ | refine eqA_of (by assumption) ?_ | refine eqS_of (by rfl) ?_ | refine eqL_rfl ?_ | refine eqJ_rfl ?_ | refine gE ?_ | refine seS_rfl ?_ | refine lsS_of hup ?_ | refine lsS_rfl ?_ | refine brS_tt ?_ | refine brS_ff ?_ | refine brS_not ?_ | refine gI ?_ | refine gT ?_ | refine gF ?_ | refine brS_intro (fun _ => ?_) (fun _ => ?_) | refine gL ?_ | refine gX ?_ | refine gO ?_ | refine gN ?_ | refine gM ?_ | refine gY ?_ | intro _)
      conv => whnf
      exact ⟨nM1, [(3, lopF Try.f15 0 b2 .ready none 25 [(2, .ptr 0 br 0), (3, .ptr 1 bt 0)] b1), (dfN, .dfr [b1]), (1, .own bt 3 [.int .i64 (Int.ofNat k)]), (0, .own br 9 [.val (.string (tn w k))])], WS, .inl ⟨rfl, rfl⟩⟩
    | false =>
      rw [show bs w (k + 1) = bs w k by rw [bs, hd]; rfl, show bi w (k + 1) = bi w k by rw [bi, hd]; rfl]
      repeat' ((conv => whnf); first | refine eqS_rfl ?_ | refine eqA_rfl ?_ | refine eqA_of (by assumption) ?_ | refine eqS_of (by rfl) ?_ | refine eqL_rfl ?_ | refine eqJ_rfl ?_ | refine gE ?_ | refine seS_rfl ?_ | refine lsS_of hup ?_ | refine lsS_rfl ?_ | refine brS_tt ?_ | refine brS_ff ?_ | refine brS_not ?_ | refine gI ?_ | refine gT ?_ | refine gF ?_ | refine brS_intro (fun _ => ?_) (fun _ => ?_) | refine gL ?_ | refine gX ?_ | refine gO ?_ | refine gN ?_ | refine gM ?_ | refine gY ?_ | intro _)
      conv => whnf
      exact ⟨nM1, [(3, lopF Try.f15 0 b2 .ready none 25 [(2, .ptr 0 br 0), (3, .ptr 1 bt 0)] b1), (dfN, .dfr [b1]), (1, .own bt 3 [.int .i64 (Int.ofNat (bi w k))]), (0, .own br 9 [.val (.string (bs w k))])], WS, .inl ⟨rfl, rfl⟩⟩
  · rintro _ _ (rfl | h)
    · skip
      repeat' ((conv => whnf); first | refine eqS_rfl ?_ | refine eqA_rfl ?_ | refine eqA_of (by assumption) ?_ | refine eqS_of (by rfl) ?_ | refine eqL_rfl ?_ | refine eqJ_rfl ?_ | refine gE ?_ | refine seS_rfl ?_ | refine lsS_of hup ?_ | refine lsS_rfl ?_ | refine brS_tt ?_ | refine brS_ff ?_ | refine brS_not ?_ | refine gI ?_ | refine gT ?_ | refine gF ?_ | refine brS_intro (fun _ => ?_) (fun _ => ?_) | refine gL ?_ | refine gX ?_ | refine gO ?_ | refine gN ?_ | intro _)
      conv => whnf
      exact ⟨rfl, nM1⟩
    · exact h.elim
end Go.Proofs.Ytfcgfnlifdjfjaa
namespace Go.Proofs.Ytfcgfnlifdjfjaa
open Go.Ab
/-- turns, as lists -/
def rot (l : List UInt8) (r : Nat) : List UInt8 := l.drop r ++ l.take r
theorem rot_len (l : List UInt8) (r : Nat) : (rot l r).length = l.length := by
  unfold rot
  rw [List.length_append, List.length_drop, List.length_take]; omega
theorem rot_get {l : List UInt8} {r i : Nat} (hr : r ≤ l.length) (hi : i < l.length) : (rot l r)[i]? = l[(r + i) % l.length]? := by
  unfold rot
  by_cases h : i < l.length - r
  · rw [List.getElem?_append_left (by rw [List.length_drop]; exact h), List.getElem?_drop, Nat.mod_eq_of_lt (by omega)]
  · rw [List.getElem?_append_right (by rw [List.length_drop]; omega), List.length_drop, List.getElem?_take_of_lt (by omega)]
    have : (r + i) % l.length = i - (l.length - r) := by
      rw [Nat.mod_eq_sub_mod (by omega), Nat.mod_eq_of_lt (by omega)]; omega
    rw [this]
theorem rot_rot {l : List UInt8} {r j : Nat} (hr : r ≤ l.length) (hj : j ≤ l.length) : rot (rot l r) j = rot l ((r + j) % l.length) := by
  apply List.ext_getElem?
  intro i
  by_cases hi : i < l.length
  · have hn : 0 < l.length := by omega
    rw [rot_get (by rw [rot_len]; exact hj) (by rw [rot_len]; exact hi), rot_len, rot_get hr (Nat.mod_lt _ hn), rot_get (Nat.le_of_lt (Nat.mod_lt _ hn)) hi]
    congr 1
    rw [Nat.add_mod, Nat.mod_mod, ← Nat.add_mod, Nat.add_mod ((r + j) % l.length), Nat.mod_mod, ← Nat.add_mod, Nat.add_assoc]
  · rw [List.getElem?_eq_none (by rw [rot_len, rot_len]; omega), List.getElem?_eq_none (by rw [rot_len]; omega)]
theorem tn_rot (w : ByteArray) (k : Nat) : (tn w k).data.toList = rot w.data.toList k := tn_data w k
theorem tn_tn {w : ByteArray} {r j : Nat} (hr : r ≤ w.size) (hj : j ≤ w.size) : tn (tn w r) j = tn w ((r + j) % w.size) := by
  have h : w.size = w.data.toList.length := Array.length_toList.symm
  refine data_inj ?_
  rw [tn_rot, tn_rot, tn_rot, h]
  exact rot_rot (by omega) (by omega)
theorem tn_0 (w : ByteArray) : tn w 0 = w := data_inj (by rw [tn_rot]; simp [rot])
theorem marks_tn {w : ByteArray} (hw : marks w) (k : Nat) : marks (tn w k) := fun x hx => by
  rw [tn_rot] at hx
  rcases List.mem_append.1 hx with h | h
  · exact hw x (List.mem_of_mem_drop h)
  · exact hw x (List.mem_of_mem_take h)
theorem bi_le (w : ByteArray) : ∀ k, bi w k ≤ k - 1
  | 0 => Nat.le_refl _
  | k + 1 => by
    rw [bi]
    have := bi_le w k
    cases ltB (tn w k) (bs w k) <;> simp only [cond_true, cond_false] <;> omega
theorem bs_tn (w : ByteArray) : ∀ k, bs w k = tn w (bi w k)
  | 0 => (tn_0 w).symm
  | k + 1 => by
    rw [bs, bi]
    cases ltB (tn w k) (bs w k) with
    | true => rfl
    | false => exact bs_tn w k
theorem bs_min (w : ByteArray) : ∀ k i, i < k → ltB (tn w i) (bs w k) = false
  | k + 1, i, hi => by
    rw [bs]
    cases hd : ltB (tn w k) (bs w k) with
    | true =>
      simp only [cond_true]
      by_cases e : i = k
      · rw [e]; exact ltB_irrefl _
      · cases h : ltB (tn w i) (tn w k) with
        | false => rfl
        | true =>
          have := ltB_trans h hd
          rw [bs_min w k i (by omega)] at this
          cases this
    | false =>
      simp only [cond_false]
      by_cases e : i = k
      · rw [e]; exact hd
      · exact bs_min w k i (by omega)
theorem bi_first (w : ByteArray) : ∀ k i, i < k → tn w i = bs w k → bi w k ≤ i
  | k + 1, i, hi, h => by
    rw [bs] at h
    rw [bi]
    cases hd : ltB (tn w k) (bs w k) with
    | true =>
      rw [hd] at h
      simp only [cond_true] at h ⊢
      by_cases e : i = k
      · omega
      · have h2 := bs_min w k i (by omega)
        rw [h, hd] at h2
        cases h2
    | false =>
      rw [hd] at h
      simp only [cond_false] at h ⊢
      by_cases e : i = k
      · have := bi_le w k; omega
      · exact bi_first w k i (by omega) h
theorem bi_lt (w : ByteArray) (h0 : 0 < w.size) : bi w w.size < w.size := by have := bi_le w w.size; omega
/-- all turns have the same smallest one -/
theorem bs_turn {w : ByteArray} (h0 : 0 < w.size) {r : Nat} (hr : r < w.size) : bs (tn w r) w.size = bs w w.size := by
  have hs := tn_size w r (by omega)
  have hj := bi_lt w h0
  have hj2 : bi (tn w r) w.size < w.size := by have := bi_le (tn w r) w.size; omega
  refine ltB_tri ?_ ?_
  · rw [bs_tn (tn w r), tn_tn (by omega) (by omega)]
    exact bs_min w _ _ (Nat.mod_lt _ h0)
  · rw [bs_tn w]
    have e : tn w (bi w w.size) = tn (tn w r) ((bi w w.size + (w.size - r)) % w.size) := by
      rw [tn_tn (by omega) (Nat.le_of_lt (Nat.mod_lt _ h0))]
      congr 1
      rw [Nat.add_mod r, Nat.mod_mod, ← Nat.add_mod, show r + (bi w w.size + (w.size - r)) = bi w w.size + w.size by omega, Nat.add_mod_right, Nat.mod_eq_of_lt hj]
    rw [e]
    exact bs_min _ _ _ (Nat.mod_lt _ h0)
/-- whether no other turn is the rim itself -/
def al (w : ByteArray) (j : Nat) : Bool := decide (∀ k, k < j → k = 0 ∨ tn w k ≠ w)
theorem bs_bar {w : ByteArray} (h0 : 0 < w.size) : brB (bs w w.size) = al w w.size := by
  have hj := bi_lt w h0
  have hb := bs_tn w w.size
  have hs : (bs w w.size).size = w.size := by rw [hb]; exact tn_size w _ (by omega)
  refine decide_eq_decide.2 ⟨fun h k hk => ?_, fun h => ⟨by omega, fun k hk hk0 => ?_⟩⟩
  · by_cases hk0 : k = 0
    · exact .inl hk0
    · refine .inr fun he => ?_
      have h1 := h.2 k (by omega) hk0
      have h2 : tn (bs w w.size) k = bs w w.size := by
        rw [hb, tn_tn (by omega) (by omega), Nat.add_comm, ← tn_tn (by omega) (by omega), he]
      rw [h2, ltB_irrefl] at h1
      cases h1
  · have hk' : k < w.size := by omega
    have h1 : ltB (tn (bs w w.size) k) (bs w w.size) = false := by
      rw [show tn (bs w w.size) k = tn w ((bi w w.size + k) % w.size) by rw [hb, tn_tn (by omega) (by omega)]]
      exact bs_min w _ _ (Nat.mod_lt _ h0)
    cases h2 : ltB (bs w w.size) (tn (bs w w.size) k) with
    | true => rfl
    | false =>
      have h3 : tn (bs w w.size) k = bs w w.size := ltB_tri h1 h2
      refine absurd ?_ ((h k hk').resolve_left hk0)
      have a1 : tn (bs w w.size) k = tn w ((bi w w.size + k) % w.size) := by rw [hb, tn_tn (by omega) (by omega)]
      have h4 : tn (tn w ((bi w w.size + k) % w.size)) (w.size - bi w w.size) = tn (tn w (bi w w.size)) (w.size - bi w w.size) := by rw [← a1, h3, hb]
      rw [tn_tn (Nat.le_of_lt (Nat.mod_lt _ h0)) (by omega), tn_tn (r := bi w w.size) (by omega) (by omega)] at h4
      rw [show (bi w w.size + (w.size - bi w w.size)) % w.size = 0 by rw [show bi w w.size + (w.size - bi w w.size) = w.size by omega, Nat.mod_self]] at h4
      rw [Nat.mod_add_mod, show bi w w.size + k + (w.size - bi w w.size) = k + w.size by omega, Nat.add_mod_right, Nat.mod_eq_of_lt hk', tn_0] at h4
      exact h4
end Go.Proofs.Ytfcgfnlifdjfjaa
namespace Go.Proofs.Ytfcgfnlifdjfjaa
open Go.Ab
attribute [local irreducible] aggOk drwOK
set_option maxRecDepth 100000
set_option maxHeartbeats 4000000
set_option linter.unusedVariables false
set_option linter.unusedSimpArgs false
theorem call_row {F d q : Nat} {b : Int} {w : ByteArray} (hwd : w = mkR (q % 64 + 1) b) (hq : q < 256) {m : Mem} {R ni : Nat} {K : SV → Mem → Nat → Nat → Prop} (hK : K (.val (.string w)) m R ni) :
    callS (CL F (d + 1)) (.fn 33 [] []) [.agg [.int .u64 b, .int .u8 (Int.ofNat q)], .int .i64 1, .int .i64 64] m R ni K := by
  subst hwd
  refine ⟨?_⟩
  intro X Z s0 s hm Kr r hk
  show callF Try.prog F (extX libS 14) (d + 1) (.func (.func 33) ⟨[]⟩ ⟨[]⟩) [.agg ⟨[.int .u64 b, .int .u8 (Int.ofNat q)]⟩, .int .i64 1, .int .i64 64] Kr s = r
  have e : callF Try.prog F (extX libS 14) (d + 1) (.func (.func 33) ⟨[]⟩ ⟨[]⟩) [.agg ⟨[.int .u64 b, .int .u8 (Int.ofNat q)]⟩, .int .i64 1, .int .i64 64] Kr s = bif decide (0 ≤ (Int.ofNat q) ∧ (Int.ofNat q) < 256) then Kr (.string (mkR (q % 64 + 1) b)) s else false := by
    unfold callF extX libS extQ
    rfl
  rw [e, show decide (0 ≤ (Int.ofNat q) ∧ (Int.ofNat q) < 256) = true from decide_eq_true ⟨Int.natCast_nonneg q, by show (q : Int) < 256; omega⟩, cond_true]
  exact hk _ m R ni s hm hK
theorem al_t {w : ByteArray} {j : Nat} (h : al w j = true) (k : j = 0 ∨ tn w j ≠ w) : al w (j + 1) = true := decide_eq_true fun i hi => by
  by_cases e : i = j
  · rw [e]; exact k
  · exact of_decide_eq_true h i (by omega)
theorem al_0 (w : ByteArray) : al w 0 = true := decide_eq_true fun k hk => absurd hk (Nat.not_lt_zero k)
theorem blt_no {a b : Nat} (h : b ≤ a) : Nat.blt a b = false := by
  cases hb : Nat.blt a b with
  | false => rfl
  | true => have := blt_true hb; omega
theorem al_f {w : ByteArray} {j : Nat} (h : al w j = false) : al w (j + 1) = false := decide_eq_false fun k => of_decide_eq_false h fun i hi => k i (by omega)
theorem al_n {w : ByteArray} {j : Nat} (h : ¬ (j = 0 ∨ tn w j ≠ w)) : al w (j + 1) = false := decide_eq_false fun k => h (k j (by omega))
theorem l7 (F d : Nat) (hF : 200 < F) (b : Int) (q r : Nat) (hq : q < 256) (hr : r < 256) : ReadC (CL F (d + 8)) 7 [.agg [.int .u64 b, .int .u8 (Int.ofNat q)], .int .u8 (Int.ofNat r)] [] (200000 + 300) (.bool true) := by
  intro R
  rw [show 200000 + 300 = (200000) + 300 from rfl, addL_eq, ← Nat.add_assoc, ← addL_eq _ 300, Nat.add_comm R (200000)]
  obtain ⟨w, hwd⟩ : ∃ w, w = mkR (q % 64 + 1) b := ⟨_, rfl⟩
  have hw : marks w := hwd ▸ marks_mkR _ _
  have hz : w.size = q % 64 + 1 := hwd ▸ size_mkR _ _
  have h0 : 0 < w.size := by omega
  have h64 : w.size ≤ 64 := by omega
  have hj := bi_lt w h0
  have k15 := c15 F d hF w hw h0 h64
  have k35 := fun k hk => c35 F (d + 6) w h64 k hk
  have kt := k35 (bi w w.size) (by omega)
  have t1 : iLt (Int.ofNat (bi w w.size)) 0 = false := iLt_0 _
  have t2 : iLt (Int.ofNat (bi w w.size)) (Int.ofNat w.size) = true := iLt_t hj
  have t3 : ((bs w w.size).toList == (tn w (bi w w.size)).toList) = true := eqb_t (bs_tn w _)
  refine call_in (n := 101) Try.func7 rfl rfl rfl rfl rfl rfl rfl ?_
  repeat' ((conv => whnf); first | refine eqS_rfl ?_ | refine eqA_rfl ?_ | refine eqA_of (by assumption) ?_ | refine eqS_of (by rfl) ?_ | refine eqL_rfl ?_ | refine eqJ_rfl ?_ | refine gE ?_ | refine seS_rfl ?_ | refine lsS_of hup ?_ | refine lsS_rfl ?_ | refine brS_tt ?_ | refine brS_ff ?_ | refine brS_not ?_ | refine gI ?_ | refine gT ?_ | refine gF ?_ | refine brS_intro (fun _ => ?_) (fun _ => ?_) | refine gL ?_ | refine gX ?_ | refine gO ?_ | refine gN ?_ | refine gM ?_ | refine gY ?_ | refine call_row hwd hq ?_ | refine call_readL k15 (addL (100000 + R) 250) (by rfl) (SeesM.nil _) (nM1) ?_ | refine call_pure kt ?_ | intro _)
  rename_i bx bi1
  conv => whnf
  refine loS_i (fun jj f mm R' ni => ∃ j : Nat, j ≤ w.size ∧ jj = w.size - j + 1 ∧ f = [(2, .ptr 0 bx 0), (5, .val (.string w)), (6, .val (.string (bs w w.size))), (7, .int .i64 (Int.ofNat (bi w w.size))), (1, .int .u8 (Int.ofNat r)), (9, .bool (al w j)), (43, .ptr 1 bi1 0)] ∧ mm = [(1, .it bi1 w j), (0, .own bx 46 [.int .u64 b, .int .u8 (Int.ofNat q)])] ∧ R' = (addL (1000 * (w.size - j) + (30000 + R)) 200) ∧ ni = 10) (w.size + 1) (by omega)
    ⟨[(2, .ptr 0 bx 0), (5, .val (.string w)), (6, .val (.string (bs w w.size))), (7, .int .i64 (Int.ofNat (bi w w.size))), (1, .int .u8 (Int.ofNat r)), (9, .bool (al w 0)), (43, .ptr 1 bi1 0)], [(1, .it bi1 w 0), (0, .own bx 46 [.int .u64 b, .int .u8 (Int.ofNat q)])], (addL (1000 * (w.size - 0) + (30000 + R)) 200), 10, ⟨eqF_rfl _, eqF_rfl _, eqF_rfl _, eqF_rfl _, eqF_rfl _, ⟨congrArg Value.bool (al_0 w).symm, rfl⟩, eqF_rfl _, trivial⟩, WS, by rw [Nat.sub_zero]; (first | (simp only [addL_eq, addL_rec]; omega) | omega | exact Nat.le_refl _), 0, by omega, by omega, rfl, rfl, rfl, rfl⟩ ?_
  rintro _ _ _ _ _ ⟨j, hjw, rfl, rfl, rfl, rfl, rfl⟩
  by_cases hlt : j < w.size
  · have d0 : Nat.blt j w.size = true := blt_of hlt
    obtain ⟨ch, _, hd⟩ := decode_mark hw hlt
    have hb : 1000 * (w.size - j) = 1000 * (w.size - (j + 1)) + 1000 := by omega
    have kj := k35 j hjw
    have d2 : ltB (tn w j) (bs w w.size) = false := bs_min w _ j hlt
    have d34 : ((tn w j).toList == (bs w w.size).toList) = false ∨ (((tn w j).toList == (bs w w.size).toList) = true ∧ iLt (Int.ofNat j) (Int.ofNat (bi w w.size)) = false) := by
      by_cases he : tn w j = bs w w.size
      · exact .inr ⟨eqb_t he, iLt_f (bi_first w _ j hlt he)⟩
      · exact .inl (eqb_f he)
    have d567 : (al w j = false ∧ al w (j + 1) = false) ∨ (al w j = true ∧ iEq (Int.ofNat j) 0 = true ∧ al w (j + 1) = true) ∨ (al w j = true ∧ iEq (Int.ofNat j) 0 = false ∧ al w (j + 1) = !((tn w j).toList == w.toList)) := by
      cases hal : al w j with
      | false => exact .inl ⟨rfl, al_f hal⟩
      | true =>
        by_cases hj0 : j = 0
        · exact .inr (.inl ⟨rfl, (iEq_n (a := j) (b := 0)).trans (decide_eq_true hj0), al_t hal (.inl hj0)⟩)
        · refine .inr (.inr ⟨rfl, (iEq_n (a := j) (b := 0)).trans (decide_eq_false hj0), ?_⟩)
          by_cases he : tn w j = w
          · rw [eqb_t he, al_n (fun h => h.elim hj0 (fun h => h he))]; rfl
          · rw [eqb_f he, al_t hal (.inr he)]; rfl
    rcases d34 with d3 | ⟨d3, d4⟩ <;> rcases d567 with ⟨d5, d7⟩ | ⟨d5, d6, d7⟩ | ⟨d5, d6, d7⟩
    all_goals
      repeat' ((conv => whnf); first | refine eqS_rfl ?_ | refine eqA_rfl ?_ | refine eqA_of (by assumption) ?_ | refine eqS_of (by rfl) ?_ | refine eqL_rfl ?_ | refine eqJ_rfl ?_ | refine gE ?_ | refine seS_rfl ?_ | refine lsS_of hup ?_ | refine lsS_rfl ?_ | refine brS_tt ?_ | refine brS_ff ?_ | refine brS_not ?_ | refine gI ?_ | refine gT ?_ | refine gF ?_ | refine brS_intro (fun _ => ?_) (fun _ => ?_) | refine gL ?_ | refine gX ?_ | refine gO ?_ | refine gN ?_ | refine gM ?_ | refine gY ?_ | refine dcS_of hd ?_ | refine call_pure kj ?_ | intro _)
    all_goals conv => whnf
    all_goals exact ⟨w.size - (j + 1) + 1, [(2, .ptr 0 bx 0), (5, .val (.string w)), (6, .val (.string (bs w w.size))), (7, .int .i64 (Int.ofNat (bi w w.size))), (1, .int .u8 (Int.ofNat r)), (9, .bool (al w (j + 1))), (43, .ptr 1 bi1 0)], [(1, .it bi1 w (j + 1)), (0, .own bx 46 [.int .u64 b, .int .u8 (Int.ofNat q)])], (addL (1000 * (w.size - (j + 1)) + (30000 + R)) 200), 10, by omega, ⟨eqF_rfl _, eqF_rfl _, eqF_rfl _, eqF_rfl _, eqF_rfl _, ⟨congrArg Value.bool d7.symm, rfl⟩, eqF_rfl _, trivial⟩, WS, nM1, j + 1, by omega, rfl, rfl, rfl, rfl, rfl⟩
  · have e2 : j = w.size := by omega
    subst e2
    have d0 : Nat.blt w.size w.size = false := blt_no (Nat.le_refl _)
    have hnz : Int.ofNat w.size ≠ 0 := by intro h; have : (w.size : Int) = 0 := h; omega
    have hrz : r % w.size < w.size := Nat.mod_lt _ h0
    have kr := k35 (r % w.size) (by omega)
    have harg : dens [.val (.string w), .int .i64 (Int.tmod (wr .i64 (Int.ofNat r)) (Int.ofNat w.size))] = dens [.val (.string w), .int .i64 (Int.ofNat (r % w.size))] := by
      rw [smn (i := r) (by omega)]; rfl
    have hsz := tn_size w (r % w.size) (by omega)
    have k15t := c15 F d hF (tn w (r % w.size)) (marks_tn hw _) (by omega) (by omega)
    rw [hsz, bs_turn h0 hrz] at k15t
    have hbs : (bs w w.size).size = w.size := by rw [bs_tn w]; exact tn_size w _ (by omega)
    have k34 := c34 F (d + 5) hF (bs w w.size) (by omega)
    rw [bs_bar h0] at k34
    have d5 : ((bs w w.size).toList == (bs w w.size).toList) = true := beq_self_eq_true _
    have d6 : (al w w.size == al w w.size) = true := beq_self_eq_true _
    repeat' ((conv => whnf); first | refine eqS_rfl ?_ | refine eqA_rfl ?_ | refine eqA_of (by assumption) ?_ | refine eqS_of (by rfl) ?_ | refine eqL_rfl ?_ | refine eqJ_rfl ?_ | refine gE ?_ | refine seS_rfl ?_ | refine lsS_of hup ?_ | refine lsS_rfl ?_ | refine brS_tt ?_ | refine brS_ff ?_ | refine brS_not ?_ | refine gI ?_ | refine gT ?_ | refine gF ?_ | refine brS_intro (fun _ => ?_) (fun _ => ?_) | refine gL ?_ | refine gX ?_ | refine gO ?_ | refine gN ?_ | refine gM ?_ | refine gY ?_ | refine callS.cast (fv' := .fn 35 [] []) (args' := [.val (.string w), .int .i64 (Int.ofNat (r % w.size))]) rfl harg (call_pure kr ?_) | refine call_readL k15t (addL (8000 + R) 100) (by rfl) (SeesM.nil _) (nM1) ?_ | refine call_readL k34 (addL R 100) (by rfl) (SeesM.nil _) (nM1) ?_ | refine call_w rfl ?_ | intro _)
    conv => whnf
    exact ⟨rfl, nM1⟩
end Go.Proofs.Ytfcgfnlifdjfjaa
