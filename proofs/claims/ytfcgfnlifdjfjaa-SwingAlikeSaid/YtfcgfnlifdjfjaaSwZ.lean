/- SwingAlike: rows met, marks by numbers, counts. -/
import Derived.Test.YtfcgfnlifdjfjaaSwX
import Derived.KernelRfl
import Derived.Test.YtfcgfnlifdjfjaaSwY
namespace Go.Proofs.Ytfcgfnlifdjfjaa
open Go.Ab
attribute [local irreducible] aggOk drwOK
set_option maxRecDepth 100000
set_option maxHeartbeats 4000000
set_option linter.unusedVariables false
set_option linter.unusedSimpArgs false
/-- rows met so far -/
def FX (x : Nat → ByteArray) (k : Nat) (a : Nat) : Option SV := bif (List.range k).any (fun q => Nat.beq (en (x q)) a) then some (.bool true) else none
theorem FX_upd (x : Nat → ByteArray) (k : Nat) : updM (FX x k) (en (x k)) (.bool true) = FX x (k + 1) := by
  funext a
  unfold updM FX
  rw [List.range_succ, List.any_append]
  cases h : Nat.beq a (en (x k)) with
  | true =>
    have := beq_true h
    subst this
    simp
  | false =>
    have h2 := beq_symm h
    simp [h2]
theorem FX_ne {x : Nat → ByteArray} {k a : Nat} : FX x k a ≠ none ↔ ∃ q, q < k ∧ en (x q) = a := by
  unfold FX
  constructor
  · intro h
    cases hb : (List.range k).any (fun q => Nat.beq (en (x q)) a) with
    | false => rw [hb] at h; exact absurd rfl h
    | true =>
      obtain ⟨q, hq, he⟩ := List.any_eq_true.1 hb
      exact ⟨q, List.mem_range.1 hq, beq_true he⟩
  · rintro ⟨q, hq, rfl⟩
    rw [show (List.range k).any (fun q' => Nat.beq (en (x q')) (en (x q))) = true from List.any_eq_true.2 ⟨q, List.mem_range.2 hq, Nat.beq_refl _⟩]
    simp
open Classical in
/-- the different rows, as numbers -/
noncomputable def LX (x : Nat → ByteArray) : Nat → List Nat
  | 0 => []
  | k + 1 => if en (x k) ∈ LX x k then LX x k else en (x k) :: LX x k
theorem LX_mem {x : Nat → ByteArray} : ∀ {k a : Nat}, a ∈ LX x k ↔ ∃ q, q < k ∧ en (x q) = a
  | 0, a => by simp [LX]
  | k + 1, a => by
    have ih := LX_mem (x := x) (k := k) (a := a)
    have step : (∃ q, q < k + 1 ∧ en (x q) = a) ↔ (en (x k) = a ∨ ∃ q, q < k ∧ en (x q) = a) := by
      constructor
      · rintro ⟨q, hq, he⟩
        by_cases e : q = k
        · subst e; exact .inl he
        · exact .inr ⟨q, by omega, he⟩
      · rintro (he | ⟨q, hq, he⟩)
        · exact ⟨k, by omega, he⟩
        · exact ⟨q, by omega, he⟩
    rw [step, ← ih, LX]
    by_cases h : en (x k) ∈ LX x k
    · rw [if_pos h]
      exact ⟨.inr, fun h2 => h2.elim (fun e => e ▸ h) id⟩
    · rw [if_neg h, List.mem_cons]
      exact ⟨fun h2 => h2.imp Eq.symm id, fun h2 => h2.imp Eq.symm id⟩
theorem LX_nodup (x : Nat → ByteArray) : ∀ k, (LX x k).Nodup
  | 0 => List.nodup_nil
  | k + 1 => by
    rw [LX]
    by_cases h : en (x k) ∈ LX x k
    · rw [if_pos h]; exact LX_nodup x k
    · rw [if_neg h]; exact List.nodup_cons.2 ⟨h, LX_nodup x k⟩
theorem LX_le (x : Nat → ByteArray) : ∀ k, (LX x k).length ≤ k
  | 0 => Nat.le_refl _
  | k + 1 => by
    have := LX_le x k
    rw [LX]
    by_cases h : en (x k) ∈ LX x k
    · rw [if_pos h]; omega
    · rw [if_neg h, List.length_cons]; omega
theorem len_le : ∀ {L M : List Nat}, L.Nodup → (∀ a, a ∈ L → a ∈ M) → L.length ≤ M.length
  | [], _, _, _ => Nat.zero_le _
  | a :: L, M, hn, h => by
    obtain ⟨h1, h2⟩ := List.nodup_cons.1 hn
    have ha := h a (by simp)
    have h3 := len_le (L := L) (M := M.erase a) h2 fun b hb => (List.mem_erase_of_ne (fun e => h1 (by rw [← e]; exact hb))).2 (h b (by simp [hb]))
    rw [List.length_erase_of_mem ha] at h3
    have : 0 < M.length := List.length_pos_of_mem ha
    rw [List.length_cons]; omega
/-- whether rows differ -/
def dfX (x : Nat → ByteArray) (n : Nat) : Bool := decide (∀ q, q < n → ∀ p, p < q → x p ≠ x q)
theorem LX_df (x : Nat → ByteArray) : ∀ n, (LX x n).length = n ↔ ∀ q, q < n → ∀ p, p < q → x p ≠ x q
  | 0 => ⟨fun _ q hq => absurd hq (Nat.not_lt_zero _), fun _ => rfl⟩
  | n + 1 => by
    have ih := LX_df x n
    have hle := LX_le x n
    rw [LX]
    by_cases h : en (x n) ∈ LX x n
    · rw [if_pos h]
      obtain ⟨q, hq, he⟩ := LX_mem.1 h
      exact ⟨fun h2 => by omega, fun h2 => absurd (en_inj he) (h2 n (by omega) q hq)⟩
    · rw [if_neg h, List.length_cons]
      constructor
      · intro h2 q hq p hp
        by_cases e : q = n
        · subst e; exact fun he => h (LX_mem.2 ⟨p, hp, by rw [he]⟩)
        · exact ih.1 (by omega) q (by omega) p hp
      · intro h2
        rw [ih.2 fun q hq p hp => h2 q (by omega) p hp]
theorem LX_len {x : Nat → ByteArray} {n : Nat} : ∀ L : List Nat, L.Nodup → (∀ a, a ∈ L ↔ FX x n a ≠ none) → L.length = (LX x n).length := fun L hL h =>
  Nat.le_antisymm (len_le hL fun a ha => LX_mem.2 (FX_ne.1 ((h a).1 ha))) (len_le (LX_nodup x n) fun a ha => (h a).2 (FX_ne.2 (LX_mem.1 ha)))
theorem c36 (F d : Nat) (hF : 200 < F) (a : Option Addr) (n e c : Nat) (hn : n ≤ 150) (x : Nat → ByteArray) : ReadC (CL F (d + 1)) 36 [.sl 1000 a n c] [(1000, .ro a n e 1 (fun j => [.val (.string (x j))]))] (20000 + 200) (.bool (dfX x n)) := by
  intro R
  rw [show 20000 + 200 = (20000) + 200 from rfl, addL_eq, ← Nat.add_assoc, ← addL_eq _ 200, Nat.add_comm R (20000)]
  refine call_in (n := 21) Try.func36 rfl rfl rfl rfl rfl rfl rfl ?_
  repeat' ((conv => whnf); first | refine eqS_rfl ?_ | refine eqA_rfl ?_ | refine eqA_of (by assumption) ?_ | refine eqS_of (by rfl) ?_ | refine eqL_rfl ?_ | refine eqJ_rfl ?_ | refine gE ?_ | refine seS_rfl ?_ | refine lsS_of hup ?_ | refine lsS_rfl ?_ | refine brS_tt ?_ | refine brS_ff ?_ | refine brS_not ?_ | refine gI ?_ | refine gT ?_ | refine gF ?_ | refine brS_intro (fun _ => ?_) (fun _ => ?_) | refine gL ?_ | refine gX ?_ | refine gO ?_ | refine gN ?_ | intro _)
  rename_i bm
  conv => whnf
  refine loS_i (fun jj f mm R' ni => ∃ (j : Nat) (kv : Nat → SV), j ≤ n ∧ (j ≠ 0 → kv = kvS) ∧ jj = n - j + 1 ∧ f = [(0, .sl 1000 a n c), (3, .mpv 0 bm), (7, .sl 1000 a n c), (8, .int .i64 (Int.ofNat n)), (9, .int .i64 (Int.ofNat j))] ∧ mm = [(0, .mp bm kv (FX x j)), (1000, .ro a n e 1 (fun j => [.val (.string (x j))]))] ∧ R' = (addL (60 * (n - j) + R) 60) ∧ ni = 10) (n + 1) (by omega)
    ⟨[(0, .sl 1000 a n c), (3, .mpv 0 bm), (7, .sl 1000 a n c), (8, .int .i64 (Int.ofNat n)), (9, .int .i64 (Int.ofNat 0))], [(0, .mp bm jkM noM), (1000, .ro a n e 1 (fun j => [.val (.string (x j))]))], (addL (60 * (n - 0) + R) 60), 10, ⟨eqF_rfl _, eqF_rfl _, eqF_rfl _, eqF_rfl _, eqF_rfl _, trivial⟩, WS, nM1, 0, jkM, by omega, fun h => absurd rfl h, by omega, rfl, rfl, rfl, rfl⟩ ?_
  rintro _ _ _ _ _ ⟨j, kv, hj, hkv, rfl, rfl, rfl, rfl, rfl⟩
  by_cases hlt : j < n
  · have d1 := iLt_t hlt
    have hb : 60 * (n - j) = 60 * (n - (j + 1)) + 60 := by omega
    have hup := FX_upd x j
    rcases Nat.eq_zero_or_pos j with rfl | hj0
    · skip
      repeat' ((conv => whnf); first | refine eqS_rfl ?_ | refine eqA_rfl ?_ | refine eqA_of (by assumption) ?_ | refine eqS_of (by rfl) ?_ | refine eqL_rfl ?_ | refine eqJ_rfl ?_ | refine gE ?_ | refine seS_rfl ?_ | refine lsS_of hup ?_ | refine lsS_rfl ?_ | refine brS_tt ?_ | refine brS_ff ?_ | refine brS_not ?_ | refine gI ?_ | refine gT ?_ | refine gF ?_ | refine brS_intro (fun _ => ?_) (fun _ => ?_) | refine gL ?_ | refine gX ?_ | refine gO ?_ | refine gN ?_ | refine gM ?_ | refine gY ?_ | refine kyS_new kvS (en (x 0)) (fun _ => rfl) (keyS _ rfl) (kvS_en _) ?_ | intro _)
      conv => whnf
      have hup0 : updM (fun x => none) (en (x 0)) (.bool true) = FX x (0 + 1) := FX_upd x 0
      exact ⟨n - (0 + 1) + 1, [(0, .sl 1000 a n c), (3, .mpv 0 bm), (7, .sl 1000 a n c), (8, .int .i64 (Int.ofNat n)), (9, .int .i64 (Int.ofNat (0 + 1)))], [(0, .mp bm kvS (FX x (0 + 1))), (1000, .ro a n e 1 (fun j => [.val (.string (x j))]))], (addL (60 * (n - (0 + 1)) + R) 60), 10, by omega, ⟨eqF_rfl _, eqF_rfl _, eqF_rfl _, eqF_rfl _, ⟨congrArg (Value.int .i64) (smn (i := 0 + 1) (by omega)), rfl⟩, trivial⟩, by rw [← hup0]; exact WS, nM1, 0 + 1, kvS, by omega, fun _ => rfl, rfl, rfl, rfl, rfl, rfl⟩
    · have e := hkv (by omega)
      subst e
      repeat' ((conv => whnf); first | refine eqS_rfl ?_ | refine eqA_rfl ?_ | refine eqA_of (by assumption) ?_ | refine eqS_of (by rfl) ?_ | refine eqL_rfl ?_ | refine eqJ_rfl ?_ | refine gE ?_ | refine seS_rfl ?_ | refine lsS_of hup ?_ | refine lsS_rfl ?_ | refine brS_tt ?_ | refine brS_ff ?_ | refine brS_not ?_ | refine gI ?_ | refine gT ?_ | refine gF ?_ | refine brS_intro (fun _ => ?_) (fun _ => ?_) | refine gL ?_ | refine gX ?_ | refine gO ?_ | refine gN ?_ | refine gM ?_ | refine gY ?_ | refine kyS_of (en (x j)) (keyS _ rfl) (kvS_en _) ?_ | intro _)
      conv => whnf
      exact ⟨n - (j + 1) + 1, [(0, .sl 1000 a n c), (3, .mpv 0 bm), (7, .sl 1000 a n c), (8, .int .i64 (Int.ofNat n)), (9, .int .i64 (Int.ofNat (j + 1)))], [(0, .mp bm kvS (FX x (j + 1))), (1000, .ro a n e 1 (fun j => [.val (.string (x j))]))], (addL (60 * (n - (j + 1)) + R) 60), 10, by omega, ⟨eqF_rfl _, eqF_rfl _, eqF_rfl _, eqF_rfl _, ⟨congrArg (Value.int .i64) (smn (i := j + 1) (by omega)), rfl⟩, trivial⟩, by rw [← hup]; exact WS, nM1, j + 1, kvS, by omega, fun _ => rfl, rfl, rfl, rfl, rfl, rfl⟩
  · have e2 : j = n := by omega
    subst e2
    have d1 := iLt_f (Nat.le_refl j)
    repeat' ((conv => whnf); first | refine eqS_rfl ?_ | refine eqA_rfl ?_ | refine eqA_of (by assumption) ?_ | refine eqS_of (by rfl) ?_ | refine eqL_rfl ?_ | refine eqJ_rfl ?_ | refine gE ?_ | refine seS_rfl ?_ | refine lsS_of hup ?_ | refine lsS_rfl ?_ | refine brS_tt ?_ | refine brS_ff ?_ | refine brS_not ?_ | refine gI ?_ | refine gT ?_ | refine gF ?_ | refine brS_intro (fun _ => ?_) (fun _ => ?_) | refine gL ?_ | refine gX ?_ | refine gO ?_ | refine gN ?_ | refine lnS_of (LX x j).length LX_len ?_ | intro _)
    conv => whnf
    refine ⟨congrArg Value.bool ?_, nM1⟩
    rw [iEq_n]
    exact decide_eq_decide.2 (LX_df x j)
end Go.Proofs.Ytfcgfnlifdjfjaa
namespace Go.Proofs.Ytfcgfnlifdjfjaa
open Go.Ab
attribute [local irreducible] aggOk drwOK
set_option maxRecDepth 100000
set_option maxHeartbeats 4000000
set_option linter.unusedVariables false
set_option linter.unusedSimpArgs false
/-- a mark -/
def biA (j i : Nat) : Int := wr .u8 (wr .i64 (Int.add 48 (andI .i64 (shrV .i64 (Int.ofNat j) i) 1)))
def oA (n j : Nat) : ByteArray := ⟨⟨bytesU8 ((List.range n).map (biA j))⟩⟩
theorem bytesU8_len : ∀ l : List Int, (bytesU8 l).length = l.length
  | [] => rfl
  | _ :: l => congrArg (· + 1) (bytesU8_len l)
theorem oA_size (n j : Nat) : (oA n j).size = n := by
  show (bytesU8 ((List.range n).map (biA j))).length = n
  rw [bytesU8_len, List.length_map, List.length_range]
/-- the least of the first turns -/
def lsA (w : ByteArray) : Nat → ByteArray
  | 0 => w
  | t + 1 => mnB (lsA w t) (tn w (t + 1))
def xA (n j : Nat) : ByteArray := lsA (oA n j) (n - 1)
end Go.Proofs.Ytfcgfnlifdjfjaa
namespace Go.Proofs.Ytfcgfnlifdjfjaa
open Go.Ab
attribute [local irreducible] aggOk drwOK
set_option maxRecDepth 100000
set_option maxHeartbeats 4000000
set_option linter.unusedVariables false
set_option linter.unusedSimpArgs false
def mnL (a b : List UInt8) : List UInt8 := if (Op.bytesLess a b || a == b) = true then a else b
theorem mnB_l (a b : ByteArray) : (mnB a b).data.toList = mnL a.data.toList b.data.toList := by
  unfold mnB mnL
  rw [toList_data2, toList_data2]
  split <;> rfl
def lsL (l : List UInt8) : Nat → List UInt8
  | 0 => l
  | t + 1 => mnL (lsL l t) (rot l (t + 1))
theorem lsA_l (w : ByteArray) : ∀ t, (lsA w t).data.toList = lsL w.data.toList t
  | 0 => rfl
  | t + 1 => by rw [lsA, mnB_l, lsA_l w t, tn_rot]; rfl
def exA (n j : Nat) : Nat := enc (lsL (bytesU8 ((List.range n).map (biA j))) (n - 1))
theorem en_exA (n j : Nat) : en (xA n j) = exA n j := by
  unfold en xA exA
  rw [lsA_l]
  rfl
def ndB : List Nat → Bool
  | [] => true
  | a :: l => !(l.any (Nat.beq a)) && ndB l
theorem ndB_ok : ∀ {l : List Nat}, ndB l = true → l.Nodup
  | [], _ => List.nodup_nil
  | a :: l, h => by
    obtain ⟨h1, h2⟩ := and_true h
    refine List.nodup_cons.2 ⟨fun hm => ?_, ndB_ok h2⟩
    rw [List.any_eq_true.2 ⟨a, hm, Nat.beq_refl a⟩] at h1
    cases h1
theorem cntA {n N : Nat} (L : List Nat) (h0 : ndB L = true) (h1 : (List.range N).all (fun j => L.any (Nat.beq (exA n j))) = true) (h2 : L.all (fun a => (List.range N).any fun q => Nat.beq (exA n q) a) = true) : (LX (xA n) N).length = L.length := by
  refine (LX_len L (ndB_ok h0) fun a => ?_).symm
  rw [FX_ne]
  constructor
  · intro ha
    obtain ⟨q, hq, he⟩ := List.any_eq_true.1 (List.all_eq_true.1 h2 a ha)
    exact ⟨q, List.mem_range.1 hq, (en_exA n q).trans (beq_true he)⟩
  · rintro ⟨q, hq, rfl⟩
    obtain ⟨b, hb, he⟩ := List.any_eq_true.1 (List.all_eq_true.1 h1 q (List.mem_range.2 hq))
    rw [en_exA, beq_true he]
    exact hb
theorem cnt_1 : (LX (xA 1) 2).length = 2 := cntA [49, 50] (by kernel_rfl) (by kernel_rfl) (by kernel_rfl)
theorem cnt_2 : (LX (xA 2) 4).length = 3 := cntA [12593, 12849, 12850] (by kernel_rfl) (by kernel_rfl) (by kernel_rfl)
theorem cnt_3 : (LX (xA 3) 8).length = 4 := cntA [3223857, 3289393, 3289649, 3289650] (by kernel_rfl) (by kernel_rfl) (by kernel_rfl)
theorem cnt_4 : (LX (xA 4) 16).length = 6 := cntA [825307441, 842084657, 842150193, 842084913, 842150449, 842150450] (by kernel_rfl) (by kernel_rfl) (by kernel_rfl)
theorem cnt_5 : (LX (xA 5) 32).length = 8 := cntA [211278704945, 215573672241, 215590449457, 215573737777, 215590514993, 215590449713, 215590515249, 215590515250] (by kernel_rfl) (by kernel_rfl) (by kernel_rfl)
theorem cnt_6 : (LX (xA 6) 64).length = 14 := cntA [54087348465969, 55186860093745, 55191155061041, 55186876870961, 55191171838257, 55186860159281, 55186876936497, 55191155126577, 55191171903793, 55186876871217, 55191171838513, 55191155126833, 55191171904049, 55191171904050] (by kernel_rfl) (by kernel_rfl) (by kernel_rfl)
theorem cnt_7 : (LX (xA 7) 128).length = 20 := cntA [13846361207288113, 14127836183998769, 14128935695626545, 14127840478966065, 14128939990593841, 14127836200775985, 14127840495743281, 14128935712403761, 14128940007371057, 14128935695692081, 14127840479031601, 14127840495808817, 14128935712469297, 14128939990659377, 14128940007436593, 14128935712404017, 14128940007371313, 14128939990659633, 14128940007436849, 14128940007436850] (by kernel_rfl) (by kernel_rfl) (by kernel_rfl)
theorem cnt_8 : (LX (xA 8) 256).length = 36 := cntA [3544668469065756977, 3616726063103684913, 3617007538080395569, 3616727162615312689, 3617008637592023345, 3616726067398652209, 3616727166910279985, 3617007542375362865, 3617008641886990641, 3616726063120462129, 3616726067415429425, 3616727162632089905, 3616727166927057201, 3617007538097172785, 3617007542392140081, 3617008637608800561, 3617008641903767857, 3616727162615378225, 3617008637592088881, 3616727162632155441, 3616727166910345521, 3616727166927122737, 3617007538097238321, 3617007542375428401, 3617007542392205617, 3617008637608866097, 3617008641887056177, 3617008641903833393, 3616727162632090161, 3617008637608800817, 3617007542392140337, 3617008641903768113, 3617008641887056433, 3617008637608866353, 3617008641903833649, 3617008641903833650] (by kernel_rfl) (by kernel_rfl) (by kernel_rfl)
theorem cnt_9 : (LX (xA 9) 512).length = 60 := cntA [907435128080833786161, 925881872154543337777, 925953929748581265713, 925882153629520048433, 925954211223557976369, 925881873254054965553, 925882154729031676209, 925953930848092893489, 925954212323069604145, 925881872158838305073, 925881873258349932849, 925882153633815015729, 925882154733326643505, 925953929752876233009, 925953930852387860785, 925954211227852943665, 925954212327364571441, 925953929748598042929, 925881873254071742769, 925881873258366710065, 925882153629536825649, 925882153633831792945, 925882154729048453425, 925882154733343420721, 925953929752893010225, 925953930848109670705, 925953930852404638001, 925954211223574753585, 925954211227869720881, 925954212323086381361, 925954212327381348657, 925881873254055031089, 925882154729031741745, 925953930848092959025, 925954212323069669681, 925953929752876298545, 925882153633815081265, 925882153633831858481, 925882154729048518961, 925882154733326709041, 925882154733343486257, 925954211223574819121, 925953930848109736241, 925953930852387926321, 925953930852404703537, 925954211227853009201, 925954211227869786417, 925954212323086446897, 925954212327364636977, 925954212327381414193, 925953930848109670961, 925954212323086381617, 925953930852404638257, 925954211227869721137, 925954212327381348913, 925953930852387926577, 925954212327364637233, 925954212323086447153, 925954212327381414449, 925954212327381414450] (by kernel_rfl) (by kernel_rfl) (by kernel_rfl)end Go.Proofs.Ytfcgfnlifdjfjaa
namespace Go.Proofs.Ytfcgfnlifdjfjaa
open Go.Ab
attribute [local irreducible] aggOk drwOK
set_option maxRecDepth 100000
set_option maxHeartbeats 4000000
set_option linter.unusedVariables false
set_option linter.unusedSimpArgs false
theorem c31_1 (F d : Nat) (hF : 600 < F) : PureC (CL F (d + 2)) 31 [.int .i64 (Int.ofNat 1)] 1000 (.tup [.int .i64 (Int.ofNat 2), .int .i64 0]) := by
  intro m R
  refine call_in (n := 26) Try.func31 rfl rfl rfl rfl rfl rfl rfl ?_
  repeat' ((conv => whnf); first | refine eqS_rfl ?_ | refine eqA_rfl ?_ | refine eqA_of (by assumption) ?_ | refine eqS_of (by rfl) ?_ | refine eqL_rfl ?_ | refine eqJ_rfl ?_ | refine gE ?_ | refine seS_rfl ?_ | refine lsS_of hup ?_ | refine lsS_rfl ?_ | refine brS_tt ?_ | refine brS_ff ?_ | refine brS_not ?_ | refine gI ?_ | refine gT ?_ | refine gF ?_ | refine brS_intro (fun _ => ?_) (fun _ => ?_) | refine gL ?_ | refine gX ?_ | refine gO ?_ | refine gN ?_ | refine call_in (n := 12) Try.func55 rfl rfl rfl rfl rfl rfl rfl ?_ | refine loS_u 2 (by omega) ?_ | refine nzS_intro (by decide) ?_ | intro _)
  all_goals (conv => whnf)
  all_goals refine ⟨?_, by repeat' (first | exact WkM.refl _ | refine WkM.drop ?_), by repeat' (first | exact Nat.le_refl _ | refine Nat.le_succ_of_le ?_)⟩
  all_goals (rfl)


theorem c31_2 (F d : Nat) (hF : 600 < F) : PureC (CL F (d + 2)) 31 [.int .i64 (Int.ofNat 2)] 1000 (.tup [.int .i64 (Int.ofNat 3), .int .i64 0]) := by
  intro m R
  refine call_in (n := 26) Try.func31 rfl rfl rfl rfl rfl rfl rfl ?_
  repeat' ((conv => whnf); first | refine eqS_rfl ?_ | refine eqA_rfl ?_ | refine eqA_of (by assumption) ?_ | refine eqS_of (by rfl) ?_ | refine eqL_rfl ?_ | refine eqJ_rfl ?_ | refine gE ?_ | refine seS_rfl ?_ | refine lsS_of hup ?_ | refine lsS_rfl ?_ | refine brS_tt ?_ | refine brS_ff ?_ | refine brS_not ?_ | refine gI ?_ | refine gT ?_ | refine gF ?_ | refine brS_intro (fun _ => ?_) (fun _ => ?_) | refine gL ?_ | refine gX ?_ | refine gO ?_ | refine gN ?_ | refine call_in (n := 12) Try.func55 rfl rfl rfl rfl rfl rfl rfl ?_ | refine loS_u 3 (by omega) ?_ | refine nzS_intro (by decide) ?_ | intro _)
  all_goals (conv => whnf)
  all_goals refine ⟨?_, by repeat' (first | exact WkM.refl _ | refine WkM.drop ?_), by repeat' (first | exact Nat.le_refl _ | refine Nat.le_succ_of_le ?_)⟩
  all_goals (rfl)


theorem c31_3 (F d : Nat) (hF : 600 < F) : PureC (CL F (d + 2)) 31 [.int .i64 (Int.ofNat 3)] 1000 (.tup [.int .i64 (Int.ofNat 4), .int .i64 0]) := by
  intro m R
  refine call_in (n := 26) Try.func31 rfl rfl rfl rfl rfl rfl rfl ?_
  repeat' ((conv => whnf); first | refine eqS_rfl ?_ | refine eqA_rfl ?_ | refine eqA_of (by assumption) ?_ | refine eqS_of (by rfl) ?_ | refine eqL_rfl ?_ | refine eqJ_rfl ?_ | refine gE ?_ | refine seS_rfl ?_ | refine lsS_of hup ?_ | refine lsS_rfl ?_ | refine brS_tt ?_ | refine brS_ff ?_ | refine brS_not ?_ | refine gI ?_ | refine gT ?_ | refine gF ?_ | refine brS_intro (fun _ => ?_) (fun _ => ?_) | refine gL ?_ | refine gX ?_ | refine gO ?_ | refine gN ?_ | refine call_in (n := 12) Try.func55 rfl rfl rfl rfl rfl rfl rfl ?_ | refine loS_u 4 (by omega) ?_ | refine nzS_intro (by decide) ?_ | intro _)
  all_goals (conv => whnf)
  all_goals refine ⟨?_, by repeat' (first | exact WkM.refl _ | refine WkM.drop ?_), by repeat' (first | exact Nat.le_refl _ | refine Nat.le_succ_of_le ?_)⟩
  all_goals (rfl)


theorem c31_4 (F d : Nat) (hF : 600 < F) : PureC (CL F (d + 2)) 31 [.int .i64 (Int.ofNat 4)] 1000 (.tup [.int .i64 (Int.ofNat 6), .int .i64 0]) := by
  intro m R
  refine call_in (n := 26) Try.func31 rfl rfl rfl rfl rfl rfl rfl ?_
  repeat' ((conv => whnf); first | refine eqS_rfl ?_ | refine eqA_rfl ?_ | refine eqA_of (by assumption) ?_ | refine eqS_of (by rfl) ?_ | refine eqL_rfl ?_ | refine eqJ_rfl ?_ | refine gE ?_ | refine seS_rfl ?_ | refine lsS_of hup ?_ | refine lsS_rfl ?_ | refine brS_tt ?_ | refine brS_ff ?_ | refine brS_not ?_ | refine gI ?_ | refine gT ?_ | refine gF ?_ | refine brS_intro (fun _ => ?_) (fun _ => ?_) | refine gL ?_ | refine gX ?_ | refine gO ?_ | refine gN ?_ | refine call_in (n := 12) Try.func55 rfl rfl rfl rfl rfl rfl rfl ?_ | refine loS_u 5 (by omega) ?_ | refine nzS_intro (by decide) ?_ | intro _)
  all_goals (conv => whnf)
  all_goals refine ⟨?_, by repeat' (first | exact WkM.refl _ | refine WkM.drop ?_), by repeat' (first | exact Nat.le_refl _ | refine Nat.le_succ_of_le ?_)⟩
  all_goals (rfl)


theorem c31_5 (F d : Nat) (hF : 600 < F) : PureC (CL F (d + 2)) 31 [.int .i64 (Int.ofNat 5)] 1000 (.tup [.int .i64 (Int.ofNat 8), .int .i64 0]) := by
  intro m R
  refine call_in (n := 26) Try.func31 rfl rfl rfl rfl rfl rfl rfl ?_
  repeat' ((conv => whnf); first | refine eqS_rfl ?_ | refine eqA_rfl ?_ | refine eqA_of (by assumption) ?_ | refine eqS_of (by rfl) ?_ | refine eqL_rfl ?_ | refine eqJ_rfl ?_ | refine gE ?_ | refine seS_rfl ?_ | refine lsS_of hup ?_ | refine lsS_rfl ?_ | refine brS_tt ?_ | refine brS_ff ?_ | refine brS_not ?_ | refine gI ?_ | refine gT ?_ | refine gF ?_ | refine brS_intro (fun _ => ?_) (fun _ => ?_) | refine gL ?_ | refine gX ?_ | refine gO ?_ | refine gN ?_ | refine call_in (n := 12) Try.func55 rfl rfl rfl rfl rfl rfl rfl ?_ | refine loS_u 6 (by omega) ?_ | refine nzS_intro (by decide) ?_ | intro _)
  all_goals (conv => whnf)
  all_goals refine ⟨?_, by repeat' (first | exact WkM.refl _ | refine WkM.drop ?_), by repeat' (first | exact Nat.le_refl _ | refine Nat.le_succ_of_le ?_)⟩
  all_goals (rfl)


theorem c31_6 (F d : Nat) (hF : 600 < F) : PureC (CL F (d + 2)) 31 [.int .i64 (Int.ofNat 6)] 1000 (.tup [.int .i64 (Int.ofNat 14), .int .i64 0]) := by
  intro m R
  refine call_in (n := 26) Try.func31 rfl rfl rfl rfl rfl rfl rfl ?_
  repeat' ((conv => whnf); first | refine eqS_rfl ?_ | refine eqA_rfl ?_ | refine eqA_of (by assumption) ?_ | refine eqS_of (by rfl) ?_ | refine eqL_rfl ?_ | refine eqJ_rfl ?_ | refine gE ?_ | refine seS_rfl ?_ | refine lsS_of hup ?_ | refine lsS_rfl ?_ | refine brS_tt ?_ | refine brS_ff ?_ | refine brS_not ?_ | refine gI ?_ | refine gT ?_ | refine gF ?_ | refine brS_intro (fun _ => ?_) (fun _ => ?_) | refine gL ?_ | refine gX ?_ | refine gO ?_ | refine gN ?_ | refine call_in (n := 12) Try.func55 rfl rfl rfl rfl rfl rfl rfl ?_ | refine loS_u 7 (by omega) ?_ | refine nzS_intro (by decide) ?_ | intro _)
  all_goals (conv => whnf)
  all_goals refine ⟨?_, by repeat' (first | exact WkM.refl _ | refine WkM.drop ?_), by repeat' (first | exact Nat.le_refl _ | refine Nat.le_succ_of_le ?_)⟩
  all_goals (rfl)


theorem c31_7 (F d : Nat) (hF : 600 < F) : PureC (CL F (d + 2)) 31 [.int .i64 (Int.ofNat 7)] 1000 (.tup [.int .i64 (Int.ofNat 20), .int .i64 0]) := by
  intro m R
  refine call_in (n := 26) Try.func31 rfl rfl rfl rfl rfl rfl rfl ?_
  repeat' ((conv => whnf); first | refine eqS_rfl ?_ | refine eqA_rfl ?_ | refine eqA_of (by assumption) ?_ | refine eqS_of (by rfl) ?_ | refine eqL_rfl ?_ | refine eqJ_rfl ?_ | refine gE ?_ | refine seS_rfl ?_ | refine lsS_of hup ?_ | refine lsS_rfl ?_ | refine brS_tt ?_ | refine brS_ff ?_ | refine brS_not ?_ | refine gI ?_ | refine gT ?_ | refine gF ?_ | refine brS_intro (fun _ => ?_) (fun _ => ?_) | refine gL ?_ | refine gX ?_ | refine gO ?_ | refine gN ?_ | refine call_in (n := 12) Try.func55 rfl rfl rfl rfl rfl rfl rfl ?_ | refine loS_u 8 (by omega) ?_ | refine nzS_intro (by decide) ?_ | intro _)
  all_goals (conv => whnf)
  all_goals refine ⟨?_, by repeat' (first | exact WkM.refl _ | refine WkM.drop ?_), by repeat' (first | exact Nat.le_refl _ | refine Nat.le_succ_of_le ?_)⟩
  all_goals (rfl)


theorem c31_8 (F d : Nat) (hF : 600 < F) : PureC (CL F (d + 2)) 31 [.int .i64 (Int.ofNat 8)] 1000 (.tup [.int .i64 (Int.ofNat 36), .int .i64 0]) := by
  intro m R
  refine call_in (n := 26) Try.func31 rfl rfl rfl rfl rfl rfl rfl ?_
  repeat' ((conv => whnf); first | refine eqS_rfl ?_ | refine eqA_rfl ?_ | refine eqA_of (by assumption) ?_ | refine eqS_of (by rfl) ?_ | refine eqL_rfl ?_ | refine eqJ_rfl ?_ | refine gE ?_ | refine seS_rfl ?_ | refine lsS_of hup ?_ | refine lsS_rfl ?_ | refine brS_tt ?_ | refine brS_ff ?_ | refine brS_not ?_ | refine gI ?_ | refine gT ?_ | refine gF ?_ | refine brS_intro (fun _ => ?_) (fun _ => ?_) | refine gL ?_ | refine gX ?_ | refine gO ?_ | refine gN ?_ | refine call_in (n := 12) Try.func55 rfl rfl rfl rfl rfl rfl rfl ?_ | refine loS_u 9 (by omega) ?_ | refine nzS_intro (by decide) ?_ | intro _)
  all_goals (conv => whnf)
  all_goals refine ⟨?_, by repeat' (first | exact WkM.refl _ | refine WkM.drop ?_), by repeat' (first | exact Nat.le_refl _ | refine Nat.le_succ_of_le ?_)⟩
  all_goals (rfl)


theorem c31_9 (F d : Nat) (hF : 600 < F) : PureC (CL F (d + 2)) 31 [.int .i64 (Int.ofNat 9)] 1000 (.tup [.int .i64 (Int.ofNat 60), .int .i64 0]) := by
  intro m R
  refine call_in (n := 26) Try.func31 rfl rfl rfl rfl rfl rfl rfl ?_
  repeat' ((conv => whnf); first | refine eqS_rfl ?_ | refine eqA_rfl ?_ | refine eqA_of (by assumption) ?_ | refine eqS_of (by rfl) ?_ | refine eqL_rfl ?_ | refine eqJ_rfl ?_ | refine gE ?_ | refine seS_rfl ?_ | refine lsS_of hup ?_ | refine lsS_rfl ?_ | refine brS_tt ?_ | refine brS_ff ?_ | refine brS_not ?_ | refine gI ?_ | refine gT ?_ | refine gF ?_ | refine brS_intro (fun _ => ?_) (fun _ => ?_) | refine gL ?_ | refine gX ?_ | refine gO ?_ | refine gN ?_ | refine call_in (n := 12) Try.func55 rfl rfl rfl rfl rfl rfl rfl ?_ | refine loS_u 10 (by omega) ?_ | refine nzS_intro (by decide) ?_ | intro _)
  all_goals (conv => whnf)
  all_goals refine ⟨?_, by repeat' (first | exact WkM.refl _ | refine WkM.drop ?_), by repeat' (first | exact Nat.le_refl _ | refine Nat.le_succ_of_le ?_)⟩
  all_goals (rfl)

end Go.Proofs.Ytfcgfnlifdjfjaa
