/- RankTrue: the law. -/
import Derived.Test.YtefnljdfgjjpjaaRaZ
import Derived.KernelRfl
namespace Go.Proofs.Ytefnljdfgjjpjaa
open Go.Ab
attribute [local irreducible] aggOk drwOK
set_option maxRecDepth 100000
set_option maxHeartbeats 4000000
set_option linter.unusedVariables false
set_option linter.unusedSimpArgs false
theorem le_of_iLt {a b : Nat} (h : iLt (Int.ofNat a) (Int.ofNat b) = false) : b ≤ a := by
  rw [iLt_eq] at h
  have h := of_decide_eq_false h
  have h : ¬ ((a : Int) < (b : Int)) := h
  omega
theorem l9 (F d : Nat) (hF : 300 < F) (aw : Option Addr) (nw ew cw : Nat) (w0 w1 : Nat → Nat) (hw0 : ∀ j, w0 j < 256) (hw1 : ∀ j, w1 j < 256) (ab : Option Addr) (nb eb cb : Nat) (t : Nat → Nat) (ht : ∀ j, t j < 256) (kk : Nat) (hkk : kk < 256) :
    ReadC (CL F (d + 60)) 9 [.sl 1000 aw nw cw, .sl 1001 ab nb cb, .int .u8 (Int.ofNat kk)] [(1000, .ro aw nw ew 2 fun j => [.int .u8 (Int.ofNat (w0 j)), .int .u8 (Int.ofNat (w1 j))]), (1001, .ro ab nb eb 1 fun j => [.int .u8 (Int.ofNat (t j))])] (10000000 + 200) (.bool true) := by
  have hF2 : 200 < F := by omega
  have hT0 : 0 < mT nw := by unfold mT; split <;> omega
  have hT5 : mT nw ≤ 5 := by unfold mT; split <;> omega
  have k43 := fun a e c => c43 F (d + 57) 800 hF2 a nw e c w0 w1 hw0 hw1
  have hlh0 := mlh nw w0 w1
  generalize mT nw = T at k43 hT0 hT5
  generalize ml nw w0 = lo at k43 hlh0
  generalize mh nw w0 w1 = hi at k43 hlh0
  have v0 : ∀ j, j < T → lo j ≤ hi j ∧ hi j ≤ 100000 := fun j _ => ⟨(hlh0 j).1, by have := hlh0 j; omega⟩
  have hTn : Int.ofNat T ≠ 0 := fun h => by have h : (T : Int) = 0 := h; omega
  obtain ⟨k0, hk0⟩ : ∃ k0, k0 = 1 + kk % T := ⟨_, rfl⟩
  have hk1 : 1 ≤ k0 := by omega
  have hk2 : k0 ≤ T := by have := Nat.mod_lt kk hT0; omega
  have ek : wr .i64 (Int.add 1 (Int.tmod (wr .i64 (Int.ofNat kk)) (Int.ofNat T))) = Int.ofNat k0 := by
    rw [smn (i := kk) (by omega), show Int.tmod (Int.ofNat kk) (Int.ofNat T) = Int.ofNat (kk % T) from rfl, hk0]
    exact smn (i := 1 + kk % T) (by omega)
  obtain ⟨rv, hrv⟩ : ∃ rv, rv = rvT nb t lo hi := ⟨_, rfl⟩
  have hin : ∀ j, j < T → lo j ≤ rv j ∧ rv j ≤ hi j := fun j _ => by rw [hrv]; exact rvT_in (hlh0 j).1
  have hrl : ∀ g p, SP rv T g → p < T → rkL lo hi T (g p) ≤ p + 1 := fun g p h hp => h.rkL hT5 hin hp
  have hrh : ∀ g p, SP rv T g → p < T → p + 1 ≤ rkH lo hi T (g p) := fun g p h hp => h.rkH hT5 hin (fun j => by have := hlh0 j; omega) hp
  have k25 := fun am => c25 F (d + 53) 830 hF2 am T 0 T lo hi hT0 hT5 v0
  have k27 := fun am => c27 F (d + 53) 840 841 hF2 am T 0 T lo hi hT0 hT5 v0 k0 hk1 hk2
  have hno : ∀ g, SP rv T g → ∀ p q, p < T → q < T → isF lo hi g p q = false := fun g h p q hp hq => by
    unfold isF qt
    by_cases e : p < q
    · rw [decide_eq_true e, Bool.true_and]
      have h1 := h.srt p q e hq
      have h2 := hin (g p) (h.lt p hp)
      have h3 := hin (g q) (h.lt q hq)
      exact decide_eq_false (by omega)
    · rw [decide_eq_false e, Bool.false_and]
  generalize rkL lo hi T = rl at k25 k27 hrl
  generalize rkH lo hi T = rh at k25 k27 hrh
  have hCA : ∀ x, x ∈ caL rl k0 T ↔ x < T ∧ rl x ≤ k0 := fun x => caL_mem
  have hCB : ∀ x, x ∈ caL rh k0 T ↔ x < T ∧ rh x ≤ k0 := fun x => caL_mem
  have lA := caL_len rl k0 T
  have lB := caL_len rh k0 T
  generalize caL rl k0 T = CA at k27 hCA lA
  generalize caL rh k0 T = CB at k27 hCB lB
  intro R
  rw [show 10000000 + 200 = (10000000) + 200 from rfl, addL_eq, ← Nat.add_assoc, ← addL_eq _ 200, Nat.add_comm R (10000000)]
  refine call_in (n := 191) Try.func9 rfl rfl rfl rfl rfl rfl rfl ?_
  repeat' ((conv => whnf); first | refine eqS_rfl ?_ | refine eqA_rfl ?_ | refine eqA_of (by assumption) ?_ | refine eqS_of (by rfl) ?_ | refine eqL_rfl ?_ | refine eqJ_rfl ?_ | refine gE ?_ | refine seS_rfl ?_ | refine lsS_of hup ?_ | refine lsS_rfl ?_ | refine brS_tt ?_ | refine brS_ff ?_ | refine brS_not ?_ | refine gI ?_ | refine gT ?_ | refine gF ?_ | refine brS_intro (fun _ => ?_) (fun _ => ?_) | refine gL ?_ | refine gX ?_ | refine gO ?_ | refine gN ?_ | refine callQM (k43 _ _ _) (addL (9990000 + R) 150) (by rfl) (by exact SeesM.cons 1000 (sees_ro (i := 1000) (by rfl)) (SeesM.nil _) (fun _ _ _ _ _ _ x hx => by cases hx)) (nM1) ?_ | refine ltS_1 (by kernel_rfl) (by omega) ?_ | intro _)
  rename_i am b1
  conv => whnf
  obtain ⟨ar, har⟩ : ∃ ar : Option Addr, ar = some ⟨b1, 0, none⟩ := ⟨_, rfl⟩
  rw [← har]
  clear har
  have hg0 : ∀ z, z < T → (fun _ : Nat => [SV.int .i64 0]) z = nf (re rv 0) z := fun z _ => rfl
  refine loS_i (fun jj f mm R' ni => ∃ (i : Nat) (a1 : Option Addr) (g : Nat → Nat), i ≤ T ∧ SP rv i g ∧ jj = T - i + 1 ∧ f = [(1, .sl 1001 ab nb cb), (2, .int .u8 (Int.ofNat kk)), (7, .sl 800 am T T), (8, .sl 820 ar T T), (9, .sl 821 a1 i i), (26, .sl 800 am T T), (27, .int .i64 (Int.ofNat T)), (28, .int .i64 (Int.ofNat i))] ∧ mm = [(821, .gr a1 i 3 1 (nf g)), (820, .gr ar T 3 1 (nf (re rv i))), (800, .gr am T 63 2 (mf lo hi)), (1001, .ro ab nb eb 1 fun j => [.int .u8 (Int.ofNat (t j))])] ∧ R' = (addL (1000 * (T - i) + (9000000 + R)) 200) ∧ ni = 700) (T + 1) (by omega)
    ⟨[(1, .sl 1001 ab nb cb), (2, .int .u8 (Int.ofNat kk)), (7, .sl 800 am T T), (8, .sl 820 ar T T), (9, .sl 821 none 0 0), (26, .sl 800 am T T), (27, .int .i64 (Int.ofNat T)), (28, .int .i64 (Int.ofNat 0))], [(821, .gr none 0 3 1 (nf (fun z => z))), (820, .gr ar T 3 1 (nf (re rv 0))), (800, .gr am T 63 2 (mf lo hi)), (1001, .ro ab nb eb 1 fun j => [.int .u8 (Int.ofNat (t j))])], (addL (1000 * (T - 0) + (9000000 + R)) 200), 700, ⟨eqF_rfl _, eqF_rfl _, eqF_rfl _, ⟨rfl, rfl⟩, ⟨rfl, rfl⟩, eqF_rfl _, eqF_rfl _, eqF_rfl _, trivial⟩, by exact WkM.gr0 WG, nM1, 0, none, fun z => z, by omega, ⟨fun _ h => by omega, fun _ _ h => by omega, fun _ _ _ h => by omega⟩, by omega, rfl, rfl, rfl, rfl⟩ ?_
  rintro _ _ _ _ _ ⟨i, a1, g, hi', hS, rfl, rfl, rfl, rfl, rfl⟩
  by_cases hlt : i < T
  · have h1 := iLt_t hlt
    have hl0 := hlh0 i
    have ht0 := ht i
    have hg9 := growT (n := i) (sz := 1) (f := nf g) (g := nf (insF g i i)) (l := [.int .i64 (Int.ofNat i)]) (fun q hq => by show [SV.int .i64 (Int.ofNat (g q))] = [SV.int .i64 (Int.ofNat (insF g i i q))]; rw [insF_lt hq]) rfl (by show [SV.int .i64 (Int.ofNat (insF g i i i))] = _; rw [insF_self])
    have el9 : wr .i64 (Int.sub (Int.ofNat (i + 1)) 1) = Int.ofNat i := len1 (n := i + 1) (Nat.succ_pos i) (by omega)
    have hup : updG i [.int .i64 (Int.ofNat (lo i))] (nf (re rv i)) i = [.int .i64 (Int.ofNat (lo i))] := updG_same
    by_cases hnb : i < nb
    · have h2 := iLt_t hnb
      have eD : (wr .i64 (Int.add (wr .i64 (Int.sub (Int.ofNat (hi i)) (Int.ofNat (lo i)))) 1)) = Int.ofNat (hi i - lo i + 1) := by
        have e1 : wr .i64 (Int.sub (Int.ofNat (hi i)) (Int.ofNat (lo i))) = Int.ofNat (hi i - lo i) := (sm (n := (hi i : Int) - (lo i : Int)) (by omega)).trans (by show (hi i : Int) - (lo i : Int) = ((hi i - lo i : Nat) : Int); omega)
        rw [e1]
        exact smn (i := hi i - lo i + 1) (by omega)
      have hnz : (wr .i64 (Int.add (wr .i64 (Int.sub (Int.ofNat (hi i)) (Int.ofNat (lo i)))) 1)) ≠ 0 := by
        rw [eD]
        exact fun h => by have h : ((hi i - lo i + 1 : Nat) : Int) = 0 := h; omega
      have eV : (wr .i64 (Int.add (Int.ofNat (lo i)) (Int.tmod (wr .i64 (Int.ofNat (t i))) (wr .i64 (Int.add (wr .i64 (Int.sub (Int.ofNat (hi i)) (Int.ofNat (lo i)))) 1))))) = Int.ofNat (rv i) := by
        rw [eD, smn (i := t i) (by omega), show Int.tmod (Int.ofNat (t i)) (Int.ofNat (hi i - lo i + 1)) = Int.ofNat (t i % (hi i - lo i + 1)) from rfl, hrv]
        unfold rvT
        rw [if_pos hnb]
        have := Nat.mod_lt (t i) (show 0 < hi i - lo i + 1 by omega)
        exact smn (i := lo i + t i % (hi i - lo i + 1)) (by omega)
      have hr9 : ∀ z, z < T → updG i [.int .i64 (wr .i64 (Int.add (Int.ofNat (lo i)) (Int.tmod (wr .i64 (Int.ofNat (t i))) (wr .i64 (Int.add (wr .i64 (Int.sub (Int.ofNat (hi i)) (Int.ofNat (lo i)))) 1)))))] (updG i [.int .i64 (Int.ofNat (lo i))] (nf (re rv i))) z = nf (re rv (i + 1)) z := fun z _ => re2 eV z
      repeat' ((conv => whnf); first | refine eqS_rfl ?_ | refine eqA_rfl ?_ | refine eqA_of (by assumption) ?_ | refine eqS_of (by rfl) ?_ | refine eqL_rfl ?_ | refine eqJ_rfl ?_ | refine gE ?_ | refine seS_rfl ?_ | refine lsS_of hup ?_ | refine lsS_rfl ?_ | refine brS_tt ?_ | refine brS_ff ?_ | refine brS_not ?_ | refine gI ?_ | refine gT ?_ | refine gF ?_ | refine brS_intro (fun _ => ?_) (fun _ => ?_) | refine gL ?_ | refine gX ?_ | refine gO ?_ | refine gN ?_ | refine ltS_intro (show i * 1 + 1 < 32769 by omega) ?_ | rw [hup] | intro _)
      conv => whnf
      refine loS_i (fun jj f mm R' ni => ∃ (p : Nat) (a5 : Option Addr), p ≤ i ∧ (∀ z, p ≤ z → z < i → rv i < rv (g z)) ∧ jj = p + 1 ∧ f = [(1, .sl 1001 ab nb cb), (2, .int .u8 (Int.ofNat kk)), (7, .sl 800 am T T), (8, .sl 820 ar T T), (9, .sl 821 a5 (i + 1) (i + 1)), (12, .int .i64 (Int.ofNat p)), (26, .sl 800 am T T), (27, .int .i64 (Int.ofNat T)), (28, .int .i64 (Int.ofNat i))] ∧ mm = [(821, .gr a5 (i + 1) 3 1 (nf (insF g p i))), (820, .gr ar T 3 1 (nf (re rv (i + 1)))), (800, .gr am T 63 2 (mf lo hi)), (1001, .ro ab nb eb 1 fun j => [.int .u8 (Int.ofNat (t j))])] ∧ R' = (addL (100 * p + (1000 * (T - (i + 1)) + (9000000 + R))) 250) ∧ ni = 700) (i + 1) (by omega)
        ⟨[(1, .sl 1001 ab nb cb), (2, .int .u8 (Int.ofNat kk)), (7, .sl 800 am T T), (8, .sl 820 ar T T), (9, .sl 821 _ (i + 1) (i + 1)), (12, .int .i64 (Int.ofNat i)), (26, .sl 800 am T T), (27, .int .i64 (Int.ofNat T)), (28, .int .i64 (Int.ofNat i))], [(821, .gr _ (i + 1) 3 1 (nf (insF g i i))), (820, .gr ar T 3 1 (nf (re rv (i + 1)))), (800, .gr am T 63 2 (mf lo hi)), (1001, .ro ab nb eb 1 fun j => [.int .u8 (Int.ofNat (t j))])], (addL (100 * i + (1000 * (T - (i + 1)) + (9000000 + R))) 250), 700, ⟨eqF_rfl _, eqF_rfl _, eqF_rfl _, eqF_rfl _, ⟨rfl, rfl⟩, ⟨congrArg (Value.int .i64) el9, rfl⟩, eqF_rfl _, eqF_rfl _, eqF_rfl _, trivial⟩, by exact WG, nM1, i, _, by omega, fun z h1 h2 => by omega, rfl, rfl, rfl, rfl, rfl⟩ ?_
      rintro _ _ _ _ _ ⟨p, a5, hpi, hpb, rfl, rfl, rfl, rfl, rfl⟩
      by_cases hp0 : p = 0
      · subst hp0
        have hpp : iLt 0 (Int.ofNat 0) = false := rfl
        have hSn := hS.ins (p := 0) (by omega) hpb (.inl rfl)
        repeat' ((conv => whnf); first | refine eqS_rfl ?_ | refine eqA_rfl ?_ | refine eqA_of (by assumption) ?_ | refine eqS_of (by rfl) ?_ | refine eqL_rfl ?_ | refine eqJ_rfl ?_ | refine gE ?_ | refine seS_rfl ?_ | refine lsS_of hup ?_ | refine lsS_rfl ?_ | refine brS_tt ?_ | refine brS_ff ?_ | refine brS_not ?_ | refine gI ?_ | refine gT ?_ | refine gF ?_ | refine brS_intro (fun _ => ?_) (fun _ => ?_) | refine gL ?_ | refine gX ?_ | refine gO ?_ | refine gN ?_ | intro _)
        conv => whnf
        exact ⟨T - (i + 1) + 1, [(1, .sl 1001 ab nb cb), (2, .int .u8 (Int.ofNat kk)), (7, .sl 800 am T T), (8, .sl 820 ar T T), (9, .sl 821 _ (i + 1) (i + 1)), (26, .sl 800 am T T), (27, .int .i64 (Int.ofNat T)), (28, .int .i64 (Int.ofNat (i + 1)))], [(821, .gr _ (i + 1) 3 1 (nf (insF g 0 i))), (820, .gr ar T 3 1 (nf (re rv (i + 1)))), (800, .gr am T 63 2 (mf lo hi)), (1001, .ro ab nb eb 1 fun j => [.int .u8 (Int.ofNat (t j))])], (addL (1000 * (T - (i + 1)) + (9000000 + R)) 200), 700, by omega, ⟨eqF_rfl _, eqF_rfl _, eqF_rfl _, eqF_rfl _, eqF_rfl _, eqF_rfl _, eqF_rfl _, ⟨congrArg (Value.int .i64) (smn (i := i + 1) (by omega)), rfl⟩, trivial⟩, by exact WG, nM1, i + 1, _, _, by omega, hSn, rfl, rfl, rfl, rfl, rfl⟩
      · have hpp : iLt 0 (Int.ofNat p) = true := iLt_t (a := 0) (b := p) (by omega)
        have eix : wr .i64 (Int.sub (Int.ofNat p) 1) = Int.ofNat (p - 1) := len1 (by omega) (by omega)
        have hpi1 : p < i + 1 := by omega
        have hgl := hS.lt (p - 1) (by omega)
        have hx1 : insF g p i p < T := by rw [insF_self]; exact hlt
        have hx2 : insF g p i (p - 1) < T := by rw [insF_lt (by omega)]; omega
        have hc1 : re rv (i + 1) (insF g p i p) = rv i := by rw [insF_self, re_lt (by omega)]
        have hc2 : re rv (i + 1) (insF g p i (p - 1)) = rv (g (p - 1)) := by rw [insF_lt (by omega), re_lt (by omega)]
        cases ct : iLt (Int.ofNat (re rv (i + 1) (insF g p i p))) (Int.ofNat (re rv (i + 1) (insF g p i (p - 1)))) with
        | true =>
          have hlt9 := lt_of_iLt ct
          rw [hc1, hc2] at hlt9
          have hup : updG p [.int .i64 (Int.ofNat (insF g p i (p - 1)))] (nf (insF g p i)) (p - 1) = [.int .i64 (Int.ofNat (insF g p i (p - 1)))] := updG_other (by omega)
          have hs : ∀ z, z < i + 1 → updG (p - 1) [.int .i64 (Int.ofNat (insF g p i p))] (updG p [.int .i64 (Int.ofNat (insF g p i (p - 1)))] (nf (insF g p i))) z = nf (insF g (p - 1) i) z := fun z _ => insS (by omega) z
          have hpb2 : ∀ z, p - 1 ≤ z → z < i → rv i < rv (g z) := fun z h1 h2 => by
            by_cases e : z = p - 1
            · rw [e]; exact hlt9
            · exact hpb z (by omega) h2
          repeat' ((conv => whnf); first | refine eqS_rfl ?_ | refine eqA_rfl ?_ | refine eqA_of (by assumption) ?_ | refine eqS_of (by rfl) ?_ | refine eqL_rfl ?_ | refine eqJ_rfl ?_ | refine gE ?_ | refine seS_rfl ?_ | refine lsS_of hup ?_ | refine lsS_rfl ?_ | refine brS_tt ?_ | refine brS_ff ?_ | refine brS_not ?_ | refine gI ?_ | refine gT ?_ | refine gF ?_ | refine brS_intro (fun _ => ?_) (fun _ => ?_) | refine gL ?_ | refine gX ?_ | refine gO ?_ | refine gN ?_ | refine ixS_of eix (by omega) ?_ | intro _)
          conv => whnf
          exact ⟨p - 1 + 1, [(1, .sl 1001 ab nb cb), (2, .int .u8 (Int.ofNat kk)), (7, .sl 800 am T T), (8, .sl 820 ar T T), (9, .sl 821 a5 (i + 1) (i + 1)), (12, .int .i64 (Int.ofNat (p - 1))), (26, .sl 800 am T T), (27, .int .i64 (Int.ofNat T)), (28, .int .i64 (Int.ofNat i))], [(821, .gr a5 (i + 1) 3 1 (nf (insF g (p - 1) i))), (820, .gr ar T 3 1 (nf (re rv (i + 1)))), (800, .gr am T 63 2 (mf lo hi)), (1001, .ro ab nb eb 1 fun j => [.int .u8 (Int.ofNat (t j))])], (addL (100 * (p - 1) + (1000 * (T - (i + 1)) + (9000000 + R))) 250), 700, by omega, ⟨eqF_rfl _, eqF_rfl _, eqF_rfl _, eqF_rfl _, eqF_rfl _, ⟨congrArg (Value.int .i64) eix, rfl⟩, eqF_rfl _, eqF_rfl _, eqF_rfl _, trivial⟩, by exact WG, nM1, p - 1, a5, by omega, hpb2, rfl, rfl, rfl, rfl, rfl⟩
        | false =>
          have hge := le_of_iLt ct
          rw [hc1, hc2] at hge
          have hSn := hS.ins (p := p) hpi hpb (.inr hge)
          repeat' ((conv => whnf); first | refine eqS_rfl ?_ | refine eqA_rfl ?_ | refine eqA_of (by assumption) ?_ | refine eqS_of (by rfl) ?_ | refine eqL_rfl ?_ | refine eqJ_rfl ?_ | refine gE ?_ | refine seS_rfl ?_ | refine lsS_of hup ?_ | refine lsS_rfl ?_ | refine brS_tt ?_ | refine brS_ff ?_ | refine brS_not ?_ | refine gI ?_ | refine gT ?_ | refine gF ?_ | refine brS_intro (fun _ => ?_) (fun _ => ?_) | refine gL ?_ | refine gX ?_ | refine gO ?_ | refine gN ?_ | refine ixS_of eix (by omega) ?_ | intro _)
          conv => whnf
          exact ⟨T - (i + 1) + 1, [(1, .sl 1001 ab nb cb), (2, .int .u8 (Int.ofNat kk)), (7, .sl 800 am T T), (8, .sl 820 ar T T), (9, .sl 821 _ (i + 1) (i + 1)), (26, .sl 800 am T T), (27, .int .i64 (Int.ofNat T)), (28, .int .i64 (Int.ofNat (i + 1)))], [(821, .gr _ (i + 1) 3 1 (nf (insF g p i))), (820, .gr ar T 3 1 (nf (re rv (i + 1)))), (800, .gr am T 63 2 (mf lo hi)), (1001, .ro ab nb eb 1 fun j => [.int .u8 (Int.ofNat (t j))])], (addL (1000 * (T - (i + 1)) + (9000000 + R)) 200), 700, by omega, ⟨eqF_rfl _, eqF_rfl _, eqF_rfl _, eqF_rfl _, eqF_rfl _, eqF_rfl _, eqF_rfl _, ⟨congrArg (Value.int .i64) (smn (i := i + 1) (by omega)), rfl⟩, trivial⟩, by exact WG, nM1, i + 1, _, _, by omega, hSn, rfl, rfl, rfl, rfl, rfl⟩
    · have h2 := iLt_f (Nat.le_of_not_lt hnb)
      have eV : rv i = lo i := by rw [hrv]; unfold rvT; rw [if_neg hnb]
      have hr9 : ∀ z, z < T → updG i [.int .i64 (Int.ofNat (lo i))] (nf (re rv i)) z = nf (re rv (i + 1)) z := fun z _ => re1 eV z
      repeat' ((conv => whnf); first | refine eqS_rfl ?_ | refine eqA_rfl ?_ | refine eqA_of (by assumption) ?_ | refine eqS_of (by rfl) ?_ | refine eqL_rfl ?_ | refine eqJ_rfl ?_ | refine gE ?_ | refine seS_rfl ?_ | refine lsS_of hup ?_ | refine lsS_rfl ?_ | refine brS_tt ?_ | refine brS_ff ?_ | refine brS_not ?_ | refine gI ?_ | refine gT ?_ | refine gF ?_ | refine brS_intro (fun _ => ?_) (fun _ => ?_) | refine gL ?_ | refine gX ?_ | refine gO ?_ | refine gN ?_ | refine ltS_intro (show i * 1 + 1 < 32769 by omega) ?_ | intro _)
      conv => whnf
      refine loS_i (fun jj f mm R' ni => ∃ (p : Nat) (a5 : Option Addr), p ≤ i ∧ (∀ z, p ≤ z → z < i → rv i < rv (g z)) ∧ jj = p + 1 ∧ f = [(1, .sl 1001 ab nb cb), (2, .int .u8 (Int.ofNat kk)), (7, .sl 800 am T T), (8, .sl 820 ar T T), (9, .sl 821 a5 (i + 1) (i + 1)), (12, .int .i64 (Int.ofNat p)), (26, .sl 800 am T T), (27, .int .i64 (Int.ofNat T)), (28, .int .i64 (Int.ofNat i))] ∧ mm = [(821, .gr a5 (i + 1) 3 1 (nf (insF g p i))), (820, .gr ar T 3 1 (nf (re rv (i + 1)))), (800, .gr am T 63 2 (mf lo hi)), (1001, .ro ab nb eb 1 fun j => [.int .u8 (Int.ofNat (t j))])] ∧ R' = (addL (100 * p + (1000 * (T - (i + 1)) + (9000000 + R))) 250) ∧ ni = 700) (i + 1) (by omega)
        ⟨[(1, .sl 1001 ab nb cb), (2, .int .u8 (Int.ofNat kk)), (7, .sl 800 am T T), (8, .sl 820 ar T T), (9, .sl 821 _ (i + 1) (i + 1)), (12, .int .i64 (Int.ofNat i)), (26, .sl 800 am T T), (27, .int .i64 (Int.ofNat T)), (28, .int .i64 (Int.ofNat i))], [(821, .gr _ (i + 1) 3 1 (nf (insF g i i))), (820, .gr ar T 3 1 (nf (re rv (i + 1)))), (800, .gr am T 63 2 (mf lo hi)), (1001, .ro ab nb eb 1 fun j => [.int .u8 (Int.ofNat (t j))])], (addL (100 * i + (1000 * (T - (i + 1)) + (9000000 + R))) 250), 700, ⟨eqF_rfl _, eqF_rfl _, eqF_rfl _, eqF_rfl _, ⟨rfl, rfl⟩, ⟨congrArg (Value.int .i64) el9, rfl⟩, eqF_rfl _, eqF_rfl _, eqF_rfl _, trivial⟩, by exact WG, nM1, i, _, by omega, fun z h1 h2 => by omega, rfl, rfl, rfl, rfl, rfl⟩ ?_
      rintro _ _ _ _ _ ⟨p, a5, hpi, hpb, rfl, rfl, rfl, rfl, rfl⟩
      by_cases hp0 : p = 0
      · subst hp0
        have hpp : iLt 0 (Int.ofNat 0) = false := rfl
        have hSn := hS.ins (p := 0) (by omega) hpb (.inl rfl)
        repeat' ((conv => whnf); first | refine eqS_rfl ?_ | refine eqA_rfl ?_ | refine eqA_of (by assumption) ?_ | refine eqS_of (by rfl) ?_ | refine eqL_rfl ?_ | refine eqJ_rfl ?_ | refine gE ?_ | refine seS_rfl ?_ | refine lsS_of hup ?_ | refine lsS_rfl ?_ | refine brS_tt ?_ | refine brS_ff ?_ | refine brS_not ?_ | refine gI ?_ | refine gT ?_ | refine gF ?_ | refine brS_intro (fun _ => ?_) (fun _ => ?_) | refine gL ?_ | refine gX ?_ | refine gO ?_ | refine gN ?_ | intro _)
        conv => whnf
        exact ⟨T - (i + 1) + 1, [(1, .sl 1001 ab nb cb), (2, .int .u8 (Int.ofNat kk)), (7, .sl 800 am T T), (8, .sl 820 ar T T), (9, .sl 821 _ (i + 1) (i + 1)), (26, .sl 800 am T T), (27, .int .i64 (Int.ofNat T)), (28, .int .i64 (Int.ofNat (i + 1)))], [(821, .gr _ (i + 1) 3 1 (nf (insF g 0 i))), (820, .gr ar T 3 1 (nf (re rv (i + 1)))), (800, .gr am T 63 2 (mf lo hi)), (1001, .ro ab nb eb 1 fun j => [.int .u8 (Int.ofNat (t j))])], (addL (1000 * (T - (i + 1)) + (9000000 + R)) 200), 700, by omega, ⟨eqF_rfl _, eqF_rfl _, eqF_rfl _, eqF_rfl _, eqF_rfl _, eqF_rfl _, eqF_rfl _, ⟨congrArg (Value.int .i64) (smn (i := i + 1) (by omega)), rfl⟩, trivial⟩, by exact WG, nM1, i + 1, _, _, by omega, hSn, rfl, rfl, rfl, rfl, rfl⟩
      · have hpp : iLt 0 (Int.ofNat p) = true := iLt_t (a := 0) (b := p) (by omega)
        have eix : wr .i64 (Int.sub (Int.ofNat p) 1) = Int.ofNat (p - 1) := len1 (by omega) (by omega)
        have hpi1 : p < i + 1 := by omega
        have hgl := hS.lt (p - 1) (by omega)
        have hx1 : insF g p i p < T := by rw [insF_self]; exact hlt
        have hx2 : insF g p i (p - 1) < T := by rw [insF_lt (by omega)]; omega
        have hc1 : re rv (i + 1) (insF g p i p) = rv i := by rw [insF_self, re_lt (by omega)]
        have hc2 : re rv (i + 1) (insF g p i (p - 1)) = rv (g (p - 1)) := by rw [insF_lt (by omega), re_lt (by omega)]
        cases ct : iLt (Int.ofNat (re rv (i + 1) (insF g p i p))) (Int.ofNat (re rv (i + 1) (insF g p i (p - 1)))) with
        | true =>
          have hlt9 := lt_of_iLt ct
          rw [hc1, hc2] at hlt9
          have hup : updG p [.int .i64 (Int.ofNat (insF g p i (p - 1)))] (nf (insF g p i)) (p - 1) = [.int .i64 (Int.ofNat (insF g p i (p - 1)))] := updG_other (by omega)
          have hs : ∀ z, z < i + 1 → updG (p - 1) [.int .i64 (Int.ofNat (insF g p i p))] (updG p [.int .i64 (Int.ofNat (insF g p i (p - 1)))] (nf (insF g p i))) z = nf (insF g (p - 1) i) z := fun z _ => insS (by omega) z
          have hpb2 : ∀ z, p - 1 ≤ z → z < i → rv i < rv (g z) := fun z h1 h2 => by
            by_cases e : z = p - 1
            · rw [e]; exact hlt9
            · exact hpb z (by omega) h2
          repeat' ((conv => whnf); first | refine eqS_rfl ?_ | refine eqA_rfl ?_ | refine eqA_of (by assumption) ?_ | refine eqS_of (by rfl) ?_ | refine eqL_rfl ?_ | refine eqJ_rfl ?_ | refine gE ?_ | refine seS_rfl ?_ | refine lsS_of hup ?_ | refine lsS_rfl ?_ | refine brS_tt ?_ | refine brS_ff ?_ | refine brS_not ?_ | refine gI ?_ | refine gT ?_ | refine gF ?_ | refine brS_intro (fun _ => ?_) (fun _ => ?_) | refine gL ?_ | refine gX ?_ | refine gO ?_ | refine gN ?_ | refine ixS_of eix (by omega) ?_ | intro _)
          conv => whnf
          exact ⟨p - 1 + 1, [(1, .sl 1001 ab nb cb), (2, .int .u8 (Int.ofNat kk)), (7, .sl 800 am T T), (8, .sl 820 ar T T), (9, .sl 821 a5 (i + 1) (i + 1)), (12, .int .i64 (Int.ofNat (p - 1))), (26, .sl 800 am T T), (27, .int .i64 (Int.ofNat T)), (28, .int .i64 (Int.ofNat i))], [(821, .gr a5 (i + 1) 3 1 (nf (insF g (p - 1) i))), (820, .gr ar T 3 1 (nf (re rv (i + 1)))), (800, .gr am T 63 2 (mf lo hi)), (1001, .ro ab nb eb 1 fun j => [.int .u8 (Int.ofNat (t j))])], (addL (100 * (p - 1) + (1000 * (T - (i + 1)) + (9000000 + R))) 250), 700, by omega, ⟨eqF_rfl _, eqF_rfl _, eqF_rfl _, eqF_rfl _, eqF_rfl _, ⟨congrArg (Value.int .i64) eix, rfl⟩, eqF_rfl _, eqF_rfl _, eqF_rfl _, trivial⟩, by exact WG, nM1, p - 1, a5, by omega, hpb2, rfl, rfl, rfl, rfl, rfl⟩
        | false =>
          have hge := le_of_iLt ct
          rw [hc1, hc2] at hge
          have hSn := hS.ins (p := p) hpi hpb (.inr hge)
          repeat' ((conv => whnf); first | refine eqS_rfl ?_ | refine eqA_rfl ?_ | refine eqA_of (by assumption) ?_ | refine eqS_of (by rfl) ?_ | refine eqL_rfl ?_ | refine eqJ_rfl ?_ | refine gE ?_ | refine seS_rfl ?_ | refine lsS_of hup ?_ | refine lsS_rfl ?_ | refine brS_tt ?_ | refine brS_ff ?_ | refine brS_not ?_ | refine gI ?_ | refine gT ?_ | refine gF ?_ | refine brS_intro (fun _ => ?_) (fun _ => ?_) | refine gL ?_ | refine gX ?_ | refine gO ?_ | refine gN ?_ | refine ixS_of eix (by omega) ?_ | intro _)
          conv => whnf
          exact ⟨T - (i + 1) + 1, [(1, .sl 1001 ab nb cb), (2, .int .u8 (Int.ofNat kk)), (7, .sl 800 am T T), (8, .sl 820 ar T T), (9, .sl 821 _ (i + 1) (i + 1)), (26, .sl 800 am T T), (27, .int .i64 (Int.ofNat T)), (28, .int .i64 (Int.ofNat (i + 1)))], [(821, .gr _ (i + 1) 3 1 (nf (insF g p i))), (820, .gr ar T 3 1 (nf (re rv (i + 1)))), (800, .gr am T 63 2 (mf lo hi)), (1001, .ro ab nb eb 1 fun j => [.int .u8 (Int.ofNat (t j))])], (addL (1000 * (T - (i + 1)) + (9000000 + R)) 200), 700, by omega, ⟨eqF_rfl _, eqF_rfl _, eqF_rfl _, eqF_rfl _, eqF_rfl _, eqF_rfl _, eqF_rfl _, ⟨congrArg (Value.int .i64) (smn (i := i + 1) (by omega)), rfl⟩, trivial⟩, by exact WG, nM1, i + 1, _, _, by omega, hSn, rfl, rfl, rfl, rfl, rfl⟩
  · have e2 : T = i := by omega
    subst e2
    have h1 := iLt_f (Nat.le_refl T)
    have k19 := c19 F (d + 55) hF2 am T 0 T lo hi hT0 (by omega) v0 a1 0 T g hS.lt (fun i j hi hj => hS.inj i j hi hj) (hno g hS)
    repeat' ((conv => whnf); first | refine eqS_rfl ?_ | refine eqA_rfl ?_ | refine eqA_of (by assumption) ?_ | refine eqS_of (by rfl) ?_ | refine eqL_rfl ?_ | refine eqJ_rfl ?_ | refine gE ?_ | refine seS_rfl ?_ | refine lsS_of hup ?_ | refine lsS_rfl ?_ | refine brS_tt ?_ | refine brS_ff ?_ | refine brS_not ?_ | refine gI ?_ | refine gT ?_ | refine gF ?_ | refine brS_intro (fun _ => ?_) (fun _ => ?_) | refine gL ?_ | refine gX ?_ | refine gO ?_ | refine gN ?_ | refine callQR (k25 am) (addL (8000000 + R) 150) (by rfl) (by exact SeesM.cons 1000 (sees_gr (i := 800) (by rfl)) (SeesM.nil _) (fun _ _ _ _ _ _ x hx => by cases hx)) (nM1) ?_ | refine callQQ (k27 am) (addL (7000000 + R) 150) (by show [Value.slice _ _ _, Value.int _ _] = [Value.slice _ _ _, Value.int _ _]; rw [ek]) (by exact SeesM.cons 1000 (sees_gr (i := 800) (by rfl)) (SeesM.nil _) (fun _ _ _ _ _ _ x hx => by cases hx)) (nM1) ?_ | refine call_readL (k19) (addL (6000000 + R) 150) (by rfl) (by exact SeesM.cons 1000 (sees_gr (i := 800) (by rfl)) (SeesM.cons 1001 (sees_gr (i := 821) (by rfl)) (SeesM.nil _) (fun _ _ _ _ _ _ x hx => by cases hx)) (fun _ _ _ _ _ _ x hx => by rcases List.mem_singleton.1 hx with rfl; exact fun _ h => h)) (nM1) ?_ | intro _)
    rename_i a3 a4 a6
    conv => whnf
    refine loS_i (fun jj f mm R' ni => ∃ (p : Nat), p ≤ T ∧ jj = T - p + 1 ∧ f = [(13, .int .i64 (Int.ofNat k0)), (14, .sl 830 a3 T T), (16, .sl 840 a4 CA.length CA.length), (17, .sl 841 a6 CB.length CB.length), (143, .sl 821 a1 T T), (144, .int .i64 (Int.ofNat T)), (145, .int .i64 (Int.ofNat p))] ∧ mm = [(830, .gr a3 T 63 2 (mf rl rh)), (840, .gr a4 CA.length 3 1 (nf (oD CA))), (841, .gr a6 CB.length 3 1 (nf (oD CB))), (821, .gr a1 T 3 1 (nf g))] ∧ R' = (addL (5000 * (T - p) + (5000000 + R)) 200) ∧ ni = 750) (T + 1) (by omega)
      ⟨[(13, .int .i64 (Int.ofNat k0)), (14, .sl 830 a3 T T), (16, .sl 840 a4 CA.length CA.length), (17, .sl 841 a6 CB.length CB.length), (143, .sl 821 a1 T T), (144, .int .i64 (Int.ofNat T)), (145, .int .i64 (Int.ofNat 0))], [(830, .gr a3 T 63 2 (mf rl rh)), (840, .gr a4 CA.length 3 1 (nf (oD CA))), (841, .gr a6 CB.length 3 1 (nf (oD CB))), (821, .gr a1 T 3 1 (nf g))], (addL (5000 * (T - 0) + (5000000 + R)) 200), 750, ⟨⟨congrArg (Value.int .i64) ek, rfl⟩, ⟨rfl, rfl⟩, ⟨rfl, rfl⟩, ⟨rfl, rfl⟩, eqF_rfl _, eqF_rfl _, eqF_rfl _, trivial⟩, by exact WG, nM1, 0, by omega, by omega, rfl, rfl, rfl, rfl⟩ ?_
    rintro _ _ _ _ _ ⟨p, hp, rfl, rfl, rfl, rfl, rfl⟩
    by_cases hpT : p < T
    · have h2 := iLt_t hpT
      have hgp : g p < T := hS.lt p hpT
      have s1 : wr .i64 (Int.add (Int.ofNat p) 1) = Int.ofNat (p + 1) := smn (i := p + 1) (by omega)
      have x1 := hrl g p hS hpT
      have x2 := hrh g p hS hpT
      have d1 : iLt (wr .i64 (Int.add (Int.ofNat p) 1)) (Int.ofNat (rl (g p))) = false := by rw [s1]; exact iLt_f x1
      have d2 : iLt (Int.ofNat (rh (g p))) (wr .i64 (Int.add (Int.ofNat p) 1)) = false := by rw [s1]; exact iLt_f x2
      by_cases hk : p < k0
      · have d3 : iLt (Int.ofNat p) (Int.ofNat k0) = true := iLt_t hk
        obtain ⟨q, hq, e, hb⟩ := first_in (L := CA) (x := g p) ((hCA (g p)).2 ⟨hgp, by omega⟩)
        have k47 := c47t F (d + 58) hF2 a4 CA.length 0 CA.length (g p) CA rfl (by omega) q hq e hb
        repeat' ((conv => whnf); first | refine eqS_rfl ?_ | refine eqA_rfl ?_ | refine eqA_of (by assumption) ?_ | refine eqS_of (by rfl) ?_ | refine eqL_rfl ?_ | refine eqJ_rfl ?_ | refine gE ?_ | refine seS_rfl ?_ | refine lsS_of hup ?_ | refine lsS_rfl ?_ | refine brS_tt ?_ | refine brS_ff ?_ | refine brS_not ?_ | refine gI ?_ | refine gT ?_ | refine gF ?_ | refine brS_intro (fun _ => ?_) (fun _ => ?_) | refine gL ?_ | refine gX ?_ | refine gO ?_ | refine gN ?_ | refine call_readL (k47) (addL (5000 * (T - (p + 1)) + (5000000 + R)) 250) (by rfl) (by exact SeesM.cons 1001 (sees_gr (i := 840) (by rfl)) (SeesM.nil _) (fun _ _ _ _ _ _ x hx => by cases hx)) (nM1) ?_ | intro _)
        conv => whnf
        exact ⟨T - (p + 1) + 1, [(13, .int .i64 (Int.ofNat k0)), (14, .sl 830 a3 T T), (16, .sl 840 a4 CA.length CA.length), (17, .sl 841 a6 CB.length CB.length), (143, .sl 821 a1 T T), (144, .int .i64 (Int.ofNat T)), (145, .int .i64 (Int.ofNat (p + 1)))], [(830, .gr a3 T 63 2 (mf rl rh)), (840, .gr a4 CA.length 3 1 (nf (oD CA))), (841, .gr a6 CB.length 3 1 (nf (oD CB))), (821, .gr a1 T 3 1 (nf g))], (addL (5000 * (T - (p + 1)) + (5000000 + R)) 200), 750, by omega, ⟨eqF_rfl _, eqF_rfl _, eqF_rfl _, eqF_rfl _, eqF_rfl _, eqF_rfl _, ⟨congrArg (Value.int .i64) s1, rfl⟩, trivial⟩, by exact WG, nM1, p + 1, by omega, rfl, rfl, rfl, rfl, rfl⟩
      · have d3 : iLt (Int.ofNat p) (Int.ofNat k0) = false := iLt_f (Nat.le_of_not_lt hk)
        have k47 := c47f F (d + 58) hF2 a6 CB.length 0 CB.length (g p) CB rfl (by omega) (fun hm => by have := ((hCB (g p)).1 hm).2; omega)
        repeat' ((conv => whnf); first | refine eqS_rfl ?_ | refine eqA_rfl ?_ | refine eqA_of (by assumption) ?_ | refine eqS_of (by rfl) ?_ | refine eqL_rfl ?_ | refine eqJ_rfl ?_ | refine gE ?_ | refine seS_rfl ?_ | refine lsS_of hup ?_ | refine lsS_rfl ?_ | refine brS_tt ?_ | refine brS_ff ?_ | refine brS_not ?_ | refine gI ?_ | refine gT ?_ | refine gF ?_ | refine brS_intro (fun _ => ?_) (fun _ => ?_) | refine gL ?_ | refine gX ?_ | refine gO ?_ | refine gN ?_ | refine call_readL (k47) (addL (5000 * (T - (p + 1)) + (5000000 + R)) 250) (by rfl) (by exact SeesM.cons 1001 (sees_gr (i := 841) (by rfl)) (SeesM.nil _) (fun _ _ _ _ _ _ x hx => by cases hx)) (nM1) ?_ | intro _)
        conv => whnf
        exact ⟨T - (p + 1) + 1, [(13, .int .i64 (Int.ofNat k0)), (14, .sl 830 a3 T T), (16, .sl 840 a4 CA.length CA.length), (17, .sl 841 a6 CB.length CB.length), (143, .sl 821 a1 T T), (144, .int .i64 (Int.ofNat T)), (145, .int .i64 (Int.ofNat (p + 1)))], [(830, .gr a3 T 63 2 (mf rl rh)), (840, .gr a4 CA.length 3 1 (nf (oD CA))), (841, .gr a6 CB.length 3 1 (nf (oD CB))), (821, .gr a1 T 3 1 (nf g))], (addL (5000 * (T - (p + 1)) + (5000000 + R)) 200), 750, by omega, ⟨eqF_rfl _, eqF_rfl _, eqF_rfl _, eqF_rfl _, eqF_rfl _, eqF_rfl _, ⟨congrArg (Value.int .i64) s1, rfl⟩, trivial⟩, by exact WG, nM1, p + 1, by omega, rfl, rfl, rfl, rfl, rfl⟩
    · have e3 : T = p := by omega
      subst e3
      have h2 := iLt_f (Nat.le_refl T)
      repeat' ((conv => whnf); first | refine eqS_rfl ?_ | refine eqA_rfl ?_ | refine eqA_of (by assumption) ?_ | refine eqS_of (by rfl) ?_ | refine eqL_rfl ?_ | refine eqJ_rfl ?_ | refine gE ?_ | refine seS_rfl ?_ | refine lsS_of hup ?_ | refine lsS_rfl ?_ | refine brS_tt ?_ | refine brS_ff ?_ | refine brS_not ?_ | refine gI ?_ | refine gT ?_ | refine gF ?_ | refine brS_intro (fun _ => ?_) (fun _ => ?_) | refine gL ?_ | refine gX ?_ | refine gO ?_ | refine gN ?_ | refine call_w rfl ?_ | intro _)
      conv => whnf
      exact ⟨rfl, nM1⟩
end Go.Proofs.Ytefnljdfgjjpjaa
