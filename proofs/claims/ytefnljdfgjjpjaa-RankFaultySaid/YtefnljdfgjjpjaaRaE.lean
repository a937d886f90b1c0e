/- Rank: the law: orders by numbers, what can rise. -/
import Derived.Test.YtefnljdfgjjpjaaRaD
import Derived.KernelRfl
namespace Go.Proofs.Ytefnljdfgjjpjaa
open Go.Ab
attribute [local irreducible] aggOk drwOK
set_option maxRecDepth 100000
set_option maxHeartbeats 4000000
set_option linter.unusedVariables false
set_option linter.unusedSimpArgs false
theorem eqSl {i j n m : Nat} {a : Option Addr} (h : n = m) : eqF (.sl i a n n) (.sl j a m m) := by subst h; exact ⟨rfl, rfl⟩
theorem WkM.gr_cg2 {m' m : Mem} {i j n n2 e sz : Nat} {a : Option Addr} {f g : Nat → List SV} (hn : n = n2) (hc : ∀ j, j < n2 → f j = g j) (h : WkM m' ((i, .gr a n e sz f) :: m)) : WkM m' ((j, .gr a n2 e sz g) :: m) := by
  subst hn; exact WkM.gr_cg hc h
theorem WkM.own_gr0 {m' m : Mem} {i j b e sz : Nat} {f : Nat → List SV} (h : WkM m' ((i, .own b e []) :: m)) : WkM m' ((j, .gr (some ⟨b, 0, none⟩) 0 e sz f) :: m) :=
  h.trans (WkL.wk (WkM.keep (e := .own b e []) (e' := .gr (some ⟨b, 0, none⟩) 0 e sz f) ⟨rfl, rfl, (Nat.zero_mul _).symm, fun j hj => absurd hj (Nat.not_lt_zero _), rfl⟩ (WkL.refl m)))
theorem growT {n sz : Nat} {f g : Nat → List SV} {l : List SV} (hf : ∀ j, j < n → f j = g j) (hl : l.length = sz) (hv : g n = l) : ∀ j, j < n + 1 → grow n sz f l j = g j := fun j hj => by
  rw [← growE hl hv j hj]
  unfold grow
  by_cases h : j < n
  · rw [blt_of h, cond_true, cond_true]; exact hf j h
  · rw [show Nat.blt j n = false from bool_tf fun e => h (blt_true e), cond_false, cond_false]
/-- an order of its own -/
def QO (i n : Nat) (wv : SV) (mm : Mem) : Prop := ∃ o : Nat → Nat, (∀ j, j < n → o j < n) ∧ (∀ i j, i < n → j < n → o i = o j → i = j) ∧ QN i n o wv mm
theorem callQO {call : CallT} {g : FuncId} {args args0 : List SV} {m0 : Mem} {N i n : Nat} (h : ∀ R, callS call (.fn g [] []) args0 m0 (addL R N) 0 fun w m' R' _ => (∃ wv mm, QO i n wv mm ∧ den w = den wv ∧ WkM m' mm) ∧ R ≤ R') (R2 : Nat) {m : Mem} {R ni : Nat} {K : SV → Mem → Nat → Nat → Prop} (ha : dens args = dens args0) (hs : SeesM m m0) (hN : R2 + N ≤ R)
    (hK : ∀ a o, (∀ j, j < n → o j < n) → (∀ i j, i < n → j < n → o i = o j → i = j) → K (.sl i a n n) ((i, .gr a n 3 1 (nf o)) :: m) R2 ni) : callS call (.fn g [] []) args m R ni K :=
  call_freshL (QO i n) h (fun wv mm hq => by obtain ⟨_, _, _, a, _, rfl⟩ := hq; intro x hx; rw [List.mem_singleton.1 hx]; exact ⟨_, _, _, _, _, rfl⟩) R2 ha hs hN (fun wv mm hq => by obtain ⟨o, h1, h2, a, rfl, rfl⟩ := hq; exact hK a o h1 h2)
theorem erase_perm {L : List Nat} {i : Nat} (hi : i < L.length) : (L[i] :: L.eraseIdx i).Perm L := by
  rw [List.eraseIdx_eq_take_drop_succ]
  refine List.perm_middle.symm.trans ?_
  rw [List.getElem_cons_drop hi, List.take_append_drop]
theorem erase_getD {L : List Nat} {i z : Nat} : (L.eraseIdx i).getD z 0 = if z < i then L.getD z 0 else L.getD (z + 1) 0 := by
  rw [List.getD_eq_getElem?_getD, List.getElem?_eraseIdx]
  by_cases h : z < i
  · rw [if_pos h, if_pos h, List.getD_eq_getElem?_getD]
  · rw [if_neg h, if_neg h, List.getD_eq_getElem?_getD]
theorem app_getD {O : List Nat} {x : Nat} : (O ++ [x]).getD O.length 0 = x := by simp [List.getD_eq_getElem?_getD]
theorem app_getD_lt {O : List Nat} {x z : Nat} (h : z < O.length) : (O ++ [x]).getD z 0 = O.getD z 0 := by simp [List.getD_eq_getElem?_getD, List.getElem?_append_left h]
theorem c45 (F k q : Nat) (hF : 200 < F) (n : Nat) (hn : n ≤ 30) (ab : Option Addr) (nb eb cb : Nat) (t : Nat → Nat) (ht : ∀ j, t j < 256) (R : Nat) :
    callS (CL F (k + 1)) (.fn 45 [] []) [.int .i64 (Int.ofNat n), .sl 1001 ab nb cb] [(1001, .ro ab nb eb 1 fun j => [.int .u8 (Int.ofNat (t j))])] (addL R (10000 + 400)) 0 fun w m' R' _ => (∃ wv mm, QO q n wv mm ∧ den w = den wv ∧ WkM m' mm) ∧ R ≤ R' := by
  rw [show 10000 + 400 = (10000) + 400 from rfl, addL_eq, ← Nat.add_assoc, ← addL_eq _ 400, Nat.add_comm R (10000)]
  refine call_in (n := 54) Try.func45 rfl rfl rfl rfl rfl rfl rfl ?_
  repeat' ((conv => whnf); first | refine eqS_rfl ?_ | refine eqA_rfl ?_ | refine eqA_of (by assumption) ?_ | refine eqS_of (by rfl) ?_ | refine eqL_rfl ?_ | refine eqJ_rfl ?_ | refine gE ?_ | refine seS_rfl ?_ | refine lsS_of hup ?_ | refine lsS_rfl ?_ | refine brS_tt ?_ | refine brS_ff ?_ | refine brS_not ?_ | refine gI ?_ | refine gT ?_ | refine gF ?_ | refine brS_intro (fun _ => ?_) (fun _ => ?_) | refine gL ?_ | refine gX ?_ | refine gO ?_ | refine gN ?_ | intro _)
  conv => whnf
  refine loS_i (fun jj f mm R' ni => ∃ (j : Nat) (a1 : Option Addr), j ≤ n ∧ jj = n - j + 1 ∧ f = [(0, .int .i64 (Int.ofNat n)), (1, .sl 1001 ab nb cb), (5, .sl 600 a1 j j), (6, .val (.slice none 0 0)), (7, .int .i64 (Int.ofNat j))] ∧ mm = [(600, .gr a1 j 3 1 (nf fun z => z)), (1001, .ro ab nb eb 1 fun j => [.int .u8 (Int.ofNat (t j))])] ∧ R' = (addL (20 * (n - j) + (200 * n + R)) 300) ∧ ni = 700) (n + 1) (by omega)
    ⟨[(0, .int .i64 (Int.ofNat n)), (1, .sl 1001 ab nb cb), (5, .sl 600 none 0 0), (6, .val (.slice none 0 0)), (7, .int .i64 (Int.ofNat 0))], [(600, .gr none 0 3 1 (nf fun z => z)), (1001, .ro ab nb eb 1 fun j => [.int .u8 (Int.ofNat (t j))])], (addL (20 * (n - 0) + (200 * n + R)) 300), 700, ⟨eqF_rfl _, eqF_rfl _, ⟨rfl, rfl⟩, eqF_rfl _, eqF_rfl _, trivial⟩, by exact (WkM.gr0 (WkM.refl _)).trans WG, nM1, 0, none, by omega, by omega, rfl, rfl, rfl, rfl⟩ ?_
  rintro _ _ _ _ _ ⟨j, a1, hj, rfl, rfl, rfl, rfl, rfl⟩
  by_cases hlt : j < n
  · have h1 := iLt_t hlt
    have hg := growE (n := j) (sz := 1) (f := nf fun z => z) (l := [.int .i64 (Int.ofNat j)]) rfl rfl
    repeat' ((conv => whnf); first | refine eqS_rfl ?_ | refine eqA_rfl ?_ | refine eqA_of (by assumption) ?_ | refine eqS_of (by rfl) ?_ | refine eqL_rfl ?_ | refine eqJ_rfl ?_ | refine gE ?_ | refine seS_rfl ?_ | refine lsS_of hup ?_ | refine lsS_rfl ?_ | refine brS_tt ?_ | refine brS_ff ?_ | refine brS_not ?_ | refine gI ?_ | refine gT ?_ | refine gF ?_ | refine brS_intro (fun _ => ?_) (fun _ => ?_) | refine gL ?_ | refine gX ?_ | refine gO ?_ | refine gN ?_ | refine ltS_intro (show j * 1 + 1 < 32769 by omega) ?_ | intro _)
    rename_i a9
    conv => whnf
    exact ⟨n - (j + 1) + 1, [(0, .int .i64 (Int.ofNat n)), (1, .sl 1001 ab nb cb), (5, .sl 600 a9 (j + 1) (j + 1)), (6, .val (.slice none 0 0)), (7, .int .i64 (Int.ofNat (j + 1)))], [(600, .gr a9 (j + 1) 3 1 (nf fun z => z)), (1001, .ro ab nb eb 1 fun j => [.int .u8 (Int.ofNat (t j))])], (addL (20 * (n - (j + 1)) + (200 * n + R)) 300), 700, by omega, ⟨eqF_rfl _, eqF_rfl _, ⟨rfl, rfl⟩, eqF_rfl _, ⟨congrArg (Value.int .i64) (smn (i := j + 1) (by omega)), rfl⟩, trivial⟩, WG, nM1, j + 1, _, by omega, rfl, rfl, rfl, rfl, rfl⟩
  · have e2 : n = j := by omega
    subst e2
    have h1 := iLt_f (Nat.le_refl n)
    repeat' ((conv => whnf); first | refine eqS_rfl ?_ | refine eqA_rfl ?_ | refine eqA_of (by assumption) ?_ | refine eqS_of (by rfl) ?_ | refine eqL_rfl ?_ | refine eqJ_rfl ?_ | refine gE ?_ | refine seS_rfl ?_ | refine lsS_of hup ?_ | refine lsS_rfl ?_ | refine brS_tt ?_ | refine brS_ff ?_ | refine brS_not ?_ | refine gI ?_ | refine gT ?_ | refine gF ?_ | refine brS_intro (fun _ => ?_) (fun _ => ?_) | refine gL ?_ | refine gX ?_ | refine gO ?_ | refine gN ?_ | intro _)
    conv => whnf
    have hr0 : (List.range n).length = n := List.length_range
    have hrg : ∀ z, z < n → (List.range n).getD z 0 = z := fun z hz => by simp [List.getD_eq_getElem?_getD, List.getElem?_range hz]
    have hr1 : ([] ++ List.range n).Nodup := List.nodup_range
    have hr2 : ∀ x, x ∈ [] ++ List.range n → x < n := fun x hx => List.mem_range.1 hx
    generalize List.range n = L0 at hr0 hrg hr1 hr2
    have w0 : WkM [(600, .gr a1 n 3 1 (nf fun z => z)), (1001, .ro ab nb eb 1 fun j => [.int .u8 (Int.ofNat (t j))])] [(600, .gr a1 n 3 1 (nf fun z => z)), (601, .gr none 0 3 1 (nf fun z => ([] : List Nat).getD z 0)), (1001, .ro ab nb eb 1 fun j => [.int .u8 (Int.ofNat (t j))])] := (WkM.gr0 (WkM.refl _)).trans WS
    refine loS_i (fun jj f mm R' ni => ∃ (L O : List Nat) (nL nO : Nat) (a1 a2 : Option Addr), (O ++ L).Nodup ∧ (∀ x, x ∈ O ++ L → x < n) ∧ L.length = nL ∧ O.length = nO ∧ nO + nL = n ∧ jj = nL + 1 ∧ f = [(1, .sl 1001 ab nb cb), (5, .sl 600 a1 nL nL), (6, .sl 601 a2 nO nO), (8, .int .i64 (Int.ofNat nO))] ∧ mm = [(600, .gr a1 nL 3 1 (nf fun z => L.getD z 0)), (601, .gr a2 nO 3 1 (nf fun z => O.getD z 0)), (1001, .ro ab nb eb 1 fun j => [.int .u8 (Int.ofNat (t j))])] ∧ R' = (addL (100 * (n - nO) + R) 200) ∧ ni = 900) (n + 1) (by omega)
      ⟨[(1, .sl 1001 ab nb cb), (5, .sl 600 a1 n n), (6, .sl 601 none 0 0), (8, .int .i64 (Int.ofNat 0))], [(600, .gr a1 n 3 1 (nf fun z => L0.getD z 0)), (601, .gr none 0 3 1 (nf fun z => ([] : List Nat).getD z 0)), (1001, .ro ab nb eb 1 fun j => [.int .u8 (Int.ofNat (t j))])], (addL (100 * (n - 0) + R) 200), 900, ⟨eqF_rfl _, eqF_rfl _, ⟨rfl, rfl⟩, eqF_rfl _, trivial⟩, by exact WkM.gr_cg2 (i := 600) rfl (fun z hz => by show [SV.int .i64 (Int.ofNat z)] = [SV.int .i64 (Int.ofNat (L0.getD z 0))]; rw [hrg z (by omega)]) w0, nM1, L0, [], n, 0, a1, none, hr1, hr2, hr0, rfl, by omega, rfl, rfl, rfl, rfl, rfl⟩ ?_
    rintro _ _ _ _ _ ⟨L, O, nL, nO, b1, b2, hnd, hltn, hnL, hnO, hlen, rfl, rfl, rfl, rfl, rfl⟩
    by_cases hL : 0 < nL
    · have g1 : iLt 0 (Int.ofNat nL) = true := iLt_t (a := 0) hL
      have hk2 : wr .i64 (Int.add (Int.ofNat nO) 1) = Int.ofNat (nO + 1) := smn (i := nO + 1) (by omega)
      have key : ∀ i, i < nL → (O ++ [L.getD i 0] ++ L.eraseIdx i).Nodup ∧ (∀ x, x ∈ O ++ [L.getD i 0] ++ L.eraseIdx i → x < n) ∧ (L.eraseIdx i).length = nL - 1 ∧ (O ++ [L.getD i 0]).length = nO + 1 ∧ (∀ z, z < nO + 1 → grow nO 1 (nf fun z => O.getD z 0) [.int .i64 (Int.ofNat (L.getD i 0))] z = nf (fun z => (O ++ [L.getD i 0]).getD z 0) z) := fun i hi => by
        subst hnL hnO
        have hO2 : (O ++ [L.getD i 0]).length = O.length + 1 := by simp
        have hE1 : (L.eraseIdx i).length = L.length - 1 := List.length_eraseIdx_of_lt hi
        have hp : (O ++ [L.getD i 0] ++ L.eraseIdx i).Perm (O ++ L) := by
          rw [List.append_assoc]
          refine List.Perm.append_left O ?_
          rw [List.getD_eq_getElem?_getD, List.getElem?_eq_getElem hi]
          exact erase_perm hi
        exact ⟨hp.nodup_iff.2 hnd, fun x hx => hltn x (hp.mem_iff.1 hx), hE1, hO2, fun z hz => growT (n := O.length) (sz := 1) (f := nf fun z => O.getD z 0) (g := nf fun z => (O ++ [L.getD i 0]).getD z 0) (l := [.int .i64 (Int.ofNat (L.getD i 0))]) (fun q hq => by show [SV.int .i64 (Int.ofNat (O.getD q 0))] = [SV.int .i64 (Int.ofNat ((O ++ [L.getD i 0]).getD q 0))]; rw [app_getD_lt hq]) rfl (by show [SV.int .i64 (Int.ofNat ((O ++ [L.getD i 0]).getD O.length 0))] = _; rw [app_getD]) z hz⟩
      by_cases hk : nO < nb
      · have d1 := iLt_t hk
        have hz0 : Int.ofNat nL ≠ 0 := by show (nL : Int) ≠ 0; omega
        obtain ⟨i, hi, e9⟩ : ∃ i, i < nL ∧ Int.tmod (wr .i64 (Int.ofNat (t nO))) (Int.ofNat nL) = Int.ofNat i := ⟨t nO % nL, Nat.mod_lt _ hL, by rw [smn (by have := ht nO; omega)]; rfl⟩
        have e10 : wr .i64 (Int.add (Int.tmod (wr .i64 (Int.ofNat (t nO))) (Int.ofNat nL)) 1) = Int.ofNat (i + 1) := by rw [e9]; exact smn (i := i + 1) (by omega)
        obtain ⟨hnd2, hlt2, hE1, hO2, hgO⟩ := key i hi
        have hEg : ∀ z, (L.eraseIdx i).getD z 0 = if z < i then L.getD z 0 else L.getD (z + 1) 0 := fun z => erase_getD
        by_cases hL1 : nL = 1
        · have hz1 : nL - 1 = 0 := by omega
          repeat' ((conv => whnf); first | refine eqS_rfl ?_ | refine eqA_rfl ?_ | refine eqA_of (by assumption) ?_ | refine eqS_of (by rfl) ?_ | refine eqL_rfl ?_ | refine eqJ_rfl ?_ | refine gE ?_ | refine seS_rfl ?_ | refine lsS_of hup ?_ | refine lsS_rfl ?_ | refine brS_tt ?_ | refine brS_ff ?_ | refine brS_not ?_ | refine gI ?_ | refine gT ?_ | refine gF ?_ | refine brS_intro (fun _ => ?_) (fun _ => ?_) | refine gL ?_ | refine gX ?_ | refine gO ?_ | refine gN ?_ | refine ltS_2 (by kernel_rfl) oM1 ?_ | refine ltS_1 (by kernel_rfl) oM1 ?_ | refine seS_sb (by assumption) (by assumption) ?_ | refine ixS_of e10 (by omega) ?_ | refine ixS_of e9 (by omega) ?_ | refine ixS_of e9 oM1 ?_ | refine ixS_of e10 oM1 ?_ | refine ltS_intro oM1 ?_ | refine emS_z oM1 ?_ | refine emS_p oM1 ?_ | refine orS_l (by constructor <;> (first | omega | (simp only [Nat.add_eq, Nat.sub_eq, Nat.mul_eq, Nat.succ_eq_add_one]; omega))) ?_ | refine orS_l oM1 ?_ | refine orS_r oM1 ?_ | refine gE ?_ | refine ltS_intro (show nO * 1 + 1 < 32769 by omega) ?_ | intro _)
          conv => whnf
          exact ⟨0 + 1, [(1, .sl 1001 ab nb cb), (5, .sl 600 _ 0 0), (6, .sl 601 _ (nO + 1) (nO + 1)), (8, .int .i64 (Int.ofNat (nO + 1)))], [(600, .gr _ 0 3 1 (nf fun z => (L.eraseIdx i).getD z 0)), (601, .gr _ (nO + 1) 3 1 (nf fun z => (O ++ [L.getD i 0]).getD z 0)), (1001, .ro ab nb eb 1 fun j => [.int .u8 (Int.ofNat (t j))])], (addL (100 * (n - (nO + 1)) + R) 200), 900, by omega, ⟨eqF_rfl _, ⟨rfl, rfl⟩, ⟨rfl, rfl⟩, ⟨congrArg (Value.int .i64) hk2, rfl⟩, trivial⟩, by exact WkM.own_gr0 (i := 0) WG, nM1, L.eraseIdx i, O ++ [L.getD i 0], 0, nO + 1, _, _, hnd2, hlt2, (hE1.trans hz1), hO2, by omega, rfl, rfl, rfl, rfl, rfl⟩
        by_cases h0 : i = 0
        · have hc : ∀ z, z < Nat.sub nL (i + 1) → nf (fun j => L.getD j 0) (Nat.add (i + 1) z) = nf (fun j => (L.eraseIdx i).getD j 0) z := fun z hz => by
            show [SV.int .i64 (Int.ofNat (L.getD (Nat.add (i + 1) z) 0))] = [SV.int .i64 (Int.ofNat ((L.eraseIdx i).getD z 0))]
            rw [hEg, if_neg (by omega), show Nat.add (i + 1) z = z + 1 by show i + 1 + z = z + 1; omega]
          have hl : Nat.sub nL (i + 1) = nL - 1 := by show nL - (i + 1) = _; omega
          repeat' ((conv => whnf); first | refine eqS_rfl ?_ | refine eqA_rfl ?_ | refine eqA_of (by assumption) ?_ | refine eqS_of (by rfl) ?_ | refine eqL_rfl ?_ | refine eqJ_rfl ?_ | refine gE ?_ | refine seS_rfl ?_ | refine lsS_of hup ?_ | refine lsS_rfl ?_ | refine brS_tt ?_ | refine brS_ff ?_ | refine brS_not ?_ | refine gI ?_ | refine gT ?_ | refine gF ?_ | refine brS_intro (fun _ => ?_) (fun _ => ?_) | refine gL ?_ | refine gX ?_ | refine gO ?_ | refine gN ?_ | refine ltS_2 (by kernel_rfl) oM1 ?_ | refine ltS_1 (by kernel_rfl) oM1 ?_ | refine seS_sb (by assumption) (by assumption) ?_ | refine ixS_of e10 (by omega) ?_ | refine ixS_of e9 (by omega) ?_ | refine ixS_of e9 oM1 ?_ | refine ixS_of e10 oM1 ?_ | refine ltS_intro oM1 ?_ | refine emS_z oM1 ?_ | refine emS_p oM1 ?_ | refine orS_l (by constructor <;> (first | omega | (simp only [Nat.add_eq, Nat.sub_eq, Nat.mul_eq, Nat.succ_eq_add_one]; omega))) ?_ | refine orS_l oM1 ?_ | refine orS_r oM1 ?_ | refine gE ?_ | refine ltS_intro (show nO * 1 + 1 < 32769 by omega) ?_ | intro _)
          conv => whnf
          exact ⟨(nL - 1) + 1, [(1, .sl 1001 ab nb cb), (5, .sl 600 _ (nL - 1) (nL - 1)), (6, .sl 601 _ (nO + 1) (nO + 1)), (8, .int .i64 (Int.ofNat (nO + 1)))], [(600, .gr _ (nL - 1) 3 1 (nf fun z => (L.eraseIdx i).getD z 0)), (601, .gr _ (nO + 1) 3 1 (nf fun z => (O ++ [L.getD i 0]).getD z 0)), (1001, .ro ab nb eb 1 fun j => [.int .u8 (Int.ofNat (t j))])], (addL (100 * (n - (nO + 1)) + R) 200), 900, by omega, ⟨eqF_rfl _, eqSl hl, ⟨rfl, rfl⟩, ⟨congrArg (Value.int .i64) hk2, rfl⟩, trivial⟩, by exact WkM.gr_cg2 (i := 0) hl (fun _ _ => rfl) WG, nM1, L.eraseIdx i, O ++ [L.getD i 0], nL - 1, nO + 1, _, _, hnd2, hlt2, hE1, hO2, by omega, rfl, rfl, rfl, rfl, rfl⟩
        by_cases h3 : i = nL - 1
        · have hc : ∀ z, z < i → nf (fun j => L.getD j 0) z = nf (fun j => (L.eraseIdx i).getD j 0) z := fun z hz => by
            show [SV.int .i64 (Int.ofNat (L.getD z 0))] = [SV.int .i64 (Int.ofNat ((L.eraseIdx i).getD z 0))]
            rw [hEg, if_pos (by omega)]
          repeat' ((conv => whnf); first | refine eqS_rfl ?_ | refine eqA_rfl ?_ | refine eqA_of (by assumption) ?_ | refine eqS_of (by rfl) ?_ | refine eqL_rfl ?_ | refine eqJ_rfl ?_ | refine gE ?_ | refine seS_rfl ?_ | refine lsS_of hup ?_ | refine lsS_rfl ?_ | refine brS_tt ?_ | refine brS_ff ?_ | refine brS_not ?_ | refine gI ?_ | refine gT ?_ | refine gF ?_ | refine brS_intro (fun _ => ?_) (fun _ => ?_) | refine gL ?_ | refine gX ?_ | refine gO ?_ | refine gN ?_ | refine ltS_2 (by kernel_rfl) oM1 ?_ | refine ltS_1 (by kernel_rfl) oM1 ?_ | refine seS_sb (by assumption) (by assumption) ?_ | refine ixS_of e10 (by omega) ?_ | refine ixS_of e9 (by omega) ?_ | refine ixS_of e9 oM1 ?_ | refine ixS_of e10 oM1 ?_ | refine ltS_intro oM1 ?_ | refine emS_z oM1 ?_ | refine emS_p oM1 ?_ | refine orS_l (by constructor <;> (first | omega | (simp only [Nat.add_eq, Nat.sub_eq, Nat.mul_eq, Nat.succ_eq_add_one]; omega))) ?_ | refine orS_l oM1 ?_ | refine orS_r oM1 ?_ | refine gE ?_ | refine ltS_intro (show nO * 1 + 1 < 32769 by omega) ?_ | intro _)
          conv => whnf
          exact ⟨(nL - 1) + 1, [(1, .sl 1001 ab nb cb), (5, .sl 600 _ (nL - 1) (nL - 1)), (6, .sl 601 _ (nO + 1) (nO + 1)), (8, .int .i64 (Int.ofNat (nO + 1)))], [(600, .gr _ (nL - 1) 3 1 (nf fun z => (L.eraseIdx i).getD z 0)), (601, .gr _ (nO + 1) 3 1 (nf fun z => (O ++ [L.getD i 0]).getD z 0)), (1001, .ro ab nb eb 1 fun j => [.int .u8 (Int.ofNat (t j))])], (addL (100 * (n - (nO + 1)) + R) 200), 900, by omega, ⟨eqF_rfl _, eqSl h3, ⟨rfl, rfl⟩, ⟨congrArg (Value.int .i64) hk2, rfl⟩, trivial⟩, by exact WkM.gr_cg2 (i := 0) h3 (fun _ _ => rfl) WG, nM1, L.eraseIdx i, O ++ [L.getD i 0], nL - 1, nO + 1, _, _, hnd2, hlt2, hE1, hO2, by omega, rfl, rfl, rfl, rfl, rfl⟩
        · have hc : ∀ z, z < Nat.add i (Nat.sub nL (i + 1)) → growF i (nf fun j => L.getD j 0) (fun j => nf (fun j => L.getD j 0) (Nat.add (i + 1) j)) z = nf (fun j => (L.eraseIdx i).getD j 0) z := fun z hz => by
            unfold growF
            by_cases hzi : z < i
            · rw [blt_of hzi, cond_true]; show [SV.int .i64 (Int.ofNat (L.getD z 0))] = [SV.int .i64 (Int.ofNat ((L.eraseIdx i).getD z 0))]; rw [hEg, if_pos hzi]
            · have hb : Nat.blt z i = false := bool_tf fun h => hzi (blt_true h)
              rw [hb, cond_false]; show [SV.int .i64 (Int.ofNat (L.getD (Nat.add (i + 1) (Nat.sub z i)) 0))] = [SV.int .i64 (Int.ofNat ((L.eraseIdx i).getD z 0))]; rw [hEg, if_neg hzi, show Nat.add (i + 1) (Nat.sub z i) = z + 1 by show i + 1 + (z - i) = z + 1; omega]
          have hl : Nat.add i (Nat.sub nL (i + 1)) = nL - 1 := by show i + (nL - (i + 1)) = _; omega
          repeat' ((conv => whnf); first | refine eqS_rfl ?_ | refine eqA_rfl ?_ | refine eqA_of (by assumption) ?_ | refine eqS_of (by rfl) ?_ | refine eqL_rfl ?_ | refine eqJ_rfl ?_ | refine gE ?_ | refine seS_rfl ?_ | refine lsS_of hup ?_ | refine lsS_rfl ?_ | refine brS_tt ?_ | refine brS_ff ?_ | refine brS_not ?_ | refine gI ?_ | refine gT ?_ | refine gF ?_ | refine brS_intro (fun _ => ?_) (fun _ => ?_) | refine gL ?_ | refine gX ?_ | refine gO ?_ | refine gN ?_ | refine ltS_2 (by kernel_rfl) oM1 ?_ | refine ltS_1 (by kernel_rfl) oM1 ?_ | refine seS_sb (by assumption) (by assumption) ?_ | refine ixS_of e10 (by omega) ?_ | refine ixS_of e9 (by omega) ?_ | refine ixS_of e9 oM1 ?_ | refine ixS_of e10 oM1 ?_ | refine ltS_intro oM1 ?_ | refine emS_z oM1 ?_ | refine emS_p oM1 ?_ | refine orS_l (by constructor <;> (first | omega | (simp only [Nat.add_eq, Nat.sub_eq, Nat.mul_eq, Nat.succ_eq_add_one]; omega))) ?_ | refine orS_l oM1 ?_ | refine orS_r oM1 ?_ | refine gE ?_ | refine ltS_intro (show nO * 1 + 1 < 32769 by omega) ?_ | intro _)
          conv => whnf
          exact ⟨(nL - 1) + 1, [(1, .sl 1001 ab nb cb), (5, .sl 600 _ (nL - 1) (nL - 1)), (6, .sl 601 _ (nO + 1) (nO + 1)), (8, .int .i64 (Int.ofNat (nO + 1)))], [(600, .gr _ (nL - 1) 3 1 (nf fun z => (L.eraseIdx i).getD z 0)), (601, .gr _ (nO + 1) 3 1 (nf fun z => (O ++ [L.getD i 0]).getD z 0)), (1001, .ro ab nb eb 1 fun j => [.int .u8 (Int.ofNat (t j))])], (addL (100 * (n - (nO + 1)) + R) 200), 900, by omega, ⟨eqF_rfl _, eqSl hl, ⟨rfl, rfl⟩, ⟨congrArg (Value.int .i64) hk2, rfl⟩, trivial⟩, by exact WkM.gr_cg2 (i := 0) hl (fun _ _ => rfl) WG, nM1, L.eraseIdx i, O ++ [L.getD i 0], nL - 1, nO + 1, _, _, hnd2, hlt2, hE1, hO2, by omega, rfl, rfl, rfl, rfl, rfl⟩
      · have d1 := iLt_f (Nat.not_lt.1 hk)
        have e9 : (0 : Int) = Int.ofNat 0 := rfl
        have e10 : wr .i64 (Int.add 0 1) = Int.ofNat (0 + 1) := rfl
        obtain ⟨hnd2, hlt2, hE1, hO2, hgO⟩ := key 0 hL
        have hi := hL
        have hEg : ∀ z, (L.eraseIdx 0).getD z 0 = if z < 0 then L.getD z 0 else L.getD (z + 1) 0 := fun z => erase_getD
        by_cases hL1 : nL = 1
        · have hz1 : nL - 1 = 0 := by omega
          repeat' ((conv => whnf); first | refine eqS_rfl ?_ | refine eqA_rfl ?_ | refine eqA_of (by assumption) ?_ | refine eqS_of (by rfl) ?_ | refine eqL_rfl ?_ | refine eqJ_rfl ?_ | refine gE ?_ | refine seS_rfl ?_ | refine lsS_of hup ?_ | refine lsS_rfl ?_ | refine brS_tt ?_ | refine brS_ff ?_ | refine brS_not ?_ | refine gI ?_ | refine gT ?_ | refine gF ?_ | refine brS_intro (fun _ => ?_) (fun _ => ?_) | refine gL ?_ | refine gX ?_ | refine gO ?_ | refine gN ?_ | refine ltS_2 (by kernel_rfl) oM1 ?_ | refine ltS_1 (by kernel_rfl) oM1 ?_ | refine seS_sb (by assumption) (by assumption) ?_ | refine ixS_of e10 (by omega) ?_ | refine ixS_of e9 (by omega) ?_ | refine ixS_of e9 oM1 ?_ | refine ixS_of e10 oM1 ?_ | refine ltS_intro oM1 ?_ | refine emS_z oM1 ?_ | refine emS_p oM1 ?_ | refine orS_l (by constructor <;> (first | omega | (simp only [Nat.add_eq, Nat.sub_eq, Nat.mul_eq, Nat.succ_eq_add_one]; omega))) ?_ | refine orS_l oM1 ?_ | refine orS_r oM1 ?_ | refine gE ?_ | refine ltS_intro (show nO * 1 + 1 < 32769 by omega) ?_ | intro _)
          conv => whnf
          exact ⟨0 + 1, [(1, .sl 1001 ab nb cb), (5, .sl 600 _ 0 0), (6, .sl 601 _ (nO + 1) (nO + 1)), (8, .int .i64 (Int.ofNat (nO + 1)))], [(600, .gr _ 0 3 1 (nf fun z => (L.eraseIdx 0).getD z 0)), (601, .gr _ (nO + 1) 3 1 (nf fun z => (O ++ [L.getD 0 0]).getD z 0)), (1001, .ro ab nb eb 1 fun j => [.int .u8 (Int.ofNat (t j))])], (addL (100 * (n - (nO + 1)) + R) 200), 900, by omega, ⟨eqF_rfl _, ⟨rfl, rfl⟩, ⟨rfl, rfl⟩, ⟨congrArg (Value.int .i64) hk2, rfl⟩, trivial⟩, by exact WkM.own_gr0 (i := 0) WG, nM1, L.eraseIdx 0, O ++ [L.getD 0 0], 0, nO + 1, _, _, hnd2, hlt2, (hE1.trans hz1), hO2, by omega, rfl, rfl, rfl, rfl, rfl⟩
        by_cases h0 : 0 = 0
        · have hc : ∀ z, z < Nat.sub nL (0 + 1) → nf (fun j => L.getD j 0) (Nat.add (0 + 1) z) = nf (fun j => (L.eraseIdx 0).getD j 0) z := fun z hz => by
            show [SV.int .i64 (Int.ofNat (L.getD (Nat.add (0 + 1) z) 0))] = [SV.int .i64 (Int.ofNat ((L.eraseIdx 0).getD z 0))]
            rw [hEg, if_neg (by omega), show Nat.add (0 + 1) z = z + 1 by show 0 + 1 + z = z + 1; omega]
          have hl : Nat.sub nL (0 + 1) = nL - 1 := by show nL - (0 + 1) = _; omega
          repeat' ((conv => whnf); first | refine eqS_rfl ?_ | refine eqA_rfl ?_ | refine eqA_of (by assumption) ?_ | refine eqS_of (by rfl) ?_ | refine eqL_rfl ?_ | refine eqJ_rfl ?_ | refine gE ?_ | refine seS_rfl ?_ | refine lsS_of hup ?_ | refine lsS_rfl ?_ | refine brS_tt ?_ | refine brS_ff ?_ | refine brS_not ?_ | refine gI ?_ | refine gT ?_ | refine gF ?_ | refine brS_intro (fun _ => ?_) (fun _ => ?_) | refine gL ?_ | refine gX ?_ | refine gO ?_ | refine gN ?_ | refine ltS_2 (by kernel_rfl) oM1 ?_ | refine ltS_1 (by kernel_rfl) oM1 ?_ | refine seS_sb (by assumption) (by assumption) ?_ | refine ixS_of e10 (by omega) ?_ | refine ixS_of e9 (by omega) ?_ | refine ixS_of e9 oM1 ?_ | refine ixS_of e10 oM1 ?_ | refine ltS_intro oM1 ?_ | refine emS_z oM1 ?_ | refine emS_p oM1 ?_ | refine orS_l (by constructor <;> (first | omega | (simp only [Nat.add_eq, Nat.sub_eq, Nat.mul_eq, Nat.succ_eq_add_one]; omega))) ?_ | refine orS_l oM1 ?_ | refine orS_r oM1 ?_ | refine gE ?_ | refine ltS_intro (show nO * 1 + 1 < 32769 by omega) ?_ | intro _)
          conv => whnf
          exact ⟨(nL - 1) + 1, [(1, .sl 1001 ab nb cb), (5, .sl 600 _ (nL - 1) (nL - 1)), (6, .sl 601 _ (nO + 1) (nO + 1)), (8, .int .i64 (Int.ofNat (nO + 1)))], [(600, .gr _ (nL - 1) 3 1 (nf fun z => (L.eraseIdx 0).getD z 0)), (601, .gr _ (nO + 1) 3 1 (nf fun z => (O ++ [L.getD 0 0]).getD z 0)), (1001, .ro ab nb eb 1 fun j => [.int .u8 (Int.ofNat (t j))])], (addL (100 * (n - (nO + 1)) + R) 200), 900, by omega, ⟨eqF_rfl _, eqSl hl, ⟨rfl, rfl⟩, ⟨congrArg (Value.int .i64) hk2, rfl⟩, trivial⟩, by exact WkM.gr_cg2 (i := 0) hl (fun _ _ => rfl) WG, nM1, L.eraseIdx 0, O ++ [L.getD 0 0], nL - 1, nO + 1, _, _, hnd2, hlt2, hE1, hO2, by omega, rfl, rfl, rfl, rfl, rfl⟩
        exact absurd rfl h0
    · have e2 : nL = 0 := by omega
      subst e2
      have e3 : L = [] := List.eq_nil_of_length_eq_zero hnL
      subst e3
      have g1 : iLt 0 (Int.ofNat 0) = false := rfl
      repeat' ((conv => whnf); first | refine eqS_rfl ?_ | refine eqA_rfl ?_ | refine eqA_of (by assumption) ?_ | refine eqS_of (by rfl) ?_ | refine eqL_rfl ?_ | refine eqJ_rfl ?_ | refine gE ?_ | refine seS_rfl ?_ | refine lsS_of hup ?_ | refine lsS_rfl ?_ | refine brS_tt ?_ | refine brS_ff ?_ | refine brS_not ?_ | refine gI ?_ | refine gT ?_ | refine gF ?_ | refine brS_intro (fun _ => ?_) (fun _ => ?_) | refine gL ?_ | refine gX ?_ | refine gO ?_ | refine gN ?_ | intro _)
      conv => whnf
      rw [List.append_nil] at hnd hltn
      have hlO : nO = n := hlen
      subst hlO
      refine ⟨⟨_, _, ⟨fun z => O.getD z 0, fun j hj => hltn _ (getD_mem (by omega)), fun i j hi hj e => ?_, b2, rfl, rfl⟩, rfl, WS⟩, nM1⟩
      have e : O.getD i 0 = O.getD j 0 := e
      rw [List.getD_eq_getElem?_getD, List.getD_eq_getElem?_getD, List.getElem?_eq_getElem (by omega), List.getElem?_eq_getElem (by omega)] at e
      exact (List.getElem_inj hnd).1 e
end Go.Proofs.Ytefnljdfgjjpjaa
