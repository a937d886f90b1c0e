/- Rank: the law: months and orders by numbers, what can rise. -/
import Derived.Test.YtefnljdfgjjpjaaRaC
import Derived.KernelRfl
namespace Go.Proofs.Ytefnljdfgjjpjaa
open Go.Ab
attribute [local irreducible] aggOk drwOK
set_option maxRecDepth 100000
set_option maxHeartbeats 4000000
set_option linter.unusedVariables false
set_option linter.unusedSimpArgs false
theorem WkM.gr_cg {m' m : Mem} {i j n e sz : Nat} {a : Option Addr} {f g : Nat → List SV} (hc : ∀ j, j < n → f j = g j) (h : WkM m' ((i, .gr a n e sz f) :: m)) : WkM m' ((j, .gr a n e sz g) :: m) :=
  h.trans (WkL.wk (WkM.keep (e := .gr a n e sz f) (e' := .gr a n e sz g) ⟨rfl, rfl, rfl, rfl, hc⟩ (WkL.refl m)))
/-- a month of its own; numbers of their own -/
def QM (i T : Nat) (lo hi : Nat → Nat) (wv : SV) (mm : Mem) : Prop := ∃ a, wv = .sl i a T T ∧ mm = [(i, .gr a T 63 2 (mf lo hi))]
def QN (i n : Nat) (o : Nat → Nat) (wv : SV) (mm : Mem) : Prop := ∃ a, wv = .sl i a n n ∧ mm = [(i, .gr a n 3 1 (nf o))]
theorem callQM {call : CallT} {g : FuncId} {args args0 : List SV} {m0 : Mem} {N i T : Nat} {lo hi : Nat → Nat} (h : ∀ R, callS call (.fn g [] []) args0 m0 (addL R N) 0 fun w m' R' _ => (∃ wv mm, QM i T lo hi wv mm ∧ den w = den wv ∧ WkM m' mm) ∧ R ≤ R') (R2 : Nat) {m : Mem} {R ni : Nat} {K : SV → Mem → Nat → Nat → Prop} (ha : dens args = dens args0) (hs : SeesM m m0) (hN : R2 + N ≤ R)
    (hK : ∀ a, K (.sl i a T T) ((i, .gr a T 63 2 (mf lo hi)) :: m) R2 ni) : callS call (.fn g [] []) args m R ni K :=
  call_freshL (QM i T lo hi) h (fun wv mm hq => by obtain ⟨a, _, rfl⟩ := hq; intro x hx; rw [List.mem_singleton.1 hx]; exact ⟨_, _, _, _, _, rfl⟩) R2 ha hs hN (fun wv mm hq => by obtain ⟨a, rfl, rfl⟩ := hq; exact hK a)
/-- the spans of a month by numbers -/
def ml (nw : Nat) (w0 : Nat → Nat) (j : Nat) : Nat := if nw = 0 then 3 else w0 j % 14
def mh (nw : Nat) (w0 w1 : Nat → Nat) (j : Nat) : Nat := if nw = 0 then 4 else w0 j % 14 + w1 j % 6
def mT (nw : Nat) : Nat := if nw = 0 then 1 else min nw 5
theorem mlh (nw : Nat) (w0 w1 : Nat → Nat) (j : Nat) : ml nw w0 j ≤ mh nw w0 w1 j ∧ mh nw w0 w1 j ≤ 18 := by
  unfold ml mh
  by_cases h : nw = 0
  · rw [if_pos h, if_pos h]; omega
  · rw [if_neg h, if_neg h]; omega
theorem c51 (F k i : Nat) (hF : 200 < F) (a : Option Addr) (e : Nat) (f lo hi : Nat → Nat) (h0 : lo 0 = f 0) (h1 : hi 0 = f 1) (R : Nat) :
    callS (CL F (k + 1)) (.fn 51 [] []) [.sl 1000 a 2 2] [(1000, .ro a 2 e 1 (nf f))] (addL R (60 + 40)) 0 fun w m' R' _ => (∃ wv mm, QM i 1 lo hi wv mm ∧ den w = den wv ∧ WkM m' mm) ∧ R ≤ R' := by
  rw [show 60 + 40 = (60) + 40 from rfl, addL_eq, ← Nat.add_assoc, ← addL_eq _ 40, Nat.add_comm R (60)]
  refine call_in (n := 26) Try.func51 rfl rfl rfl rfl rfl rfl rfl ?_
  repeat' ((conv => whnf); first | refine eqS_rfl ?_ | refine eqA_rfl ?_ | refine eqA_of (by assumption) ?_ | refine eqS_of (by rfl) ?_ | refine eqL_rfl ?_ | refine eqJ_rfl ?_ | refine gE ?_ | refine seS_rfl ?_ | refine lsS_of hup ?_ | refine lsS_rfl ?_ | refine brS_tt ?_ | refine brS_ff ?_ | refine brS_not ?_ | refine gI ?_ | refine gT ?_ | refine gF ?_ | refine brS_intro (fun _ => ?_) (fun _ => ?_) | refine gL ?_ | refine gX ?_ | refine gO ?_ | refine gN ?_ | intro _)
  conv => whnf
  refine loS_i (fun jj f' mm R' ni => ∃ (j : Nat) (a1 : Option Addr), j ≤ 1 ∧ jj = 1 - j + 1 ∧ f' = [(0, .sl 1000 a 2 2), (3, .sl 600 a1 j j), (4, .int .i64 (Int.ofNat (2 * j)))] ∧ mm = [(600, .gr a1 j 63 2 (mf lo hi)), (1000, .ro a 2 e 1 (nf f))] ∧ R' = addL (30 * (1 - j) + R) 30 ∧ ni = 700) (1 + 1) (by omega)
    ⟨[(0, .sl 1000 a 2 2), (3, .sl 600 none 0 0), (4, .int .i64 (Int.ofNat (2 * 0)))], [(600, .gr none 0 63 2 (mf lo hi)), (1000, .ro a 2 e 1 (nf f))], addL (30 * (1 - 0) + R) 30, 700, ⟨eqF_rfl _, ⟨rfl, rfl⟩, eqF_rfl _, trivial⟩, by exact (WkM.gr0 (WkM.refl _)).trans WS, nM1, 0, none, by omega, by omega, rfl, rfl, rfl, rfl⟩ ?_
  rintro _ _ _ _ _ ⟨j, a1, hj, rfl, rfl, rfl, rfl, rfl⟩
  by_cases hlt : j < 1
  · have e0 : j = 0 := by omega
    subst e0
    have d1 : iLt (wr .i64 (Int.add (Int.ofNat (2 * 0)) 1)) (Int.ofNat 2) = true := rfl
    have d2 : wr .i64 (Int.add (Int.ofNat (2 * 0)) 1) = Int.ofNat 1 := rfl
    have hg := growE (n := 0) (sz := 2) (f := mf lo hi) (l := [.int .i64 (Int.ofNat (f 0)), .int .i64 (Int.ofNat (f 1))]) rfl (by show [_, _] = _; rw [h0, h1])
    repeat' ((conv => whnf); first | refine eqS_rfl ?_ | refine eqA_rfl ?_ | refine eqA_of (by assumption) ?_ | refine eqS_of (by rfl) ?_ | refine eqL_rfl ?_ | refine eqJ_rfl ?_ | refine gE ?_ | refine seS_rfl ?_ | refine lsS_of hup ?_ | refine lsS_rfl ?_ | refine brS_tt ?_ | refine brS_ff ?_ | refine brS_not ?_ | refine gI ?_ | refine gT ?_ | refine gF ?_ | refine brS_intro (fun _ => ?_) (fun _ => ?_) | refine gL ?_ | refine gX ?_ | refine gO ?_ | refine gN ?_ | refine ixS_of (q := 0) rfl (by decide) ?_ | refine ixS_of (q := 1) d2 (by decide) ?_ | refine ltS_intro (show 0 * 2 + 2 < 32769 by omega) ?_ | intro _)
    rename_i a9
    conv => whnf
    exact ⟨1 - (0 + 1) + 1, [(0, .sl 1000 a 2 2), (3, .sl 600 a9 1 1), (4, .int .i64 (Int.ofNat (2 * 1)))], [(600, .gr a9 1 63 2 (mf lo hi)), (1000, .ro a 2 e 1 (nf f))], addL (30 * (1 - 1) + R) 30, 700, by omega, ⟨eqF_rfl _, ⟨rfl, rfl⟩, ⟨rfl, rfl⟩, trivial⟩, WG, nM1, 1, _, by omega, rfl, rfl, rfl, rfl, rfl⟩
  · have e2 : j = 1 := by omega
    subst e2
    have d1 : iLt (wr .i64 (Int.add (Int.ofNat (2 * 1)) 1)) (Int.ofNat 2) = false := rfl
    repeat' ((conv => whnf); first | refine eqS_rfl ?_ | refine eqA_rfl ?_ | refine eqA_of (by assumption) ?_ | refine eqS_of (by rfl) ?_ | refine eqL_rfl ?_ | refine eqJ_rfl ?_ | refine gE ?_ | refine seS_rfl ?_ | refine lsS_of hup ?_ | refine lsS_rfl ?_ | refine brS_tt ?_ | refine brS_ff ?_ | refine brS_not ?_ | refine gI ?_ | refine gT ?_ | refine gF ?_ | refine brS_intro (fun _ => ?_) (fun _ => ?_) | refine gL ?_ | refine gX ?_ | refine gO ?_ | refine gN ?_ | intro _)
    conv => whnf
    exact ⟨⟨_, _, ⟨a1, rfl, rfl⟩, rfl, WS⟩, nM1⟩
theorem c43 (F k i : Nat) (hF : 200 < F) (aw : Option Addr) (nw ew cw : Nat) (w0 w1 : Nat → Nat) (hw0 : ∀ j, w0 j < 256) (hw1 : ∀ j, w1 j < 256) (R : Nat) :
    callS (CL F (k + 2)) (.fn 43 [] []) [.sl 1000 aw nw cw] [(1000, .ro aw nw ew 2 fun j => [.int .u8 (Int.ofNat (w0 j)), .int .u8 (Int.ofNat (w1 j))])] (addL R (400 + 400)) 0 fun w m' R' _ => (∃ wv mm, QM i (mT nw) (ml nw w0) (mh nw w0 w1) wv mm ∧ den w = den wv ∧ WkM m' mm) ∧ R ≤ R' := by
  rw [show 400 + 400 = (400) + 400 from rfl, addL_eq, ← Nat.add_assoc, ← addL_eq _ 400, Nat.add_comm R (400)]
  refine call_in (n := 43) Try.func43 rfl rfl rfl rfl rfl rfl rfl ?_
  repeat' ((conv => whnf); first | refine eqS_rfl ?_ | refine eqA_rfl ?_ | refine eqA_of (by assumption) ?_ | refine eqS_of (by rfl) ?_ | refine eqL_rfl ?_ | refine eqJ_rfl ?_ | refine gE ?_ | refine seS_rfl ?_ | refine lsS_of hup ?_ | refine lsS_rfl ?_ | refine brS_tt ?_ | refine brS_ff ?_ | refine brS_not ?_ | refine gI ?_ | refine gT ?_ | refine gF ?_ | refine brS_intro (fun _ => ?_) (fun _ => ?_) | refine gL ?_ | refine gX ?_ | refine gO ?_ | refine gN ?_ | intro _)
  conv => whnf
  refine loS_i (fun jj f mm R' ni => ∃ (j : Nat) (a1 : Option Addr), j ≤ 5 ∧ j ≤ nw ∧ jj = 5 - j + 1 ∧ f = [(0, .sl 1000 aw nw cw), (3, .sl 600 a1 j j), (4, .int .i64 (Int.ofNat j))] ∧ mm = [(600, .gr a1 j 63 2 (mf (ml nw w0) (mh nw w0 w1))), (1000, .ro aw nw ew 2 fun j => [.int .u8 (Int.ofNat (w0 j)), .int .u8 (Int.ofNat (w1 j))])] ∧ R' = (addL (40 * (5 - j) + R) 200) ∧ ni = 700) (5 + 1) (by omega)
    ⟨[(0, .sl 1000 aw nw cw), (3, .sl 600 none 0 0), (4, .int .i64 (Int.ofNat 0))], [(600, .gr none 0 63 2 (mf (ml nw w0) (mh nw w0 w1))), (1000, .ro aw nw ew 2 fun j => [.int .u8 (Int.ofNat (w0 j)), .int .u8 (Int.ofNat (w1 j))])], (addL (40 * (5 - 0) + R) 200), 700, ⟨eqF_rfl _, ⟨rfl, rfl⟩, eqF_rfl _, trivial⟩, by exact (WkM.gr0 (WkM.refl _)).trans WS, nM1, 0, none, by omega, by omega, by omega, rfl, rfl, rfl, rfl⟩ ?_
  rintro _ _ _ _ _ ⟨j, a1, hj, hjn, rfl, rfl, rfl, rfl, rfl⟩
  by_cases hlt : j < nw
  · have h1 := iLt_t hlt
    have hz : ¬ nw = 0 := by omega
    by_cases h5 : j < 5
    · have h2 : iLt (Int.ofNat j) 5 = true := iLt_t (a := j) (b := 5) h5
      have e0 : Int.tmod (wr .i64 (Int.ofNat (w0 j))) 14 = Int.ofNat (w0 j % 14) := by rw [smn (by have := hw0 j; omega)]; rfl
      have e1 : wr .i64 (Int.add (Int.tmod (wr .i64 (Int.ofNat (w0 j))) 14) (Int.tmod (wr .i64 (Int.ofNat (w1 j))) 6)) = Int.ofNat (w0 j % 14 + w1 j % 6) := by
        rw [e0, smn (by have := hw1 j; omega)]
        exact smn (i := w0 j % 14 + w1 j % 6) (by omega)
      have hg := growE (n := j) (sz := 2) (f := mf (ml nw w0) (mh nw w0 w1)) (l := [.int .i64 (Int.tmod (wr .i64 (Int.ofNat (w0 j))) 14), .int .i64 (wr .i64 (Int.add (Int.tmod (wr .i64 (Int.ofNat (w0 j))) 14) (Int.tmod (wr .i64 (Int.ofNat (w1 j))) 6)))]) rfl (by
        show [_, _] = _
        unfold ml mh
        rw [e1, e0, if_neg hz, if_neg hz])
      repeat' ((conv => whnf); first | refine eqS_rfl ?_ | refine eqA_rfl ?_ | refine eqA_of (by assumption) ?_ | refine eqS_of (by rfl) ?_ | refine eqL_rfl ?_ | refine eqJ_rfl ?_ | refine gE ?_ | refine seS_rfl ?_ | refine lsS_of hup ?_ | refine lsS_rfl ?_ | refine brS_tt ?_ | refine brS_ff ?_ | refine brS_not ?_ | refine gI ?_ | refine gT ?_ | refine gF ?_ | refine brS_intro (fun _ => ?_) (fun _ => ?_) | refine gL ?_ | refine gX ?_ | refine gO ?_ | refine gN ?_ | refine ixS_of (q := 0) rfl (by decide) ?_ | refine ixS_of (q := 1) rfl (by decide) ?_ | refine ltS_intro (show j * 2 + 2 < 32769 by omega) ?_ | intro _)
      rename_i a9
      conv => whnf
      exact ⟨5 - (j + 1) + 1, [(0, .sl 1000 aw nw cw), (3, .sl 600 a9 (j + 1) (j + 1)), (4, .int .i64 (Int.ofNat (j + 1)))], [(600, .gr a9 (j + 1) 63 2 (mf (ml nw w0) (mh nw w0 w1))), (1000, .ro aw nw ew 2 fun j => [.int .u8 (Int.ofNat (w0 j)), .int .u8 (Int.ofNat (w1 j))])], (addL (40 * (5 - (j + 1)) + R) 200), 700, by omega, ⟨eqF_rfl _, ⟨rfl, rfl⟩, ⟨congrArg (Value.int .i64) (smn (i := j + 1) (by omega)), rfl⟩, trivial⟩, WG, nM1, j + 1, _, by omega, by omega, rfl, rfl, rfl, rfl, rfl⟩
    · have e2 : j = 5 := by omega
      subst e2
      have h2 : iLt (Int.ofNat 5) 5 = false := rfl
      have h3 : iEq (Int.ofNat 5) 0 = false := rfl
      repeat' ((conv => whnf); first | refine eqS_rfl ?_ | refine eqA_rfl ?_ | refine eqA_of (by assumption) ?_ | refine eqS_of (by rfl) ?_ | refine eqL_rfl ?_ | refine eqJ_rfl ?_ | refine gE ?_ | refine seS_rfl ?_ | refine lsS_of hup ?_ | refine lsS_rfl ?_ | refine brS_tt ?_ | refine brS_ff ?_ | refine brS_not ?_ | refine gI ?_ | refine gT ?_ | refine gF ?_ | refine brS_intro (fun _ => ?_) (fun _ => ?_) | refine gL ?_ | refine gX ?_ | refine gO ?_ | refine gN ?_ | intro _)
      conv => whnf
      have hT : mT nw = 5 := by unfold mT; rw [if_neg hz]; omega
      rw [hT]
      exact ⟨⟨_, _, ⟨a1, rfl, rfl⟩, rfl, WS⟩, nM1⟩
  · have e2 : nw = j := by omega
    subst e2
    have h1 := iLt_f (Nat.le_refl nw)
    by_cases hz : nw = 0
    · subst hz
      have h3 : iEq (Int.ofNat 0) 0 = true := rfl
      repeat' ((conv => whnf); first | refine eqS_rfl ?_ | refine eqA_rfl ?_ | refine eqA_of (by assumption) ?_ | refine eqS_of (by rfl) ?_ | refine eqL_rfl ?_ | refine eqJ_rfl ?_ | refine gE ?_ | refine seS_rfl ?_ | refine lsS_of hup ?_ | refine lsS_rfl ?_ | refine brS_tt ?_ | refine brS_ff ?_ | refine brS_not ?_ | refine gI ?_ | refine gT ?_ | refine gF ?_ | refine brS_intro (fun _ => ?_) (fun _ => ?_) | refine gL ?_ | refine gX ?_ | refine gO ?_ | refine gN ?_ | refine callQM (c51 F _ 710 hF _ 4 (fun z => if z = 0 then 3 else 4) (ml 0 w0) (mh 0 w0 w1) rfl rfl) (addL R 50) (by rfl) (by exact SeesM.cons 1000 (SeesE.ro_congr (g := nf (fun z => if z = 0 then 3 else 4)) (sees_own (i := 700) (n := 2) (o := 0) (sz := 1) (c := 4) (by rfl) (by exact Nat.le_refl 2)) (fun j hj => by match j, hj with | 0, _ => rfl | 1, _ => rfl | j + 2, hj => exact absurd hj (by omega))) (SeesM.nil _) (fun _ _ _ _ _ _ x hx => by cases hx)) (nM1) ?_ | intro _)
      rename_i a9
      conv => whnf
      exact ⟨⟨_, _, ⟨a9, rfl, rfl⟩, rfl, WS⟩, nM1⟩
    · have h3 : iEq (Int.ofNat nw) 0 = false := (iEq_n (a := nw) (b := 0)).trans (decide_eq_false hz)
      repeat' ((conv => whnf); first | refine eqS_rfl ?_ | refine eqA_rfl ?_ | refine eqA_of (by assumption) ?_ | refine eqS_of (by rfl) ?_ | refine eqL_rfl ?_ | refine eqJ_rfl ?_ | refine gE ?_ | refine seS_rfl ?_ | refine lsS_of hup ?_ | refine lsS_rfl ?_ | refine brS_tt ?_ | refine brS_ff ?_ | refine brS_not ?_ | refine gI ?_ | refine gT ?_ | refine gF ?_ | refine brS_intro (fun _ => ?_) (fun _ => ?_) | refine gL ?_ | refine gX ?_ | refine gO ?_ | refine gN ?_ | intro _)
      conv => whnf
      have hT : mT nw = nw := by unfold mT; rw [if_neg hz]; omega
      rw [hT]
      exact ⟨⟨_, _, ⟨a1, rfl, rfl⟩, rfl, WS⟩, nM1⟩
end Go.Proofs.Ytefnljdfgjjpjaa
