/- RankOrders: orders of any numbers. -/
import Derived.Test.YtefnljdfgjjpjaaRaOa
import Derived.KernelRfl
namespace Go.Proofs.Ytefnljdfgjjpjaa
open Go.Ab
attribute [local irreducible] aggOk drwOK
set_option maxRecDepth 100000
set_option maxHeartbeats 4000000
set_option linter.unusedVariables false
set_option linter.unusedSimpArgs false
theorem ckE_ok {x y : Nat → Int} {n : Nat} (h : ckE x y n = 0) : 0 < n ∧ n ≤ 30 ∧ ∀ j, j < n → bd x y j = 0 := by
  unfold ckE at h
  by_cases t0 : n = 0
  · rw [if_pos t0] at h; cases h
  · rw [if_neg t0] at h
    by_cases t3 : 30 < n
    · rw [if_pos t3] at h; cases h
    · rw [if_neg t3] at h
      exact ⟨by omega, by omega, fb_zero h⟩
theorem bd_ok {x y : Nat → Int} {j : Nat} (h : bd x y j = 0) : 0 ≤ x j ∧ x j ≤ y j ∧ y j ≤ 100000 := by
  unfold bd at h
  cases g : (iLt (x j) 0 || iLt (y j) (x j) || iLt 100000 (y j)) with
  | true => rw [g] at h; cases h
  | false =>
    rw [Bool.or_eq_false_iff, Bool.or_eq_false_iff, iLt_eq, iLt_eq, iLt_eq, decide_eq_false_iff_not, decide_eq_false_iff_not, decide_eq_false_iff_not] at g
    omega
/-- the error of a day of an order -/
def st1 (o : Nat → Int) (n j : Nat) : Nat := bif !(iLt (o j) 0) && iLt (o j) (Int.ofNat n) then (if ∃ i, i < j ∧ o i = o j then 7 else 0) else 6
/-- the error of an order, whether it is possible or not -/
noncomputable def odE (x y : Nat → Int) (n nO : Nat) (o : Nat → Int) : Nat := if ckE x y n = 0 then (if nO = n then fb (st1 o n) n else 4) else ckE x y n
abbrev ov (o : Nat → Int) (z : Nat) : Nat := (o z).toNat
theorem st1_in {o : Nat → Int} {n j : Nat} (h : (!(iLt (o j) 0) && iLt (o j) (Int.ofNat n)) = true) : o j = Int.ofNat (ov o j) ∧ ov o j < n := by
  rw [Bool.and_eq_true, iLt_eq, iLt_eq, decide_eq_true_eq] at h
  obtain ⟨h1, h2⟩ := h
  have h1 : ¬ (o j < 0) := by intro e; rw [decide_eq_true e] at h1; cases h1
  have h2 : o j < (n : Int) := h2
  constructor
  · show o j = ((o j).toNat : Int); omega
  · show (o j).toNat < n; omega
theorem st1_ok {o : Nat → Int} {n j : Nat} (h : st1 o n j = 0) : o j = Int.ofNat (ov o j) ∧ ov o j < n ∧ ∀ i, i < j → o i ≠ o j := by
  unfold st1 at h
  cases g : (!(iLt (o j) 0) && iLt (o j) (Int.ofNat n)) with
  | false => rw [g] at h; cases h
  | true =>
    rw [g, cond_true] at h
    refine ⟨(st1_in g).1, (st1_in g).2, fun i hi e => ?_⟩
    rw [if_pos ⟨i, hi, e⟩] at h
    cases h
theorem c56i (F k : Nat) (a b : Int) (r : Bool) (hr : (!(iLt a 0) && iLt a b) = r) : PureC (CL F (k + 1)) 56 [.int .i64 a, .int .i64 b] 2 (.bool r) := by
  subst hr
  cases h1 : iLt a 0 with
  | true =>
    intro m R
    refine call_in (n := 12) Try.func56 rfl rfl rfl rfl rfl rfl rfl ?_
    repeat' ((conv => whnf); first | refine eqS_rfl ?_ | refine eqA_rfl ?_ | refine eqA_of (by assumption) ?_ | refine eqS_of (by rfl) ?_ | refine eqL_rfl ?_ | refine eqJ_rfl ?_ | refine gE ?_ | refine seS_rfl ?_ | refine lsS_of hup ?_ | refine lsS_rfl ?_ | refine brS_tt ?_ | refine brS_ff ?_ | refine brS_not ?_ | refine gI ?_ | refine gT ?_ | refine gF ?_ | refine brS_intro (fun _ => ?_) (fun _ => ?_) | refine gL ?_ | refine gX ?_ | refine gO ?_ | refine gN ?_ | intro _)
    all_goals (conv => whnf)
    all_goals refine ⟨?_, by repeat' (first | exact WkM.refl _ | refine WkM.drop ?_), by repeat' (first | exact Nat.le_refl _ | refine Nat.le_succ_of_le ?_)⟩
    all_goals (rfl)

  | false =>
    intro m R
    refine call_in (n := 12) Try.func56 rfl rfl rfl rfl rfl rfl rfl ?_
    repeat' ((conv => whnf); first | refine eqS_rfl ?_ | refine eqA_rfl ?_ | refine eqA_of (by assumption) ?_ | refine eqS_of (by rfl) ?_ | refine eqL_rfl ?_ | refine eqJ_rfl ?_ | refine gE ?_ | refine seS_rfl ?_ | refine lsS_of hup ?_ | refine lsS_rfl ?_ | refine brS_tt ?_ | refine brS_ff ?_ | refine brS_not ?_ | refine gI ?_ | refine gT ?_ | refine gF ?_ | refine brS_intro (fun _ => ?_) (fun _ => ?_) | refine gL ?_ | refine gX ?_ | refine gO ?_ | refine gN ?_ | intro _)
    all_goals (conv => whnf)
    all_goals refine ⟨?_, by repeat' (first | exact WkM.refl _ | refine WkM.drop ?_), by repeat' (first | exact Nat.le_refl _ | refine Nat.le_succ_of_le ?_)⟩
    all_goals (rfl)

theorem c52i (F k : Nat) (hF : 200 < F) (am : Option Addr) (n em cm : Nat) (x y : Nat → Int) (ao : Option Addr) (nO eo co : Nat) (o : Nat → Int) : ReadC (CL F (k + 2)) 52 [.sl 1000 am n cm, .sl 1001 ao nO co] [(1000, .ro am n em 2 (mi x y)), (1001, .ro ao nO eo 1 (oi o))] (10000 + 100) (.int .i64 (Int.ofNat (odE x y n nO o))) := by
  intro R
  rw [show 10000 + 100 = (10000) + 100 from rfl, addL_eq, ← Nat.add_assoc, ← addL_eq _ 100, Nat.add_comm R (10000)]
  have k21 := c21i F k hF am n em cm x y
  by_cases hck : ckE x y n = 0
  case neg =>
    have tk : iEq (Int.ofNat (ckE x y n)) 0 = false := (iEq_n (a := ckE x y n) (b := 0)).trans (decide_eq_false hck)
    have e0 : odE x y n nO o = ckE x y n := by unfold odE; rw [if_neg hck]
    refine call_in (n := 37) Try.func52 rfl rfl rfl rfl rfl rfl rfl ?_
    repeat' ((conv => whnf); first | refine eqS_rfl ?_ | refine eqA_rfl ?_ | refine eqA_of (by assumption) ?_ | refine eqS_of (by rfl) ?_ | refine eqL_rfl ?_ | refine eqJ_rfl ?_ | refine gE ?_ | refine seS_rfl ?_ | refine lsS_of hup ?_ | refine lsS_rfl ?_ | refine brS_tt ?_ | refine brS_ff ?_ | refine brS_not ?_ | refine gI ?_ | refine gT ?_ | refine gF ?_ | refine brS_intro (fun _ => ?_) (fun _ => ?_) | refine gL ?_ | refine gX ?_ | refine gO ?_ | refine gN ?_ | refine call_readL (k21) (addL (8900 + R) 0) (by rfl) (by exact SeesM.cons 1000 (sees_ro (i := 1000) (by rfl)) (SeesM.nil _) (fun _ _ _ _ _ _ x hx => by cases hx)) (nM1) ?_ | intro _)
    conv => whnf
    exact ⟨congrArg (fun z => Value.int .i64 (Int.ofNat z)) e0.symm, nM1⟩
  rw [hck] at k21
  obtain ⟨hn0, hn, hbd⟩ := ckE_ok hck
  by_cases hnO : nO = n
  case neg =>
    have tk : iEq (Int.ofNat nO) (Int.ofNat n) = false := iEq_n.trans (decide_eq_false hnO)
    have e0 : odE x y n nO o = 4 := by unfold odE; rw [if_pos hck, if_neg hnO]
    refine call_in (n := 37) Try.func52 rfl rfl rfl rfl rfl rfl rfl ?_
    repeat' ((conv => whnf); first | refine eqS_rfl ?_ | refine eqA_rfl ?_ | refine eqA_of (by assumption) ?_ | refine eqS_of (by rfl) ?_ | refine eqL_rfl ?_ | refine eqJ_rfl ?_ | refine gE ?_ | refine seS_rfl ?_ | refine lsS_of hup ?_ | refine lsS_rfl ?_ | refine brS_tt ?_ | refine brS_ff ?_ | refine brS_not ?_ | refine gI ?_ | refine gT ?_ | refine gF ?_ | refine brS_intro (fun _ => ?_) (fun _ => ?_) | refine gL ?_ | refine gX ?_ | refine gO ?_ | refine gN ?_ | refine call_readL (k21) (addL (8900 + R) 0) (by rfl) (by exact SeesM.cons 1000 (sees_ro (i := 1000) (by rfl)) (SeesM.nil _) (fun _ _ _ _ _ _ x hx => by cases hx)) (nM1) ?_ | intro _)
    conv => whnf
    exact ⟨congrArg (fun z => Value.int .i64 (Int.ofNat z)) e0.symm, nM1⟩
  subst hnO
  have e0 : odE x y nO nO o = fb (st1 o nO) nO := by unfold odE; rw [if_pos hck, if_pos rfl]
  generalize nO = n at *
  have t1 : iEq (Int.ofNat n) (Int.ofNat n) = true := iEq_self _
  refine call_in (n := 37) Try.func52 rfl rfl rfl rfl rfl rfl rfl ?_
  repeat' ((conv => whnf); first | refine eqS_rfl ?_ | refine eqA_rfl ?_ | refine eqA_of (by assumption) ?_ | refine eqS_of (by rfl) ?_ | refine eqL_rfl ?_ | refine eqJ_rfl ?_ | refine gE ?_ | refine seS_rfl ?_ | refine lsS_of hup ?_ | refine lsS_rfl ?_ | refine brS_tt ?_ | refine brS_ff ?_ | refine brS_not ?_ | refine gI ?_ | refine gT ?_ | refine gF ?_ | refine brS_intro (fun _ => ?_) (fun _ => ?_) | refine gL ?_ | refine gX ?_ | refine gO ?_ | refine gN ?_ | refine call_readL (k21) (addL (8900 + R) 0) (by rfl) (by exact SeesM.cons 1000 (sees_ro (i := 1000) (by rfl)) (SeesM.nil _) (fun _ _ _ _ _ _ x hx => by cases hx)) (nM1) ?_ | intro _)
  conv => whnf
  refine loS_i (fun jj f mm R' ni => ∃ j : Nat, j ≤ n ∧ fb (st1 o n) j = 0 ∧ jj = n - j + 1 ∧ f = [(0, .sl 1000 am n cm), (1, .sl 1001 ao n co), (6, u32 (stL (ov o) j)), (19, .sl 1001 ao n co), (20, .int .i64 (Int.ofNat n)), (21, .int .i64 (Int.ofNat j))] ∧ mm = [(1000, .ro am n em 2 (mi x y)), (1001, .ro ao n eo 1 (oi o))] ∧ R' = (addL (60 * (n - j) + R) 20) ∧ ni = 10) (n + 1) (by omega)
    ⟨[(0, .sl 1000 am n cm), (1, .sl 1001 ao n co), (6, u32 (stL (ov o) 0)), (19, .sl 1001 ao n co), (20, .int .i64 (Int.ofNat n)), (21, .int .i64 (Int.ofNat 0))], [(1000, .ro am n em 2 (mi x y)), (1001, .ro ao n eo 1 (oi o))], (addL (60 * (n - 0) + R) 20), 10, ⟨eqF_rfl _, eqF_rfl _, eqF_rfl _, eqF_rfl _, eqF_rfl _, eqF_rfl _, trivial⟩, WkM.refl _, nM1, 0, by omega, rfl, by omega, rfl, rfl, rfl, rfl⟩ ?_
  rintro _ _ _ _ _ ⟨j, hj, hI, rfl, rfl, rfl, rfl, rfl⟩
  have hok := fun i hi => st1_ok (fb_zero hI i hi)
  have h32 : ∀ i, i < j → ov o i < 32 := fun i hi => by have := (hok i hi).2.1; omega
  have hs := stL_lt h32 (Nat.le_refl j)
  by_cases hlt : j < n
  · have h1 := iLt_t hlt
    cases g : (!(iLt (o j) 0) && iLt (o j) (Int.ofNat n)) with
    | false =>
      have hb : st1 o n j = 6 := by unfold st1; rw [g, cond_false]
      have e := fb_stop (f := st1 o n) hlt hI (by rw [hb]; decide)
      repeat' ((conv => whnf); first | refine eqS_rfl ?_ | refine eqA_rfl ?_ | refine eqA_of (by assumption) ?_ | refine eqS_of (by rfl) ?_ | refine eqL_rfl ?_ | refine eqJ_rfl ?_ | refine gE ?_ | refine seS_rfl ?_ | refine lsS_of hup ?_ | refine lsS_rfl ?_ | refine brS_tt ?_ | refine brS_ff ?_ | refine brS_not ?_ | refine gI ?_ | refine gT ?_ | refine gF ?_ | refine brS_intro (fun _ => ?_) (fun _ => ?_) | refine gL ?_ | refine gX ?_ | refine gO ?_ | refine gN ?_ | refine call_pure (c56i F _ (o j) (Int.ofNat n) _ g) ?_ | intro _)
      conv => whnf
      exact ⟨congrArg (fun z => Value.int .i64 (Int.ofNat z)) (e0.trans (e.trans hb)).symm, nM1⟩
    | true =>
      obtain ⟨hd, hdn⟩ := st1_in g
      cases hb : (stL (ov o) j).testBit (ov o j) with
      | true =>
        have k79 : PureC (CL F (k + 1)) 79 [u32 (stL (ov o) j), .int .i64 (o j)] 2 (.bool true) := by rw [hd]; exact c79 F k (stL (ov o) j) (ov o j) hs (by omega) true hb
        obtain ⟨i, hi, ei⟩ := (stL_bit (ov o) (ov o j) j).1 hb
        have hb1 : st1 o n j = 7 := by unfold st1; rw [g, cond_true, if_pos ⟨i, hi, by rw [(hok i hi).1, hd, ei]⟩]
        have e := fb_stop (f := st1 o n) hlt hI (by rw [hb1]; decide)
        repeat' ((conv => whnf); first | refine eqS_rfl ?_ | refine eqA_rfl ?_ | refine eqA_of (by assumption) ?_ | refine eqS_of (by rfl) ?_ | refine eqL_rfl ?_ | refine eqJ_rfl ?_ | refine gE ?_ | refine seS_rfl ?_ | refine lsS_of hup ?_ | refine lsS_rfl ?_ | refine brS_tt ?_ | refine brS_ff ?_ | refine brS_not ?_ | refine gI ?_ | refine gT ?_ | refine gF ?_ | refine brS_intro (fun _ => ?_) (fun _ => ?_) | refine gL ?_ | refine gX ?_ | refine gO ?_ | refine gN ?_ | refine call_pure (c56i F _ (o j) (Int.ofNat n) _ g) ?_ | refine call_pure k79 ?_ | intro _)
        conv => whnf
        exact ⟨congrArg (fun z => Value.int .i64 (Int.ofNat z)) (e0.trans (e.trans hb1)).symm, nM1⟩
      | false =>
        have k79 : PureC (CL F (k + 1)) 79 [u32 (stL (ov o) j), .int .i64 (o j)] 2 (.bool false) := by rw [hd]; exact c79 F k (stL (ov o) j) (ov o j) hs (by omega) false hb
        have k80 : PureC (CL F (k + 1)) 80 [u32 (stL (ov o) j), .int .i64 (o j)] 2 (u32 (stL (ov o) (j + 1))) := by rw [hd]; exact c80 F k (stL (ov o) j) (ov o j) hs (by omega)
        have hb1 : st1 o n j = 0 := by
          unfold st1
          rw [g, cond_true, if_neg]
          rintro ⟨i, hi, ei⟩
          have := (stL_bit (ov o) (ov o j) j).2 ⟨i, hi, by show (o i).toNat = (o j).toNat; rw [ei]⟩
          rw [hb] at this; cases this
        repeat' ((conv => whnf); first | refine eqS_rfl ?_ | refine eqA_rfl ?_ | refine eqA_of (by assumption) ?_ | refine eqS_of (by rfl) ?_ | refine eqL_rfl ?_ | refine eqJ_rfl ?_ | refine gE ?_ | refine seS_rfl ?_ | refine lsS_of hup ?_ | refine lsS_rfl ?_ | refine brS_tt ?_ | refine brS_ff ?_ | refine brS_not ?_ | refine gI ?_ | refine gT ?_ | refine gF ?_ | refine brS_intro (fun _ => ?_) (fun _ => ?_) | refine gL ?_ | refine gX ?_ | refine gO ?_ | refine gN ?_ | refine call_pure (c56i F _ (o j) (Int.ofNat n) _ g) ?_ | refine call_pure k79 ?_ | refine call_pure k80 ?_ | intro _)
        conv => whnf
        exact ⟨n - (j + 1) + 1, [(0, .sl 1000 am n cm), (1, .sl 1001 ao n co), (6, u32 (stL (ov o) (j + 1))), (19, .sl 1001 ao n co), (20, .int .i64 (Int.ofNat n)), (21, .int .i64 (Int.ofNat (j + 1)))], _, (addL (60 * (n - (j + 1)) + R) 20), 10, by omega, ⟨eqF_rfl _, eqF_rfl _, eqF_rfl _, eqF_rfl _, eqF_rfl _, ⟨congrArg (Value.int .i64) (smn (i := j + 1) (by omega)), rfl⟩, trivial⟩, WkM.refl _, nM1, j + 1, by omega, fb_next hI hb1, rfl, rfl, rfl, rfl, rfl⟩
  · have e2 : n = j := by omega
    subst e2
    have h1 := iLt_f (Nat.le_refl n)
    repeat' ((conv => whnf); first | refine eqS_rfl ?_ | refine eqA_rfl ?_ | refine eqA_of (by assumption) ?_ | refine eqS_of (by rfl) ?_ | refine eqL_rfl ?_ | refine eqJ_rfl ?_ | refine gE ?_ | refine seS_rfl ?_ | refine lsS_of hup ?_ | refine lsS_rfl ?_ | refine brS_tt ?_ | refine brS_ff ?_ | refine brS_not ?_ | refine gI ?_ | refine gT ?_ | refine gF ?_ | refine brS_intro (fun _ => ?_) (fun _ => ?_) | refine gL ?_ | refine gX ?_ | refine gO ?_ | refine gN ?_ | intro _)
    conv => whnf
    exact ⟨congrArg (fun z => Value.int .i64 (Int.ofNat z)) (e0.trans hI).symm, nM1⟩
end Go.Proofs.Ytefnljdfgjjpjaa
