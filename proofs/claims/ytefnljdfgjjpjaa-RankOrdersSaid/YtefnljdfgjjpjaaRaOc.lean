/- RankOrders: ordered. -/
import Derived.Test.YtefnljdfgjjpjaaRaOb
import Derived.KernelRfl
namespace Go.Proofs.Ytefnljdfgjjpjaa
open Go.Ab
attribute [local irreducible] aggOk drwOK
set_option maxRecDepth 100000
set_option maxHeartbeats 4000000
set_option linter.unusedVariables false
set_option linter.unusedSimpArgs false
theorem le1 {n : Nat} (h : 0 < n) (h2 : n ≤ 1000) (a : Int) : iLt (wr .i64 (Int.sub (Int.ofNat n) 1)) a = !(iLt a (Int.ofNat n)) := by
  rw [len1 h h2, iLt_eq, iLt_eq]
  by_cases e : a < (n : Int)
  · rw [show decide (a < Int.ofNat n) = true from decide_eq_true e]
    exact decide_eq_false (by show ¬ (((n - 1 : Nat) : Int) < a); omega)
  · rw [show decide (a < Int.ofNat n) = false from decide_eq_false e]
    exact decide_eq_true (by show ((n - 1 : Nat) : Int) < a; omega)
theorem iEq_f {a b : Int} (h : a ≠ b) : iEq a b = false := by rw [iEq_eq]; simpa using h
theorem iEq_t {a b : Int} (h : a = b) : iEq a b = true := by rw [iEq_eq]; simpa using h
theorem c54i (F k : Nat) (hF : 200 < F) (am : Option Addr) (n em cm : Nat) (x y : Nat → Int) (ao : Option Addr) (nO eo co : Nat) (o : Nat → Int) : ReadC (CL F (k + 3)) 54 [.sl 1000 am n cm, .sl 1001 ao nO co] [(1000, .ro am n em 2 (mi x y)), (1001, .ro ao nO eo 1 (oi o))] (100000 + 100) (.int .i64 (Int.ofNat (odE x y n nO o))) := by
  intro R
  rw [show 100000 + 100 = (100000) + 100 from rfl, addL_eq, ← Nat.add_assoc, ← addL_eq _ 100, Nat.add_comm R (100000)]
  have k22 := c22i F k hF am n em cm x y
  by_cases hck : ckE x y n = 0
  case neg =>
    have tk : iEq (Int.ofNat (ckE x y n)) 0 = false := (iEq_n (a := ckE x y n) (b := 0)).trans (decide_eq_false hck)
    have e0 : odE x y n nO o = ckE x y n := by unfold odE; rw [if_neg hck]
    refine call_in (n := 47) Try.func54 rfl rfl rfl rfl rfl rfl rfl ?_
    repeat' ((conv => whnf); first | refine eqS_rfl ?_ | refine eqA_rfl ?_ | refine eqA_of (by assumption) ?_ | refine eqS_of (by rfl) ?_ | refine eqL_rfl ?_ | refine eqJ_rfl ?_ | refine gE ?_ | refine seS_rfl ?_ | refine lsS_of hup ?_ | refine lsS_rfl ?_ | refine brS_tt ?_ | refine brS_ff ?_ | refine brS_not ?_ | refine gI ?_ | refine gT ?_ | refine gF ?_ | refine brS_intro (fun _ => ?_) (fun _ => ?_) | refine gL ?_ | refine gX ?_ | refine gO ?_ | refine gN ?_ | refine call_readL (k22) (addL (92000 + R) 0) (by rfl) (by exact SeesM.cons 1000 (sees_ro (i := 1000) (by rfl)) (SeesM.nil _) (fun _ _ _ _ _ _ x hx => by cases hx)) (nM1) ?_ | intro _)
    conv => whnf
    exact ⟨congrArg (fun z => Value.int .i64 (Int.ofNat z)) e0.symm, nM1⟩
  rw [hck] at k22
  obtain ⟨hn0, hn, hbd⟩ := ckE_ok hck
  by_cases hnO : nO = n
  case neg =>
    have tk : iEq (Int.ofNat nO) (Int.ofNat n) = false := iEq_n.trans (decide_eq_false hnO)
    have e0 : odE x y n nO o = 4 := by unfold odE; rw [if_pos hck, if_neg hnO]
    refine call_in (n := 47) Try.func54 rfl rfl rfl rfl rfl rfl rfl ?_
    repeat' ((conv => whnf); first | refine eqS_rfl ?_ | refine eqA_rfl ?_ | refine eqA_of (by assumption) ?_ | refine eqS_of (by rfl) ?_ | refine eqL_rfl ?_ | refine eqJ_rfl ?_ | refine gE ?_ | refine seS_rfl ?_ | refine lsS_of hup ?_ | refine lsS_rfl ?_ | refine brS_tt ?_ | refine brS_ff ?_ | refine brS_not ?_ | refine gI ?_ | refine gT ?_ | refine gF ?_ | refine brS_intro (fun _ => ?_) (fun _ => ?_) | refine gL ?_ | refine gX ?_ | refine gO ?_ | refine gN ?_ | refine call_readL (k22) (addL (92000 + R) 0) (by rfl) (by exact SeesM.cons 1000 (sees_ro (i := 1000) (by rfl)) (SeesM.nil _) (fun _ _ _ _ _ _ x hx => by cases hx)) (nM1) ?_ | intro _)
    conv => whnf
    exact ⟨congrArg (fun z => Value.int .i64 (Int.ofNat z)) e0.symm, nM1⟩
  subst hnO
  have e0 : odE x y nO nO o = fb (st1 o nO) nO := by unfold odE; rw [if_pos hck, if_pos rfl]
  generalize nO = n at *
  have t1 : iEq (Int.ofNat n) (Int.ofNat n) = true := iEq_self _
  refine call_in (n := 47) Try.func54 rfl rfl rfl rfl rfl rfl rfl ?_
  repeat' ((conv => whnf); first | refine eqS_rfl ?_ | refine eqA_rfl ?_ | refine eqA_of (by assumption) ?_ | refine eqS_of (by rfl) ?_ | refine eqL_rfl ?_ | refine eqJ_rfl ?_ | refine gE ?_ | refine seS_rfl ?_ | refine lsS_of hup ?_ | refine lsS_rfl ?_ | refine brS_tt ?_ | refine brS_ff ?_ | refine brS_not ?_ | refine gI ?_ | refine gT ?_ | refine gF ?_ | refine brS_intro (fun _ => ?_) (fun _ => ?_) | refine gL ?_ | refine gX ?_ | refine gO ?_ | refine gN ?_ | refine call_readL (k22) (addL (92000 + R) 0) (by rfl) (by exact SeesM.cons 1000 (sees_ro (i := 1000) (by rfl)) (SeesM.nil _) (fun _ _ _ _ _ _ x hx => by cases hx)) (nM1) ?_ | intro _)
  conv => whnf
  refine loS_i (fun jj f mm R' ni => ∃ j : Nat, j ≤ n ∧ fb (st1 o n) j = 0 ∧ jj = n - j + 1 ∧ f = [(0, .sl 1000 am n cm), (1, .sl 1001 ao n co), (6, .int .i64 (Int.ofNat j))] ∧ mm = [(1000, .ro am n em 2 (mi x y)), (1001, .ro ao n eo 1 (oi o))] ∧ R' = (addL (3000 * (n - j) + R) 60) ∧ ni = 10) (n + 1) (by omega)
    ⟨[(0, .sl 1000 am n cm), (1, .sl 1001 ao n co), (6, .int .i64 (Int.ofNat 0))], [(1000, .ro am n em 2 (mi x y)), (1001, .ro ao n eo 1 (oi o))], (addL (3000 * (n - 0) + R) 60), 10, ⟨eqF_rfl _, eqF_rfl _, eqF_rfl _, trivial⟩, WkM.refl _, nM1, 0, by omega, rfl, by omega, rfl, rfl, rfl, rfl⟩ ?_
  rintro _ _ _ _ _ ⟨j, hj, hI, rfl, rfl, rfl, rfl, rfl⟩
  have hok := fun i hi => st1_ok (fb_zero hI i hi)
  by_cases hlt : j < n
  · have h1 := iLt_t hlt
    cases g : (!(iLt (o j) 0) && iLt (o j) (Int.ofNat n)) with
    | false =>
      have hb : st1 o n j = 6 := by unfold st1; rw [g, cond_false]
      have e := fb_stop (f := st1 o n) hlt hI (by rw [hb]; decide)
      have hbb : (!(iLt (o j) 0) && !(iLt (wr .i64 (Int.sub (Int.ofNat n) 1)) (o j))) = false := by rw [le1 hn0 (by omega), Bool.not_not]; exact g
      repeat' ((conv => whnf); first | refine eqS_rfl ?_ | refine eqA_rfl ?_ | refine eqA_of (by assumption) ?_ | refine eqS_of (by rfl) ?_ | refine eqL_rfl ?_ | refine eqJ_rfl ?_ | refine gE ?_ | refine seS_rfl ?_ | refine lsS_of hup ?_ | refine lsS_rfl ?_ | refine brS_tt ?_ | refine brS_ff ?_ | refine brS_not ?_ | refine gI ?_ | refine gT ?_ | refine gF ?_ | refine brS_intro (fun _ => ?_) (fun _ => ?_) | refine gL ?_ | refine gX ?_ | refine gO ?_ | refine gN ?_ | refine call_pure (c58 F _ (o j) 0 (wr .i64 (Int.sub (Int.ofNat n) 1)) _ hbb) ?_ | intro _)
      conv => whnf
      exact ⟨congrArg (fun z => Value.int .i64 (Int.ofNat z)) (e0.trans (e.trans hb)).symm, nM1⟩
    | true =>
      have hbb : (!(iLt (o j) 0) && !(iLt (wr .i64 (Int.sub (Int.ofNat n) 1)) (o j))) = true := by rw [le1 hn0 (by omega), Bool.not_not]; exact g
      repeat' ((conv => whnf); first | refine eqS_rfl ?_ | refine eqA_rfl ?_ | refine eqA_of (by assumption) ?_ | refine eqS_of (by rfl) ?_ | refine eqL_rfl ?_ | refine eqJ_rfl ?_ | refine gE ?_ | refine seS_rfl ?_ | refine lsS_of hup ?_ | refine lsS_rfl ?_ | refine brS_tt ?_ | refine brS_ff ?_ | refine brS_not ?_ | refine gI ?_ | refine gT ?_ | refine gF ?_ | refine brS_intro (fun _ => ?_) (fun _ => ?_) | refine gL ?_ | refine gX ?_ | refine gO ?_ | refine gN ?_ | refine call_pure (c58 F _ (o j) 0 (wr .i64 (Int.sub (Int.ofNat n) 1)) _ hbb) ?_ | intro _)
      conv => whnf
      refine loS_i (fun jj f mm R' ni => ∃ i : Nat, i ≤ j ∧ (∀ z, z < i → o z ≠ o j) ∧ jj = j - i + 1 ∧ f = [(0, .sl 1000 am n cm), (1, .sl 1001 ao n co), (6, .int .i64 (Int.ofNat j)), (7, .int .i64 (Int.ofNat i))] ∧ mm = [(1000, .ro am n em 2 (mi x y)), (1001, .ro ao n eo 1 (oi o))] ∧ R' = (addL (60 * (j - i) + (3000 * (n - (j + 1)) + R)) 120) ∧ ni = 10) (j + 1) (by omega)
        ⟨[(0, .sl 1000 am n cm), (1, .sl 1001 ao n co), (6, .int .i64 (Int.ofNat j)), (7, .int .i64 (Int.ofNat 0))], [(1000, .ro am n em 2 (mi x y)), (1001, .ro ao n eo 1 (oi o))], (addL (60 * (j - 0) + (3000 * (n - (j + 1)) + R)) 120), 10, ⟨eqF_rfl _, eqF_rfl _, eqF_rfl _, eqF_rfl _, trivial⟩, WkM.refl _, nM1, 0, by omega, fun z hz => by omega, by omega, rfl, rfl, rfl, rfl⟩ ?_
      rintro _ _ _ _ _ ⟨i, hij, hz, rfl, rfl, rfl, rfl, rfl⟩
      by_cases hi : i < j
      · have h2 := iLt_t hi
        have hin : i < n := by omega
        by_cases ee : o i = o j
        · have t2 := iEq_t ee
          have hb1 : st1 o n j = 7 := by unfold st1; rw [g, cond_true, if_pos ⟨i, hi, ee⟩]
          have e := fb_stop (f := st1 o n) hlt hI (by rw [hb1]; decide)
          repeat' ((conv => whnf); first | refine eqS_rfl ?_ | refine eqA_rfl ?_ | refine eqA_of (by assumption) ?_ | refine eqS_of (by rfl) ?_ | refine eqL_rfl ?_ | refine eqJ_rfl ?_ | refine gE ?_ | refine seS_rfl ?_ | refine lsS_of hup ?_ | refine lsS_rfl ?_ | refine brS_tt ?_ | refine brS_ff ?_ | refine brS_not ?_ | refine gI ?_ | refine gT ?_ | refine gF ?_ | refine brS_intro (fun _ => ?_) (fun _ => ?_) | refine gL ?_ | refine gX ?_ | refine gO ?_ | refine gN ?_ | intro _)
          conv => whnf
          exact ⟨congrArg (fun z => Value.int .i64 (Int.ofNat z)) (e0.trans (e.trans hb1)).symm, nM1⟩
        · have t2 := iEq_f ee
          repeat' ((conv => whnf); first | refine eqS_rfl ?_ | refine eqA_rfl ?_ | refine eqA_of (by assumption) ?_ | refine eqS_of (by rfl) ?_ | refine eqL_rfl ?_ | refine eqJ_rfl ?_ | refine gE ?_ | refine seS_rfl ?_ | refine lsS_of hup ?_ | refine lsS_rfl ?_ | refine brS_tt ?_ | refine brS_ff ?_ | refine brS_not ?_ | refine gI ?_ | refine gT ?_ | refine gF ?_ | refine brS_intro (fun _ => ?_) (fun _ => ?_) | refine gL ?_ | refine gX ?_ | refine gO ?_ | refine gN ?_ | intro _)
          conv => whnf
          exact ⟨j - (i + 1) + 1, [(0, .sl 1000 am n cm), (1, .sl 1001 ao n co), (6, .int .i64 (Int.ofNat j)), (7, .int .i64 (Int.ofNat (i + 1)))], _, (addL (60 * (j - (i + 1)) + (3000 * (n - (j + 1)) + R)) 120), 10, by omega, ⟨eqF_rfl _, eqF_rfl _, eqF_rfl _, ⟨congrArg (Value.int .i64) (smn (i := i + 1) (by omega)), rfl⟩, trivial⟩, WkM.refl _, nM1, i + 1, by omega, fun z h => by
            by_cases e : z = i
            · rw [e]; exact ee
            · exact hz z (by omega), rfl, rfl, rfl, rfl, rfl⟩
      · have e2 : j = i := by omega
        subst e2
        have h2 := iLt_f (Nat.le_refl j)
        have hb1 : st1 o n j = 0 := by
          unfold st1
          rw [g, cond_true, if_neg]
          rintro ⟨i, hi, ei⟩
          exact hz i hi ei
        repeat' ((conv => whnf); first | refine eqS_rfl ?_ | refine eqA_rfl ?_ | refine eqA_of (by assumption) ?_ | refine eqS_of (by rfl) ?_ | refine eqL_rfl ?_ | refine eqJ_rfl ?_ | refine gE ?_ | refine seS_rfl ?_ | refine lsS_of hup ?_ | refine lsS_rfl ?_ | refine brS_tt ?_ | refine brS_ff ?_ | refine brS_not ?_ | refine gI ?_ | refine gT ?_ | refine gF ?_ | refine brS_intro (fun _ => ?_) (fun _ => ?_) | refine gL ?_ | refine gX ?_ | refine gO ?_ | refine gN ?_ | intro _)
        conv => whnf
        exact ⟨n - (j + 1) + 1, [(0, .sl 1000 am n cm), (1, .sl 1001 ao n co), (6, .int .i64 (Int.ofNat (j + 1)))], _, (addL (3000 * (n - (j + 1)) + R) 60), 10, by omega, ⟨eqF_rfl _, eqF_rfl _, ⟨congrArg (Value.int .i64) (smn (i := j + 1) (by omega)), rfl⟩, trivial⟩, WkM.refl _, nM1, j + 1, by omega, fb_next hI hb1, rfl, rfl, rfl, rfl, rfl⟩
  · have e2 : n = j := by omega
    subst e2
    have h1 := iLt_f (Nat.le_refl n)
    repeat' ((conv => whnf); first | refine eqS_rfl ?_ | refine eqA_rfl ?_ | refine eqA_of (by assumption) ?_ | refine eqS_of (by rfl) ?_ | refine eqL_rfl ?_ | refine eqJ_rfl ?_ | refine gE ?_ | refine seS_rfl ?_ | refine lsS_of hup ?_ | refine lsS_rfl ?_ | refine brS_tt ?_ | refine brS_ff ?_ | refine brS_not ?_ | refine gI ?_ | refine gT ?_ | refine gF ?_ | refine brS_intro (fun _ => ?_) (fun _ => ?_) | refine gL ?_ | refine gX ?_ | refine gO ?_ | refine gN ?_ | intro _)
    conv => whnf
    exact ⟨congrArg (fun z => Value.int .i64 (Int.ofNat z)) (e0.trans hI).symm, nM1⟩
end Go.Proofs.Ytefnljdfgjjpjaa
