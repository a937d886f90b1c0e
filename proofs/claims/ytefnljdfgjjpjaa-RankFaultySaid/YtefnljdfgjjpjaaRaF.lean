/- Rank: the law: what can rise. -/
import Derived.Test.YtefnljdfgjjpjaaRaE
import Derived.KernelRfl
namespace Go.Proofs.Ytefnljdfgjjpjaa
open Go.Ab
attribute [local irreducible] aggOk drwOK
set_option maxRecDepth 100000
set_option maxHeartbeats 4000000
set_option linter.unusedVariables false
set_option linter.unusedSimpArgs false
/-- the smallest range that is left to a day -/
def lsM (lo o : Nat → Nat) : Nat → Nat
  | 0 => 0
  | j + 1 => max (lsM lo o j) (lo (o j))
theorem lsM_le {lo o : Nat → Nat} {B : Nat} : ∀ {j : Nat}, (∀ i, i < j → lo (o i) ≤ B) → lsM lo o j ≤ B
  | 0, _ => Nat.zero_le _
  | j + 1, h => Nat.max_le.2 ⟨lsM_le fun i hi => h i (by omega), h j (by omega)⟩
theorem le_lsM {lo o : Nat → Nat} {i : Nat} : ∀ {j : Nat}, i < j → lo (o i) ≤ lsM lo o j
  | 0, h => by omega
  | j + 1, h => by
    by_cases e : i = j
    · subst e; exact Nat.le_max_right _ _
    · exact Nat.le_trans (le_lsM (show i < j by omega)) (Nat.le_max_left _ _)
theorem max_eq (a b : Nat) : (bif iLt (Int.ofNat a) (Int.ofNat b) then Int.ofNat b else Int.ofNat a) = Int.ofNat (max a b) := by
  rw [iLt_n]
  by_cases h : a < b
  · rw [decide_eq_true h, cond_true, Nat.max_eq_right (by omega)]
  · rw [decide_eq_false h, cond_false, Nat.max_eq_left (by omega)]
/-- whether ranges can rise along an order -/
theorem c46 (F k : Nat) (hF : 200 < F) (am : Option Addr) (n em cm : Nat) (lo hi : Nat → Nat) (hn : n ≤ 60) (ao : Option Addr) (eo co : Nat) (o : Nat → Nat) (ho : ∀ j, j < n → o j < n) (h : ∀ j, j < n → lsM lo o (j + 1) ≤ hi (o j)) : ReadC (CL F (k + 1)) 46 [.sl 1000 am n cm, .sl 1001 ao n co] [(1000, .ro am n em 2 (mf lo hi)), (1001, .ro ao n eo 1 (nf o))] (2000 + 100) (.bool true) := by
  intro R
  rw [show 2000 + 100 = (2000) + 100 from rfl, addL_eq, ← Nat.add_assoc, ← addL_eq _ 100, Nat.add_comm R (2000)]
  refine call_in (n := 29) Try.func46 rfl rfl rfl rfl rfl rfl rfl ?_
  repeat' ((conv => whnf); first | refine eqS_rfl ?_ | refine eqA_rfl ?_ | refine eqA_of (by assumption) ?_ | refine eqS_of (by rfl) ?_ | refine eqL_rfl ?_ | refine eqJ_rfl ?_ | refine gE ?_ | refine seS_rfl ?_ | refine lsS_of hup ?_ | refine lsS_rfl ?_ | refine brS_tt ?_ | refine brS_ff ?_ | refine brS_not ?_ | refine gI ?_ | refine gT ?_ | refine gF ?_ | refine brS_intro (fun _ => ?_) (fun _ => ?_) | refine gL ?_ | refine gX ?_ | refine gO ?_ | refine gN ?_ | intro _)
  conv => whnf
  refine loS_i (fun jj f mm R' ni => ∃ j : Nat, j ≤ n ∧ jj = n - j + 1 ∧ f = [(0, .sl 1000 am n cm), (1, .sl 1001 ao n co), (5, .int .i64 (Int.ofNat (lsM lo o j))), (8, .sl 1001 ao n co), (9, .int .i64 (Int.ofNat n)), (10, .int .i64 (Int.ofNat j))] ∧ mm = [(1000, .ro am n em 2 (mf lo hi)), (1001, .ro ao n eo 1 (nf o))] ∧ R' = (addL (20 * (n - j) + R) 20) ∧ ni = 10) (n + 1) (by omega)
    ⟨[(0, .sl 1000 am n cm), (1, .sl 1001 ao n co), (5, .int .i64 (Int.ofNat (lsM lo o 0))), (8, .sl 1001 ao n co), (9, .int .i64 (Int.ofNat n)), (10, .int .i64 (Int.ofNat 0))], [(1000, .ro am n em 2 (mf lo hi)), (1001, .ro ao n eo 1 (nf o))], (addL (20 * (n - 0) + R) 20), 10, ⟨eqF_rfl _, eqF_rfl _, eqF_rfl _, eqF_rfl _, eqF_rfl _, eqF_rfl _, trivial⟩, WkM.refl _, nM1, 0, by omega, by omega, rfl, rfl, rfl, rfl⟩ ?_
  rintro _ _ _ _ _ ⟨j, hj, rfl, rfl, rfl, rfl, rfl⟩
  by_cases hlt : j < n
  · have h1 := iLt_t hlt
    have g1 := ho j hlt
    have hh : iLt (Int.ofNat (hi (o j))) (bif iLt (Int.ofNat (lsM lo o j)) (Int.ofNat (lo (o j))) then Int.ofNat (lo (o j)) else Int.ofNat (lsM lo o j)) = false := by
      rw [max_eq]; exact iLt_f (h j hlt)
    repeat' ((conv => whnf); first | refine eqS_rfl ?_ | refine eqA_rfl ?_ | refine eqA_of (by assumption) ?_ | refine eqS_of (by rfl) ?_ | refine eqL_rfl ?_ | refine eqJ_rfl ?_ | refine gE ?_ | refine seS_rfl ?_ | refine lsS_of hup ?_ | refine lsS_rfl ?_ | refine brS_tt ?_ | refine brS_ff ?_ | refine brS_not ?_ | refine gI ?_ | refine gT ?_ | refine gF ?_ | refine brS_intro (fun _ => ?_) (fun _ => ?_) | refine gL ?_ | refine gX ?_ | refine gO ?_ | refine gN ?_ | intro _)
    conv => whnf
    exact ⟨n - (j + 1) + 1, [(0, .sl 1000 am n cm), (1, .sl 1001 ao n co), (5, .int .i64 (Int.ofNat (lsM lo o (j + 1)))), (8, .sl 1001 ao n co), (9, .int .i64 (Int.ofNat n)), (10, .int .i64 (Int.ofNat (j + 1)))], _, (addL (20 * (n - (j + 1)) + R) 20), 10, by omega, ⟨eqF_rfl _, eqF_rfl _, ⟨congrArg (Value.int .i64) (max_eq _ _), rfl⟩, eqF_rfl _, eqF_rfl _, ⟨congrArg (Value.int .i64) (smn (i := j + 1) (by omega)), rfl⟩, trivial⟩, WkM.refl _, nM1, j + 1, by omega, rfl, rfl, rfl, rfl, rfl⟩
  · have e2 : n = j := by omega
    subst e2
    have h1 := iLt_f (Nat.le_refl n)
    repeat' ((conv => whnf); first | refine eqS_rfl ?_ | refine eqA_rfl ?_ | refine eqA_of (by assumption) ?_ | refine eqS_of (by rfl) ?_ | refine eqL_rfl ?_ | refine eqJ_rfl ?_ | refine gE ?_ | refine seS_rfl ?_ | refine lsS_of hup ?_ | refine lsS_rfl ?_ | refine brS_tt ?_ | refine brS_ff ?_ | refine brS_not ?_ | refine gI ?_ | refine gT ?_ | refine gF ?_ | refine brS_intro (fun _ => ?_) (fun _ => ?_) | refine gL ?_ | refine gX ?_ | refine gO ?_ | refine gN ?_ | intro _)
    conv => whnf
    exact ⟨rfl, nM1⟩
theorem c46f (F k : Nat) (hF : 200 < F) (am : Option Addr) (n em cm : Nat) (lo hi : Nat → Nat) (hn : n ≤ 60) (ao : Option Addr) (eo co : Nat) (o : Nat → Nat) (ho : ∀ j, j < n → o j < n) (q : Nat) (hq : q < n) (h : hi (o q) < lsM lo o (q + 1)) (hb : ∀ j, j < q → lsM lo o (j + 1) ≤ hi (o j)) : ReadC (CL F (k + 1)) 46 [.sl 1000 am n cm, .sl 1001 ao n co] [(1000, .ro am n em 2 (mf lo hi)), (1001, .ro ao n eo 1 (nf o))] (2000 + 100) (.bool false) := by
  intro R
  rw [show 2000 + 100 = (2000) + 100 from rfl, addL_eq, ← Nat.add_assoc, ← addL_eq _ 100, Nat.add_comm R (2000)]
  refine call_in (n := 29) Try.func46 rfl rfl rfl rfl rfl rfl rfl ?_
  repeat' ((conv => whnf); first | refine eqS_rfl ?_ | refine eqA_rfl ?_ | refine eqA_of (by assumption) ?_ | refine eqS_of (by rfl) ?_ | refine eqL_rfl ?_ | refine eqJ_rfl ?_ | refine gE ?_ | refine seS_rfl ?_ | refine lsS_of hup ?_ | refine lsS_rfl ?_ | refine brS_tt ?_ | refine brS_ff ?_ | refine brS_not ?_ | refine gI ?_ | refine gT ?_ | refine gF ?_ | refine brS_intro (fun _ => ?_) (fun _ => ?_) | refine gL ?_ | refine gX ?_ | refine gO ?_ | refine gN ?_ | intro _)
  conv => whnf
  refine loS_i (fun jj f mm R' ni => ∃ j : Nat, j ≤ q ∧ jj = n - j + 1 ∧ f = [(0, .sl 1000 am n cm), (1, .sl 1001 ao n co), (5, .int .i64 (Int.ofNat (lsM lo o j))), (8, .sl 1001 ao n co), (9, .int .i64 (Int.ofNat n)), (10, .int .i64 (Int.ofNat j))] ∧ mm = [(1000, .ro am n em 2 (mf lo hi)), (1001, .ro ao n eo 1 (nf o))] ∧ R' = (addL (20 * (n - j) + R) 20) ∧ ni = 10) (n + 1) (by omega)
    ⟨[(0, .sl 1000 am n cm), (1, .sl 1001 ao n co), (5, .int .i64 (Int.ofNat (lsM lo o 0))), (8, .sl 1001 ao n co), (9, .int .i64 (Int.ofNat n)), (10, .int .i64 (Int.ofNat 0))], [(1000, .ro am n em 2 (mf lo hi)), (1001, .ro ao n eo 1 (nf o))], (addL (20 * (n - 0) + R) 20), 10, ⟨eqF_rfl _, eqF_rfl _, eqF_rfl _, eqF_rfl _, eqF_rfl _, eqF_rfl _, trivial⟩, WkM.refl _, nM1, 0, by omega, by omega, rfl, rfl, rfl, rfl⟩ ?_
  rintro _ _ _ _ _ ⟨j, hj, rfl, rfl, rfl, rfl, rfl⟩
  have hlt : j < n := by omega
  have h1 := iLt_t hlt
  have g1 := ho j hlt
  by_cases e : j = q
  · subst e
    have hh : iLt (Int.ofNat (hi (o j))) (bif iLt (Int.ofNat (lsM lo o j)) (Int.ofNat (lo (o j))) then Int.ofNat (lo (o j)) else Int.ofNat (lsM lo o j)) = true := by
      rw [max_eq]; exact iLt_t h
    repeat' ((conv => whnf); first | refine eqS_rfl ?_ | refine eqA_rfl ?_ | refine eqA_of (by assumption) ?_ | refine eqS_of (by rfl) ?_ | refine eqL_rfl ?_ | refine eqJ_rfl ?_ | refine gE ?_ | refine seS_rfl ?_ | refine lsS_of hup ?_ | refine lsS_rfl ?_ | refine brS_tt ?_ | refine brS_ff ?_ | refine brS_not ?_ | refine gI ?_ | refine gT ?_ | refine gF ?_ | refine brS_intro (fun _ => ?_) (fun _ => ?_) | refine gL ?_ | refine gX ?_ | refine gO ?_ | refine gN ?_ | intro _)
    conv => whnf
    exact ⟨rfl, nM1⟩
  · have hh : iLt (Int.ofNat (hi (o j))) (bif iLt (Int.ofNat (lsM lo o j)) (Int.ofNat (lo (o j))) then Int.ofNat (lo (o j)) else Int.ofNat (lsM lo o j)) = false := by
      rw [max_eq]; exact iLt_f (hb j (by omega))
    repeat' ((conv => whnf); first | refine eqS_rfl ?_ | refine eqA_rfl ?_ | refine eqA_of (by assumption) ?_ | refine eqS_of (by rfl) ?_ | refine eqL_rfl ?_ | refine eqJ_rfl ?_ | refine gE ?_ | refine seS_rfl ?_ | refine lsS_of hup ?_ | refine lsS_rfl ?_ | refine brS_tt ?_ | refine brS_ff ?_ | refine brS_not ?_ | refine gI ?_ | refine gT ?_ | refine gF ?_ | refine brS_intro (fun _ => ?_) (fun _ => ?_) | refine gL ?_ | refine gX ?_ | refine gO ?_ | refine gN ?_ | intro _)
    conv => whnf
    exact ⟨n - (j + 1) + 1, [(0, .sl 1000 am n cm), (1, .sl 1001 ao n co), (5, .int .i64 (Int.ofNat (lsM lo o (j + 1)))), (8, .sl 1001 ao n co), (9, .int .i64 (Int.ofNat n)), (10, .int .i64 (Int.ofNat (j + 1)))], _, (addL (20 * (n - (j + 1)) + R) 20), 10, by omega, ⟨eqF_rfl _, eqF_rfl _, ⟨congrArg (Value.int .i64) (max_eq _ _), rfl⟩, eqF_rfl _, eqF_rfl _, ⟨congrArg (Value.int .i64) (smn (i := j + 1) (by omega)), rfl⟩, trivial⟩, WkM.refl _, nM1, j + 1, by omega, rfl, rfl, rfl, rfl, rfl⟩
/-- ranges can rise, or there is a first fault, and a first day at which they cannot -/
theorem rise_or {lo hi o : Nat → Nat} {n : Nat} (hlh : ∀ j, j < n → lo (o j) ≤ hi (o j)) : ((∀ j, j < n → lsM lo o (j + 1) ≤ hi (o j)) ∧ ∀ p q, p < n → q < n → isF lo hi o p q = false) ∨
    ((∃ q, q < n ∧ hi (o q) < lsM lo o (q + 1) ∧ ∀ j, j < q → lsM lo o (j + 1) ≤ hi (o j)) ∧ ∃ p q, Fst (isF lo hi o) n p q) := by
  rcases fst_or (isF lo hi o) n with ⟨p, q, h⟩ | h
  · right
    refine ⟨?_, p, q, h⟩
    have ht := h.ht
    unfold isF qt at ht
    rw [Bool.and_eq_true, decide_eq_true_eq, decide_eq_true_eq] at ht
    have hbad : hi (o q) < lsM lo o (q + 1) := Nat.lt_of_lt_of_le ht.2 (le_lsM (by omega))
    have key : ∀ m q, q < m → q < n → hi (o q) < lsM lo o (q + 1) → ∃ q, q < n ∧ hi (o q) < lsM lo o (q + 1) ∧ ∀ j, j < q → lsM lo o (j + 1) ≤ hi (o j) := by
      intro m
      induction m with
      | zero => intro q hq; omega
      | succ m ih =>
        intro q hq hqn hb
        by_cases h2 : ∃ i, i < q ∧ hi (o i) < lsM lo o (i + 1)
        · obtain ⟨i, hi', h3⟩ := h2
          exact ih i (by omega) (by omega) h3
        · exact ⟨q, hqn, hb, fun j hj => Nat.not_lt.1 fun h3 => h2 ⟨j, hj, h3⟩⟩
    exact key _ q (Nat.lt_succ_self _) h.hq hbad
  · left
    refine ⟨fun j hj => lsM_le fun i hi' => ?_, h⟩
    by_cases e : i = j
    · subst e; exact hlh i hj
    · have := h i j (by omega) hj
      unfold isF qt at this
      rw [decide_eq_true (show i < j by omega), Bool.true_and, decide_eq_false_iff_not] at this
      omega
end Go.Proofs.Ytefnljdfgjjpjaa
