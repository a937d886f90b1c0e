/- Rank: faults. -/
import Derived.Test.YtefnljdfgjjpjaaRaA
import Derived.KernelRfl
namespace Go.Proofs.Ytefnljdfgjjpjaa
open Go.Ab
attribute [local irreducible] aggOk drwOK
set_option maxRecDepth 100000
set_option maxHeartbeats 4000000
set_option linter.unusedVariables false
set_option linter.unusedSimpArgs false
/-- two indices of an order are a fault -/
def isF (lo hi o : Nat → Nat) (p q : Nat) : Bool := decide (p < q) && qt lo hi (o q) (o p)
theorem c57 (F k : Nat) (am : Option Addr) (n em cm : Nat) (lo hi : Nat → Nat) (ao : Option Addr) (eo co : Nat) (o : Nat → Nat) (ho : ∀ j, j < n → o j < n) (p q : Nat) (hp : p < n) (hq : q < n) : ReadC (CL F (k + 2)) 57 [.sl 1000 am n cm, .sl 1001 ao n co, .int .i64 (Int.ofNat p), .int .i64 (Int.ofNat q)] [(1000, .ro am n em 2 (mf lo hi)), (1001, .ro ao n eo 1 (nf o))] 60 (.bool (isF lo hi o p q)) := by
  intro R
  rw [show (60 : Nat) = 40 + 20 from rfl, addL_eq, ← Nat.add_assoc, ← addL_eq _ 20, Nat.add_comm R]
  have g1 := ho p hp
  have g2 := ho q hq
  by_cases h : p < q
  · have h1 := iLt_t h
    refine call_in (n := 24) Try.func57 rfl rfl rfl rfl rfl rfl rfl ?_
    repeat' ((conv => whnf); first | refine eqS_rfl ?_ | refine eqA_rfl ?_ | refine eqA_of (by assumption) ?_ | refine eqS_of (by rfl) ?_ | refine eqL_rfl ?_ | refine eqJ_rfl ?_ | refine gE ?_ | refine seS_rfl ?_ | refine lsS_of hup ?_ | refine lsS_rfl ?_ | refine brS_tt ?_ | refine brS_ff ?_ | refine brS_not ?_ | refine gI ?_ | refine gT ?_ | refine gF ?_ | refine brS_intro (fun _ => ?_) (fun _ => ?_) | refine gL ?_ | refine gX ?_ | refine gO ?_ | refine gN ?_ | refine call_readL (c81 F _ am n em cm lo hi (o q) (o p) g2 g1) (addL R 20) (by rfl) (by exact SeesM.cons 1000 (sees_ro (i := 1000) (by rfl)) (SeesM.nil _) (fun _ _ _ _ _ _ x hx => by cases hx)) (nM1) ?_ | intro _)
    conv => whnf
    exact ⟨by show Value.bool _ = Value.bool _; unfold isF; rw [decide_eq_true h, Bool.true_and], nM1⟩
  · have h1 := iLt_f (Nat.not_lt.1 h)
    refine call_in (n := 24) Try.func57 rfl rfl rfl rfl rfl rfl rfl ?_
    repeat' ((conv => whnf); first | refine eqS_rfl ?_ | refine eqA_rfl ?_ | refine eqA_of (by assumption) ?_ | refine eqS_of (by rfl) ?_ | refine eqL_rfl ?_ | refine eqJ_rfl ?_ | refine gE ?_ | refine seS_rfl ?_ | refine lsS_of hup ?_ | refine lsS_rfl ?_ | refine brS_tt ?_ | refine brS_ff ?_ | refine brS_not ?_ | refine gI ?_ | refine gT ?_ | refine gF ?_ | refine brS_intro (fun _ => ?_) (fun _ => ?_) | refine gL ?_ | refine gX ?_ | refine gO ?_ | refine gN ?_ | intro _)
    conv => whnf
    exact ⟨by show Value.bool _ = Value.bool _; unfold isF; rw [decide_eq_false h, Bool.false_and], nM1⟩
/-- the first fault -/
structure Fst (f : Nat → Nat → Bool) (n p q : Nat) : Prop where
  hp : p < n
  hq : q < n
  ht : f p q = true
  hb : ∀ i k, k < n → (i < p ∨ (i = p ∧ k < q)) → f i k = false
theorem fst_or (f : Nat → Nat → Bool) (n : Nat) : (∃ p q, Fst f n p q) ∨ ∀ p q, p < n → q < n → f p q = false := by
  by_cases h : ∃ p, p < n ∧ ∃ q, q < n ∧ f p q = true
  · have key : ∀ m p, p < m → p < n → (∃ q, q < n ∧ f p q = true) → ∃ p, p < n ∧ (∃ q, q < n ∧ f p q = true) ∧ ∀ i, i < p → ¬ ∃ q, q < n ∧ f i q = true := by
      intro m
      induction m with
      | zero => intro p hp; omega
      | succ m ih =>
        intro p hp hpn hq
        by_cases h2 : ∃ i, i < p ∧ ∃ q, q < n ∧ f i q = true
        · obtain ⟨i, hi, hq2⟩ := h2
          exact ih i (by omega) (by omega) hq2
        · exact ⟨p, hpn, hq, fun i hi hh => h2 ⟨i, hi, hh⟩⟩
    have key2 : ∀ p m q, q < m → q < n → f p q = true → ∃ q, q < n ∧ f p q = true ∧ ∀ k, k < q → ¬ f p k = true := by
      intro p m
      induction m with
      | zero => intro q hq; omega
      | succ m ih =>
        intro q hq hqn hf
        by_cases h2 : ∃ i, i < q ∧ f p i = true
        · obtain ⟨i, hi, hq2⟩ := h2
          exact ih i (by omega) (by omega) hq2
        · exact ⟨q, hqn, hf, fun i hi hh => h2 ⟨i, hi, hh⟩⟩
    obtain ⟨p0, hp0, hq0⟩ := h
    obtain ⟨p, hp, ⟨q1, hq1, hf1⟩, hb⟩ := key _ p0 (Nat.lt_succ_self _) hp0 hq0
    obtain ⟨q, hq, hf, hb2⟩ := key2 p _ q1 (Nat.lt_succ_self _) hq1 hf1
    refine .inl ⟨p, q, hp, hq, hf, fun i k hk hik => ?_⟩
    rcases hik with hi | ⟨rfl, hi⟩
    · exact bool_tf fun hh => hb i hi ⟨k, hk, hh⟩
    · exact bool_tf fun hh => hb2 k hi hh
  · exact .inr fun p q hp hq => bool_tf fun hh => h ⟨p, hp, q, hq, hh⟩
theorem c53 (F k : Nat) (hF : 200 < F) (am : Option Addr) (n em cm : Nat) (lo hi : Nat → Nat) (ao : Option Addr) (eo co : Nat) (o : Nat → Nat) (hn : n ≤ 60) (ho : ∀ j, j < n → o j < n) (p q : Nat) (h : Fst (isF lo hi o) n p q) : ReadC (CL F (k + 3)) 53 [.sl 1000 am n cm, .sl 1001 ao n co] [(1000, .ro am n em 2 (mf lo hi)), (1001, .ro ao n eo 1 (nf o))] (400000 + 100) (.tup [.int .i64 (Int.ofNat p), .int .i64 (Int.ofNat q), .bool true]) := by
  have hp := h.hp
  have hq := h.hq
  intro R
  rw [show 400000 + 100 = (400000) + 100 from rfl, addL_eq, ← Nat.add_assoc, ← addL_eq _ 100, Nat.add_comm R (400000)]
  refine call_in (n := 28) Try.func53 rfl rfl rfl rfl rfl rfl rfl ?_
  repeat' ((conv => whnf); first | refine eqS_rfl ?_ | refine eqA_rfl ?_ | refine eqA_of (by assumption) ?_ | refine eqS_of (by rfl) ?_ | refine eqL_rfl ?_ | refine eqJ_rfl ?_ | refine gE ?_ | refine seS_rfl ?_ | refine lsS_of hup ?_ | refine lsS_rfl ?_ | refine brS_tt ?_ | refine brS_ff ?_ | refine brS_not ?_ | refine gI ?_ | refine gT ?_ | refine gF ?_ | refine brS_intro (fun _ => ?_) (fun _ => ?_) | refine gL ?_ | refine gX ?_ | refine gO ?_ | refine gN ?_ | intro _)
  conv => whnf
  refine loS_i (fun jj f mm R' ni => ∃ j : Nat, j ≤ p ∧ jj = n - j + 1 ∧ f = [(0, .sl 1000 am n cm), (1, .sl 1001 ao n co), (10, .int .i64 (Int.ofNat n)), (11, .int .i64 (Int.ofNat j))] ∧ mm = [(1000, .ro am n em 2 (mf lo hi)), (1001, .ro ao n eo 1 (nf o))] ∧ R' = (addL (6100 * (n - j) + R) 20) ∧ ni = 10) (n + 1) (by omega)
    ⟨[(0, .sl 1000 am n cm), (1, .sl 1001 ao n co), (10, .int .i64 (Int.ofNat n)), (11, .int .i64 (Int.ofNat 0))], [(1000, .ro am n em 2 (mf lo hi)), (1001, .ro ao n eo 1 (nf o))], (addL (6100 * (n - 0) + R) 20), 10, ⟨eqF_rfl _, eqF_rfl _, eqF_rfl _, eqF_rfl _, trivial⟩, WkM.refl _, nM1, 0, by omega, by omega, rfl, rfl, rfl, rfl⟩ ?_
  rintro _ _ _ _ _ ⟨j, hj, rfl, rfl, rfl, rfl, rfl⟩
  have hlt : j < n := by omega
  have h1 := iLt_t hlt
  repeat' ((conv => whnf); first | refine eqS_rfl ?_ | refine eqA_rfl ?_ | refine eqA_of (by assumption) ?_ | refine eqS_of (by rfl) ?_ | refine eqL_rfl ?_ | refine eqJ_rfl ?_ | refine gE ?_ | refine seS_rfl ?_ | refine lsS_of hup ?_ | refine lsS_rfl ?_ | refine brS_tt ?_ | refine brS_ff ?_ | refine brS_not ?_ | refine gI ?_ | refine gT ?_ | refine gF ?_ | refine brS_intro (fun _ => ?_) (fun _ => ?_) | refine gL ?_ | refine gX ?_ | refine gO ?_ | refine gN ?_ | intro _)
  conv => whnf
  refine loS_i (fun jj f mm R' ni => ∃ i : Nat, i ≤ n ∧ (j = p → i ≤ q) ∧ jj = n - i + 1 ∧ f = [(0, .sl 1000 am n cm), (1, .sl 1001 ao n co), (10, .int .i64 (Int.ofNat n)), (11, .int .i64 (Int.ofNat j)), (7, .int .i64 (Int.ofNat j)), (15, .int .i64 (Int.ofNat n)), (16, .int .i64 (Int.ofNat i))] ∧ mm = [(1000, .ro am n em 2 (mf lo hi)), (1001, .ro ao n eo 1 (nf o))] ∧ R' = (addL (100 * (n - i) + (6100 * (n - (j + 1)) + R)) 60) ∧ ni = 10) (n + 1) (by omega)
    ⟨[(0, .sl 1000 am n cm), (1, .sl 1001 ao n co), (10, .int .i64 (Int.ofNat n)), (11, .int .i64 (Int.ofNat j)), (7, .int .i64 (Int.ofNat j)), (15, .int .i64 (Int.ofNat n)), (16, .int .i64 (Int.ofNat 0))], [(1000, .ro am n em 2 (mf lo hi)), (1001, .ro ao n eo 1 (nf o))], (addL (100 * (n - 0) + (6100 * (n - (j + 1)) + R)) 60), 10, ⟨eqF_rfl _, eqF_rfl _, eqF_rfl _, eqF_rfl _, eqF_rfl _, eqF_rfl _, eqF_rfl _, trivial⟩, WkM.refl _, nM1, 0, by omega, by omega, by omega, rfl, rfl, rfl, rfl⟩ ?_
  rintro _ _ _ _ _ ⟨i, hi', hiq, rfl, rfl, rfl, rfl, rfl⟩
  by_cases hin : i < n
  · have h2 := iLt_t hin
    by_cases e : j = p ∧ i = q
    · obtain ⟨rfl, rfl⟩ := e
      have ht := h.ht
      repeat' ((conv => whnf); first | refine eqS_rfl ?_ | refine eqA_rfl ?_ | refine eqA_of (by assumption) ?_ | refine eqS_of (by rfl) ?_ | refine eqL_rfl ?_ | refine eqJ_rfl ?_ | refine gE ?_ | refine seS_rfl ?_ | refine lsS_of hup ?_ | refine lsS_rfl ?_ | refine brS_tt ?_ | refine brS_ff ?_ | refine brS_not ?_ | refine gI ?_ | refine gT ?_ | refine gF ?_ | refine brS_intro (fun _ => ?_) (fun _ => ?_) | refine gL ?_ | refine gX ?_ | refine gO ?_ | refine gN ?_ | refine call_readL (c57 F _ am n em cm lo hi ao eo co o ho j i hlt hin) ((addL (100 * (n - (i + 1)) + (6100 * (n - (j + 1)) + R)) 60)) (by rfl) (by exact SeesM.cons 1000 (sees_ro (i := 1000) (by rfl)) (SeesM.cons 1001 (sees_ro (i := 1001) (by rfl)) (SeesM.nil _) (fun _ _ _ _ _ _ x hx => by cases hx)) (fun _ _ _ _ _ _ x hx => by rcases List.mem_singleton.1 hx with rfl; exact fun _ h => h)) (nM1) ?_ | intro _)
      conv => whnf
      exact ⟨rfl, nM1⟩
    · have ht := h.hb j i hin (by omega)
      repeat' ((conv => whnf); first | refine eqS_rfl ?_ | refine eqA_rfl ?_ | refine eqA_of (by assumption) ?_ | refine eqS_of (by rfl) ?_ | refine eqL_rfl ?_ | refine eqJ_rfl ?_ | refine gE ?_ | refine seS_rfl ?_ | refine lsS_of hup ?_ | refine lsS_rfl ?_ | refine brS_tt ?_ | refine brS_ff ?_ | refine brS_not ?_ | refine gI ?_ | refine gT ?_ | refine gF ?_ | refine brS_intro (fun _ => ?_) (fun _ => ?_) | refine gL ?_ | refine gX ?_ | refine gO ?_ | refine gN ?_ | refine call_readL (c57 F _ am n em cm lo hi ao eo co o ho j i hlt hin) ((addL (100 * (n - (i + 1)) + (6100 * (n - (j + 1)) + R)) 60)) (by rfl) (by exact SeesM.cons 1000 (sees_ro (i := 1000) (by rfl)) (SeesM.cons 1001 (sees_ro (i := 1001) (by rfl)) (SeesM.nil _) (fun _ _ _ _ _ _ x hx => by cases hx)) (fun _ _ _ _ _ _ x hx => by rcases List.mem_singleton.1 hx with rfl; exact fun _ h => h)) (nM1) ?_ | intro _)
      conv => whnf
      exact ⟨n - (i + 1) + 1, [(0, .sl 1000 am n cm), (1, .sl 1001 ao n co), (10, .int .i64 (Int.ofNat n)), (11, .int .i64 (Int.ofNat j)), (7, .int .i64 (Int.ofNat j)), (15, .int .i64 (Int.ofNat n)), (16, .int .i64 (Int.ofNat (i + 1)))], _, (addL (100 * (n - (i + 1)) + (6100 * (n - (j + 1)) + R)) 60), 10, by omega, ⟨eqF_rfl _, eqF_rfl _, eqF_rfl _, eqF_rfl _, eqF_rfl _, eqF_rfl _, ⟨congrArg (Value.int .i64) (smn (i := i + 1) (by omega)), rfl⟩, trivial⟩, WkM.refl _, nM1, i + 1, by omega, by omega, rfl, rfl, rfl, rfl, rfl⟩
  · have e2 : n = i := by omega
    subst e2
    have hjp : j ≠ p := fun e => absurd (hiq e) (by omega)
    have h2 := iLt_f (Nat.le_refl n)
    repeat' ((conv => whnf); first | refine eqS_rfl ?_ | refine eqA_rfl ?_ | refine eqA_of (by assumption) ?_ | refine eqS_of (by rfl) ?_ | refine eqL_rfl ?_ | refine eqJ_rfl ?_ | refine gE ?_ | refine seS_rfl ?_ | refine lsS_of hup ?_ | refine lsS_rfl ?_ | refine brS_tt ?_ | refine brS_ff ?_ | refine brS_not ?_ | refine gI ?_ | refine gT ?_ | refine gF ?_ | refine brS_intro (fun _ => ?_) (fun _ => ?_) | refine gL ?_ | refine gX ?_ | refine gO ?_ | refine gN ?_ | intro _)
    conv => whnf
    exact ⟨n - (j + 1) + 1, [(0, .sl 1000 am n cm), (1, .sl 1001 ao n co), (10, .int .i64 (Int.ofNat n)), (11, .int .i64 (Int.ofNat (j + 1)))], _, (addL (6100 * (n - (j + 1)) + R) 20), 10, by omega, ⟨eqF_rfl _, eqF_rfl _, eqF_rfl _, ⟨congrArg (Value.int .i64) (smn (i := j + 1) (by omega)), rfl⟩, trivial⟩, WkM.refl _, nM1, j + 1, by omega, rfl, rfl, rfl, rfl, rfl⟩
theorem c53n (F k : Nat) (hF : 200 < F) (am : Option Addr) (n em cm : Nat) (lo hi : Nat → Nat) (ao : Option Addr) (eo co : Nat) (o : Nat → Nat) (hn : n ≤ 60) (ho : ∀ j, j < n → o j < n) (h : ∀ p q, p < n → q < n → isF lo hi o p q = false) : ReadC (CL F (k + 3)) 53 [.sl 1000 am n cm, .sl 1001 ao n co] [(1000, .ro am n em 2 (mf lo hi)), (1001, .ro ao n eo 1 (nf o))] (400000 + 100) (.tup [.int .i64 0, .int .i64 0, .bool false]) := by
  intro R
  rw [show 400000 + 100 = (400000) + 100 from rfl, addL_eq, ← Nat.add_assoc, ← addL_eq _ 100, Nat.add_comm R (400000)]
  refine call_in (n := 28) Try.func53 rfl rfl rfl rfl rfl rfl rfl ?_
  repeat' ((conv => whnf); first | refine eqS_rfl ?_ | refine eqA_rfl ?_ | refine eqA_of (by assumption) ?_ | refine eqS_of (by rfl) ?_ | refine eqL_rfl ?_ | refine eqJ_rfl ?_ | refine gE ?_ | refine seS_rfl ?_ | refine lsS_of hup ?_ | refine lsS_rfl ?_ | refine brS_tt ?_ | refine brS_ff ?_ | refine brS_not ?_ | refine gI ?_ | refine gT ?_ | refine gF ?_ | refine brS_intro (fun _ => ?_) (fun _ => ?_) | refine gL ?_ | refine gX ?_ | refine gO ?_ | refine gN ?_ | intro _)
  conv => whnf
  refine loS_i (fun jj f mm R' ni => ∃ j : Nat, j ≤ n ∧ jj = n - j + 1 ∧ f = [(0, .sl 1000 am n cm), (1, .sl 1001 ao n co), (10, .int .i64 (Int.ofNat n)), (11, .int .i64 (Int.ofNat j))] ∧ mm = [(1000, .ro am n em 2 (mf lo hi)), (1001, .ro ao n eo 1 (nf o))] ∧ R' = (addL (6100 * (n - j) + R) 20) ∧ ni = 10) (n + 1) (by omega)
    ⟨[(0, .sl 1000 am n cm), (1, .sl 1001 ao n co), (10, .int .i64 (Int.ofNat n)), (11, .int .i64 (Int.ofNat 0))], [(1000, .ro am n em 2 (mf lo hi)), (1001, .ro ao n eo 1 (nf o))], (addL (6100 * (n - 0) + R) 20), 10, ⟨eqF_rfl _, eqF_rfl _, eqF_rfl _, eqF_rfl _, trivial⟩, WkM.refl _, nM1, 0, by omega, by omega, rfl, rfl, rfl, rfl⟩ ?_
  rintro _ _ _ _ _ ⟨j, hj, rfl, rfl, rfl, rfl, rfl⟩
  by_cases hlt : j < n
  · have h1 := iLt_t hlt
    repeat' ((conv => whnf); first | refine eqS_rfl ?_ | refine eqA_rfl ?_ | refine eqA_of (by assumption) ?_ | refine eqS_of (by rfl) ?_ | refine eqL_rfl ?_ | refine eqJ_rfl ?_ | refine gE ?_ | refine seS_rfl ?_ | refine lsS_of hup ?_ | refine lsS_rfl ?_ | refine brS_tt ?_ | refine brS_ff ?_ | refine brS_not ?_ | refine gI ?_ | refine gT ?_ | refine gF ?_ | refine brS_intro (fun _ => ?_) (fun _ => ?_) | refine gL ?_ | refine gX ?_ | refine gO ?_ | refine gN ?_ | intro _)
    conv => whnf
    refine loS_i (fun jj f mm R' ni => ∃ i : Nat, i ≤ n ∧ jj = n - i + 1 ∧ f = [(0, .sl 1000 am n cm), (1, .sl 1001 ao n co), (10, .int .i64 (Int.ofNat n)), (11, .int .i64 (Int.ofNat j)), (7, .int .i64 (Int.ofNat j)), (15, .int .i64 (Int.ofNat n)), (16, .int .i64 (Int.ofNat i))] ∧ mm = [(1000, .ro am n em 2 (mf lo hi)), (1001, .ro ao n eo 1 (nf o))] ∧ R' = (addL (100 * (n - i) + (6100 * (n - (j + 1)) + R)) 60) ∧ ni = 10) (n + 1) (by omega)
      ⟨[(0, .sl 1000 am n cm), (1, .sl 1001 ao n co), (10, .int .i64 (Int.ofNat n)), (11, .int .i64 (Int.ofNat j)), (7, .int .i64 (Int.ofNat j)), (15, .int .i64 (Int.ofNat n)), (16, .int .i64 (Int.ofNat 0))], [(1000, .ro am n em 2 (mf lo hi)), (1001, .ro ao n eo 1 (nf o))], (addL (100 * (n - 0) + (6100 * (n - (j + 1)) + R)) 60), 10, ⟨eqF_rfl _, eqF_rfl _, eqF_rfl _, eqF_rfl _, eqF_rfl _, eqF_rfl _, eqF_rfl _, trivial⟩, WkM.refl _, nM1, 0, by omega, by omega, rfl, rfl, rfl, rfl⟩ ?_
    rintro _ _ _ _ _ ⟨i, hi', rfl, rfl, rfl, rfl, rfl⟩
    by_cases hin : i < n
    · have h2 := iLt_t hin
      have ht := h j i hlt hin
      repeat' ((conv => whnf); first | refine eqS_rfl ?_ | refine eqA_rfl ?_ | refine eqA_of (by assumption) ?_ | refine eqS_of (by rfl) ?_ | refine eqL_rfl ?_ | refine eqJ_rfl ?_ | refine gE ?_ | refine seS_rfl ?_ | refine lsS_of hup ?_ | refine lsS_rfl ?_ | refine brS_tt ?_ | refine brS_ff ?_ | refine brS_not ?_ | refine gI ?_ | refine gT ?_ | refine gF ?_ | refine brS_intro (fun _ => ?_) (fun _ => ?_) | refine gL ?_ | refine gX ?_ | refine gO ?_ | refine gN ?_ | refine call_readL (c57 F _ am n em cm lo hi ao eo co o ho j i hlt hin) ((addL (100 * (n - (i + 1)) + (6100 * (n - (j + 1)) + R)) 60)) (by rfl) (by exact SeesM.cons 1000 (sees_ro (i := 1000) (by rfl)) (SeesM.cons 1001 (sees_ro (i := 1001) (by rfl)) (SeesM.nil _) (fun _ _ _ _ _ _ x hx => by cases hx)) (fun _ _ _ _ _ _ x hx => by rcases List.mem_singleton.1 hx with rfl; exact fun _ h => h)) (nM1) ?_ | intro _)
      conv => whnf
      exact ⟨n - (i + 1) + 1, [(0, .sl 1000 am n cm), (1, .sl 1001 ao n co), (10, .int .i64 (Int.ofNat n)), (11, .int .i64 (Int.ofNat j)), (7, .int .i64 (Int.ofNat j)), (15, .int .i64 (Int.ofNat n)), (16, .int .i64 (Int.ofNat (i + 1)))], _, (addL (100 * (n - (i + 1)) + (6100 * (n - (j + 1)) + R)) 60), 10, by omega, ⟨eqF_rfl _, eqF_rfl _, eqF_rfl _, eqF_rfl _, eqF_rfl _, eqF_rfl _, ⟨congrArg (Value.int .i64) (smn (i := i + 1) (by omega)), rfl⟩, trivial⟩, WkM.refl _, nM1, i + 1, by omega, rfl, rfl, rfl, rfl, rfl⟩
    · have e2 : n = i := by omega
      subst e2
      have h2 := iLt_f (Nat.le_refl n)
      repeat' ((conv => whnf); first | refine eqS_rfl ?_ | refine eqA_rfl ?_ | refine eqA_of (by assumption) ?_ | refine eqS_of (by rfl) ?_ | refine eqL_rfl ?_ | refine eqJ_rfl ?_ | refine gE ?_ | refine seS_rfl ?_ | refine lsS_of hup ?_ | refine lsS_rfl ?_ | refine brS_tt ?_ | refine brS_ff ?_ | refine brS_not ?_ | refine gI ?_ | refine gT ?_ | refine gF ?_ | refine brS_intro (fun _ => ?_) (fun _ => ?_) | refine gL ?_ | refine gX ?_ | refine gO ?_ | refine gN ?_ | intro _)
      conv => whnf
      exact ⟨n - (j + 1) + 1, [(0, .sl 1000 am n cm), (1, .sl 1001 ao n co), (10, .int .i64 (Int.ofNat n)), (11, .int .i64 (Int.ofNat (j + 1)))], _, (addL (6100 * (n - (j + 1)) + R) 20), 10, by omega, ⟨eqF_rfl _, eqF_rfl _, eqF_rfl _, ⟨congrArg (Value.int .i64) (smn (i := j + 1) (by omega)), rfl⟩, trivial⟩, WkM.refl _, nM1, j + 1, by omega, rfl, rfl, rfl, rfl, rfl⟩
  · have e2 : n = j := by omega
    subst e2
    have h1 := iLt_f (Nat.le_refl n)
    repeat' ((conv => whnf); first | refine eqS_rfl ?_ | refine eqA_rfl ?_ | refine eqA_of (by assumption) ?_ | refine eqS_of (by rfl) ?_ | refine eqL_rfl ?_ | refine eqJ_rfl ?_ | refine gE ?_ | refine seS_rfl ?_ | refine lsS_of hup ?_ | refine lsS_rfl ?_ | refine brS_tt ?_ | refine brS_ff ?_ | refine brS_not ?_ | refine gI ?_ | refine gT ?_ | refine gF ?_ | refine brS_intro (fun _ => ?_) (fun _ => ?_) | refine gL ?_ | refine gX ?_ | refine gO ?_ | refine gN ?_ | intro _)
    conv => whnf
    exact ⟨rfl, nM1⟩
end Go.Proofs.Ytefnljdfgjjpjaa
