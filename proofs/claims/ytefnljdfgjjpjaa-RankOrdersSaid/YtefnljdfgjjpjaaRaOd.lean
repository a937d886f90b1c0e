/- RankOrders: Fault of the reference. -/
import Derived.Test.YtefnljdfgjjpjaaRaOc
import Derived.KernelRfl
namespace Go.Proofs.Ytefnljdfgjjpjaa
open Go.Ab
attribute [local irreducible] aggOk drwOK
set_option maxRecDepth 100000
set_option maxHeartbeats 4000000
set_option linter.unusedVariables false
set_option linter.unusedSimpArgs false
theorem c55 (F k : Nat) (am : Option Addr) (n em cm : Nat) (lo hi : Nat → Nat) (i j : Nat) (hi' : i < n) (hj : j < n) : ReadC (CL F (k + 1)) 55 [.sl 1000 am n cm, .int .i64 (Int.ofNat i), .int .i64 (Int.ofNat j)] [(1000, .ro am n em 2 (mf lo hi))] 40 (.bool (qt lo hi i j)) := by
  intro R
  refine call_in (n := 18) Try.func55 rfl rfl rfl rfl rfl rfl rfl ?_
  repeat' ((conv => whnf); first | refine eqS_rfl ?_ | refine eqA_rfl ?_ | refine eqA_of (by assumption) ?_ | refine eqS_of (by rfl) ?_ | refine eqL_rfl ?_ | refine eqJ_rfl ?_ | refine gE ?_ | refine seS_rfl ?_ | refine lsS_of hup ?_ | refine lsS_rfl ?_ | refine brS_tt ?_ | refine brS_ff ?_ | refine brS_not ?_ | refine gI ?_ | refine gT ?_ | refine gF ?_ | refine brS_intro (fun _ => ?_) (fun _ => ?_) | refine gL ?_ | refine gX ?_ | refine gO ?_ | refine gN ?_ | intro _)
  conv => whnf
  exact ⟨congrArg Value.bool (iLt_n _ _), nM1⟩
theorem fst_lt {lo hi o : Nat → Nat} {n p q : Nat} (h : Fst (isF lo hi o) n p q) : p < q := by
  have := h.ht
  unfold isF at this
  rw [Bool.and_eq_true] at this
  exact of_decide_eq_true this.1
theorem c16f (F k : Nat) (hF : 200 < F) (am : Option Addr) (n em cm : Nat) (lo hi : Nat → Nat) (hn0 : 0 < n) (hn : n ≤ 30) (hlh : ∀ j, j < n → lo j ≤ hi j ∧ hi j ≤ 100000) (ao : Option Addr) (eo co : Nat) (o : Nat → Nat) (ho : ∀ j, j < n → o j < n) (hin : ∀ i j, i < n → j < n → o i = o j → i = j) (hod : odE (fun z => Int.ofNat (lo z)) (fun z => Int.ofNat (hi z)) n n (fun z => Int.ofNat (o z)) = 0) (p q : Nat) (h : Fst (isF lo hi o) n p q) : ReadC (CL F (k + 4)) 16 [.sl 1000 am n cm, .sl 1001 ao n co] [(1000, .ro am n em 2 (mf lo hi)), (1001, .ro ao n eo 1 (nf o))] (500000 + 100) (.tup [.int .i64 (Int.ofNat p), .int .i64 (Int.ofNat q), .int .i64 (Int.ofNat 0)]) := by
  have k54 : ReadC (CL F (k + 3)) 54 [.sl 1000 am n cm, .sl 1001 ao n co] [(1000, .ro am n em 2 (mf lo hi)), (1001, .ro ao n eo 1 (nf o))] (100000 + 100) (.int .i64 0) := by have h := c54i F k hF am n em cm (fun z => Int.ofNat (lo z)) (fun z => Int.ofNat (hi z)) ao n eo co (fun z => Int.ofNat (o z)); rw [hod] at h; exact h
  intro R
  rw [show 500000 + 100 = (500000) + 100 from rfl, addL_eq, ← Nat.add_assoc, ← addL_eq _ 100, Nat.add_comm R (500000)]
  have hp := h.hp
  have hq := h.hq
  refine call_in (n := 42) Try.func16 rfl rfl rfl rfl rfl rfl rfl ?_
  repeat' ((conv => whnf); first | refine eqS_rfl ?_ | refine eqA_rfl ?_ | refine eqA_of (by assumption) ?_ | refine eqS_of (by rfl) ?_ | refine eqL_rfl ?_ | refine eqJ_rfl ?_ | refine gE ?_ | refine seS_rfl ?_ | refine lsS_of hup ?_ | refine lsS_rfl ?_ | refine brS_tt ?_ | refine brS_ff ?_ | refine brS_not ?_ | refine gI ?_ | refine gT ?_ | refine gF ?_ | refine brS_intro (fun _ => ?_) (fun _ => ?_) | refine gL ?_ | refine gX ?_ | refine gO ?_ | refine gN ?_ | refine call_readL (k54) (addL (350000 + R) 50) (by rfl) (by exact SeesM.cons 1000 (sees_ro (i := 1000) (by rfl)) (SeesM.cons 1001 (sees_ro (i := 1001) (by rfl)) (SeesM.nil _) (fun _ _ _ _ _ _ x hx => by cases hx)) (fun _ _ _ _ _ _ x hx => by rcases List.mem_singleton.1 hx with rfl; exact fun _ h => h)) (nM1) ?_ | intro _)
  conv => whnf
  refine loS_i (fun jj f mm R' ni => ∃ j : Nat, j ≤ p ∧ jj = n - j + 1 ∧ f = [(0, .sl 1000 am n cm), (1, .sl 1001 ao n co), (8, .int .i64 (Int.ofNat j))] ∧ mm = [(1000, .ro am n em 2 (mf lo hi)), (1001, .ro ao n eo 1 (nf o))] ∧ R' = (addL (6100 * (n - j) + R) 60) ∧ ni = 10) (n + 1) (by omega)
    ⟨[(0, .sl 1000 am n cm), (1, .sl 1001 ao n co), (8, .int .i64 (Int.ofNat 0))], [(1000, .ro am n em 2 (mf lo hi)), (1001, .ro ao n eo 1 (nf o))], (addL (6100 * (n - 0) + R) 60), 10, ⟨eqF_rfl _, eqF_rfl _, eqF_rfl _, trivial⟩, WkM.refl _, nM1, 0, by omega, by omega, rfl, rfl, rfl, rfl⟩ ?_
  rintro _ _ _ _ _ ⟨j, hj, rfl, rfl, rfl, rfl, rfl⟩
  by_cases hlt : j < n
  · have h1 := iLt_t hlt
    have s1 : wr .i64 (Int.add (Int.ofNat j) 1) = Int.ofNat (j + 1) := smn (i := j + 1) (by omega)
    repeat' ((conv => whnf); first | refine eqS_rfl ?_ | refine eqA_rfl ?_ | refine eqA_of (by assumption) ?_ | refine eqS_of (by rfl) ?_ | refine eqL_rfl ?_ | refine eqJ_rfl ?_ | refine gE ?_ | refine seS_rfl ?_ | refine lsS_of hup ?_ | refine lsS_rfl ?_ | refine brS_tt ?_ | refine brS_ff ?_ | refine brS_not ?_ | refine gI ?_ | refine gT ?_ | refine gF ?_ | refine brS_intro (fun _ => ?_) (fun _ => ?_) | refine gL ?_ | refine gX ?_ | refine gO ?_ | refine gN ?_ | intro _)
    conv => whnf
    refine loS_i (fun jj f mm R' ni => ∃ i : Nat, i ≤ n ∧ j + 1 ≤ i ∧ (j = p → i ≤ q) ∧ jj = n - i + 1 ∧ f = [(0, .sl 1000 am n cm), (1, .sl 1001 ao n co), (8, .int .i64 (Int.ofNat j)), (9, .int .i64 (Int.ofNat i))] ∧ mm = [(1000, .ro am n em 2 (mf lo hi)), (1001, .ro ao n eo 1 (nf o))] ∧ R' = (addL (100 * (n - i) + (6100 * (n - (j + 1)) + R)) 120) ∧ ni = 10) (n - (j + 1) + 1) (by omega)
      ⟨[(0, .sl 1000 am n cm), (1, .sl 1001 ao n co), (8, .int .i64 (Int.ofNat j)), (9, .int .i64 (Int.ofNat (j + 1)))], [(1000, .ro am n em 2 (mf lo hi)), (1001, .ro ao n eo 1 (nf o))], (addL (100 * (n - (j + 1)) + (6100 * (n - (j + 1)) + R)) 120), 10, ⟨eqF_rfl _, eqF_rfl _, eqF_rfl _, ⟨congrArg (Value.int .i64) s1, rfl⟩, trivial⟩, WkM.refl _, nM1, j + 1, by omega, by omega, by have := h.hp; have := h.hq; have := fst_lt h; omega, by omega, rfl, rfl, rfl, rfl⟩ ?_
    rintro _ _ _ _ _ ⟨i, hi', hji, hiq, rfl, rfl, rfl, rfl, rfl⟩
    by_cases hin : i < n
    · have h2 := iLt_t hin
      by_cases e : j = p ∧ i = q
      · obtain ⟨rfl, rfl⟩ := e
        have ht : qt lo hi (o i) (o j) = true := by have := h.ht; unfold isF at this; rw [decide_eq_true (show j < i by omega), Bool.true_and] at this; exact this
        repeat' ((conv => whnf); first | refine eqS_rfl ?_ | refine eqA_rfl ?_ | refine eqA_of (by assumption) ?_ | refine eqS_of (by rfl) ?_ | refine eqL_rfl ?_ | refine eqJ_rfl ?_ | refine gE ?_ | refine seS_rfl ?_ | refine lsS_of hup ?_ | refine lsS_rfl ?_ | refine brS_tt ?_ | refine brS_ff ?_ | refine brS_not ?_ | refine gI ?_ | refine gT ?_ | refine gF ?_ | refine brS_intro (fun _ => ?_) (fun _ => ?_) | refine gL ?_ | refine gX ?_ | refine gO ?_ | refine gN ?_ | refine call_readL (c55 F _ am n em cm lo hi (o i) (o j) (ho i hin) (ho j hlt)) ((addL (100 * (n - (i + 1)) + (6100 * (n - (j + 1)) + R)) 130)) (by rfl) (by exact SeesM.cons 1000 (sees_ro (i := 1000) (by rfl)) (SeesM.nil _) (fun _ _ _ _ _ _ x hx => by cases hx)) (nM1) ?_ | intro _)
        conv => whnf
        exact ⟨rfl, nM1⟩
      · have ht : qt lo hi (o i) (o j) = false := by have := h.hb j i hin (by omega); unfold isF at this; rw [decide_eq_true (show j < i by omega), Bool.true_and] at this; exact this
        repeat' ((conv => whnf); first | refine eqS_rfl ?_ | refine eqA_rfl ?_ | refine eqA_of (by assumption) ?_ | refine eqS_of (by rfl) ?_ | refine eqL_rfl ?_ | refine eqJ_rfl ?_ | refine gE ?_ | refine seS_rfl ?_ | refine lsS_of hup ?_ | refine lsS_rfl ?_ | refine brS_tt ?_ | refine brS_ff ?_ | refine brS_not ?_ | refine gI ?_ | refine gT ?_ | refine gF ?_ | refine brS_intro (fun _ => ?_) (fun _ => ?_) | refine gL ?_ | refine gX ?_ | refine gO ?_ | refine gN ?_ | refine call_readL (c55 F _ am n em cm lo hi (o i) (o j) (ho i hin) (ho j hlt)) ((addL (100 * (n - (i + 1)) + (6100 * (n - (j + 1)) + R)) 130)) (by rfl) (by exact SeesM.cons 1000 (sees_ro (i := 1000) (by rfl)) (SeesM.nil _) (fun _ _ _ _ _ _ x hx => by cases hx)) (nM1) ?_ | intro _)
        conv => whnf
        exact ⟨n - (i + 1) + 1, [(0, .sl 1000 am n cm), (1, .sl 1001 ao n co), (8, .int .i64 (Int.ofNat j)), (9, .int .i64 (Int.ofNat (i + 1)))], _, (addL (100 * (n - (i + 1)) + (6100 * (n - (j + 1)) + R)) 120), 10, by omega, ⟨eqF_rfl _, eqF_rfl _, eqF_rfl _, ⟨congrArg (Value.int .i64) (smn (i := i + 1) (by omega)), rfl⟩, trivial⟩, WkM.refl _, nM1, i + 1, by omega, by omega, by omega, rfl, rfl, rfl, rfl, rfl⟩
    · have e2 : n = i := by omega
      have h2 : iLt (Int.ofNat i) (Int.ofNat n) = false := iLt_f (by omega)
      have hjp : j ≠ p := fun e => absurd (hiq e) (by have := h.hq; omega)
      repeat' ((conv => whnf); first | refine eqS_rfl ?_ | refine eqA_rfl ?_ | refine eqA_of (by assumption) ?_ | refine eqS_of (by rfl) ?_ | refine eqL_rfl ?_ | refine eqJ_rfl ?_ | refine gE ?_ | refine seS_rfl ?_ | refine lsS_of hup ?_ | refine lsS_rfl ?_ | refine brS_tt ?_ | refine brS_ff ?_ | refine brS_not ?_ | refine gI ?_ | refine gT ?_ | refine gF ?_ | refine brS_intro (fun _ => ?_) (fun _ => ?_) | refine gL ?_ | refine gX ?_ | refine gO ?_ | refine gN ?_ | intro _)
      conv => whnf
      exact ⟨n - (j + 1) + 1, [(0, .sl 1000 am n cm), (1, .sl 1001 ao n co), (8, .int .i64 (Int.ofNat (j + 1)))], _, (addL (6100 * (n - (j + 1)) + R) 60), 10, by omega, ⟨eqF_rfl _, eqF_rfl _, ⟨congrArg (Value.int .i64) (smn (i := j + 1) (by omega)), rfl⟩, trivial⟩, WkM.refl _, nM1, j + 1, by omega, rfl, rfl, rfl, rfl, rfl⟩
  · exact absurd h.hp (by omega)
theorem c16n (F k : Nat) (hF : 200 < F) (am : Option Addr) (n em cm : Nat) (lo hi : Nat → Nat) (hn0 : 0 < n) (hn : n ≤ 30) (hlh : ∀ j, j < n → lo j ≤ hi j ∧ hi j ≤ 100000) (ao : Option Addr) (eo co : Nat) (o : Nat → Nat) (ho : ∀ j, j < n → o j < n) (hin : ∀ i j, i < n → j < n → o i = o j → i = j) (hod : odE (fun z => Int.ofNat (lo z)) (fun z => Int.ofNat (hi z)) n n (fun z => Int.ofNat (o z)) = 0) (h : ∀ p q, p < n → q < n → isF lo hi o p q = false) : ReadC (CL F (k + 4)) 16 [.sl 1000 am n cm, .sl 1001 ao n co] [(1000, .ro am n em 2 (mf lo hi)), (1001, .ro ao n eo 1 (nf o))] (500000 + 100) (.tup [.int .i64 (Int.ofNat 0), .int .i64 (Int.ofNat 0), .int .i64 (Int.ofNat 6)]) := by
  have k54 : ReadC (CL F (k + 3)) 54 [.sl 1000 am n cm, .sl 1001 ao n co] [(1000, .ro am n em 2 (mf lo hi)), (1001, .ro ao n eo 1 (nf o))] (100000 + 100) (.int .i64 0) := by have h := c54i F k hF am n em cm (fun z => Int.ofNat (lo z)) (fun z => Int.ofNat (hi z)) ao n eo co (fun z => Int.ofNat (o z)); rw [hod] at h; exact h
  intro R
  rw [show 500000 + 100 = (500000) + 100 from rfl, addL_eq, ← Nat.add_assoc, ← addL_eq _ 100, Nat.add_comm R (500000)]
  refine call_in (n := 42) Try.func16 rfl rfl rfl rfl rfl rfl rfl ?_
  repeat' ((conv => whnf); first | refine eqS_rfl ?_ | refine eqA_rfl ?_ | refine eqA_of (by assumption) ?_ | refine eqS_of (by rfl) ?_ | refine eqL_rfl ?_ | refine eqJ_rfl ?_ | refine gE ?_ | refine seS_rfl ?_ | refine lsS_of hup ?_ | refine lsS_rfl ?_ | refine brS_tt ?_ | refine brS_ff ?_ | refine brS_not ?_ | refine gI ?_ | refine gT ?_ | refine gF ?_ | refine brS_intro (fun _ => ?_) (fun _ => ?_) | refine gL ?_ | refine gX ?_ | refine gO ?_ | refine gN ?_ | refine call_readL (k54) (addL (350000 + R) 50) (by rfl) (by exact SeesM.cons 1000 (sees_ro (i := 1000) (by rfl)) (SeesM.cons 1001 (sees_ro (i := 1001) (by rfl)) (SeesM.nil _) (fun _ _ _ _ _ _ x hx => by cases hx)) (fun _ _ _ _ _ _ x hx => by rcases List.mem_singleton.1 hx with rfl; exact fun _ h => h)) (nM1) ?_ | intro _)
  conv => whnf
  refine loS_i (fun jj f mm R' ni => ∃ j : Nat, j ≤ n ∧ jj = n - j + 1 ∧ f = [(0, .sl 1000 am n cm), (1, .sl 1001 ao n co), (8, .int .i64 (Int.ofNat j))] ∧ mm = [(1000, .ro am n em 2 (mf lo hi)), (1001, .ro ao n eo 1 (nf o))] ∧ R' = (addL (6100 * (n - j) + R) 60) ∧ ni = 10) (n + 1) (by omega)
    ⟨[(0, .sl 1000 am n cm), (1, .sl 1001 ao n co), (8, .int .i64 (Int.ofNat 0))], [(1000, .ro am n em 2 (mf lo hi)), (1001, .ro ao n eo 1 (nf o))], (addL (6100 * (n - 0) + R) 60), 10, ⟨eqF_rfl _, eqF_rfl _, eqF_rfl _, trivial⟩, WkM.refl _, nM1, 0, by omega, by omega, rfl, rfl, rfl, rfl⟩ ?_
  rintro _ _ _ _ _ ⟨j, hj, rfl, rfl, rfl, rfl, rfl⟩
  by_cases hlt : j < n
  · have h1 := iLt_t hlt
    have s1 : wr .i64 (Int.add (Int.ofNat j) 1) = Int.ofNat (j + 1) := smn (i := j + 1) (by omega)
    repeat' ((conv => whnf); first | refine eqS_rfl ?_ | refine eqA_rfl ?_ | refine eqA_of (by assumption) ?_ | refine eqS_of (by rfl) ?_ | refine eqL_rfl ?_ | refine eqJ_rfl ?_ | refine gE ?_ | refine seS_rfl ?_ | refine lsS_of hup ?_ | refine lsS_rfl ?_ | refine brS_tt ?_ | refine brS_ff ?_ | refine brS_not ?_ | refine gI ?_ | refine gT ?_ | refine gF ?_ | refine brS_intro (fun _ => ?_) (fun _ => ?_) | refine gL ?_ | refine gX ?_ | refine gO ?_ | refine gN ?_ | intro _)
    conv => whnf
    refine loS_i (fun jj f mm R' ni => ∃ i : Nat, i ≤ n ∧ j + 1 ≤ i ∧ jj = n - i + 1 ∧ f = [(0, .sl 1000 am n cm), (1, .sl 1001 ao n co), (8, .int .i64 (Int.ofNat j)), (9, .int .i64 (Int.ofNat i))] ∧ mm = [(1000, .ro am n em 2 (mf lo hi)), (1001, .ro ao n eo 1 (nf o))] ∧ R' = (addL (100 * (n - i) + (6100 * (n - (j + 1)) + R)) 120) ∧ ni = 10) (n - (j + 1) + 1) (by omega)
      ⟨[(0, .sl 1000 am n cm), (1, .sl 1001 ao n co), (8, .int .i64 (Int.ofNat j)), (9, .int .i64 (Int.ofNat (j + 1)))], [(1000, .ro am n em 2 (mf lo hi)), (1001, .ro ao n eo 1 (nf o))], (addL (100 * (n - (j + 1)) + (6100 * (n - (j + 1)) + R)) 120), 10, ⟨eqF_rfl _, eqF_rfl _, eqF_rfl _, ⟨congrArg (Value.int .i64) s1, rfl⟩, trivial⟩, WkM.refl _, nM1, j + 1, by omega, by omega, by omega, rfl, rfl, rfl, rfl⟩ ?_
    rintro _ _ _ _ _ ⟨i, hi', hji, rfl, rfl, rfl, rfl, rfl⟩
    by_cases hin : i < n
    · have h2 := iLt_t hin
      · have ht : qt lo hi (o i) (o j) = false := by have := h j i hlt hin; unfold isF at this; rw [decide_eq_true (show j < i by omega), Bool.true_and] at this; exact this
        repeat' ((conv => whnf); first | refine eqS_rfl ?_ | refine eqA_rfl ?_ | refine eqA_of (by assumption) ?_ | refine eqS_of (by rfl) ?_ | refine eqL_rfl ?_ | refine eqJ_rfl ?_ | refine gE ?_ | refine seS_rfl ?_ | refine lsS_of hup ?_ | refine lsS_rfl ?_ | refine brS_tt ?_ | refine brS_ff ?_ | refine brS_not ?_ | refine gI ?_ | refine gT ?_ | refine gF ?_ | refine brS_intro (fun _ => ?_) (fun _ => ?_) | refine gL ?_ | refine gX ?_ | refine gO ?_ | refine gN ?_ | refine call_readL (c55 F _ am n em cm lo hi (o i) (o j) (ho i hin) (ho j hlt)) ((addL (100 * (n - (i + 1)) + (6100 * (n - (j + 1)) + R)) 130)) (by rfl) (by exact SeesM.cons 1000 (sees_ro (i := 1000) (by rfl)) (SeesM.nil _) (fun _ _ _ _ _ _ x hx => by cases hx)) (nM1) ?_ | intro _)
        conv => whnf
        exact ⟨n - (i + 1) + 1, [(0, .sl 1000 am n cm), (1, .sl 1001 ao n co), (8, .int .i64 (Int.ofNat j)), (9, .int .i64 (Int.ofNat (i + 1)))], _, (addL (100 * (n - (i + 1)) + (6100 * (n - (j + 1)) + R)) 120), 10, by omega, ⟨eqF_rfl _, eqF_rfl _, eqF_rfl _, ⟨congrArg (Value.int .i64) (smn (i := i + 1) (by omega)), rfl⟩, trivial⟩, WkM.refl _, nM1, i + 1, by omega, by omega, rfl, rfl, rfl, rfl, rfl⟩
    · have e2 : n = i := by omega
      have h2 : iLt (Int.ofNat i) (Int.ofNat n) = false := iLt_f (by omega)
      repeat' ((conv => whnf); first | refine eqS_rfl ?_ | refine eqA_rfl ?_ | refine eqA_of (by assumption) ?_ | refine eqS_of (by rfl) ?_ | refine eqL_rfl ?_ | refine eqJ_rfl ?_ | refine gE ?_ | refine seS_rfl ?_ | refine lsS_of hup ?_ | refine lsS_rfl ?_ | refine brS_tt ?_ | refine brS_ff ?_ | refine brS_not ?_ | refine gI ?_ | refine gT ?_ | refine gF ?_ | refine brS_intro (fun _ => ?_) (fun _ => ?_) | refine gL ?_ | refine gX ?_ | refine gO ?_ | refine gN ?_ | intro _)
      conv => whnf
      exact ⟨n - (j + 1) + 1, [(0, .sl 1000 am n cm), (1, .sl 1001 ao n co), (8, .int .i64 (Int.ofNat (j + 1)))], _, (addL (6100 * (n - (j + 1)) + R) 60), 10, by omega, ⟨eqF_rfl _, eqF_rfl _, ⟨congrArg (Value.int .i64) (smn (i := j + 1) (by omega)), rfl⟩, trivial⟩, WkM.refl _, nM1, j + 1, by omega, rfl, rfl, rfl, rfl, rfl⟩
  · have e2 : n = j := by omega
    subst e2
    have h1 := iLt_f (Nat.le_refl n)
    repeat' ((conv => whnf); first | refine eqS_rfl ?_ | refine eqA_rfl ?_ | refine eqA_of (by assumption) ?_ | refine eqS_of (by rfl) ?_ | refine eqL_rfl ?_ | refine eqJ_rfl ?_ | refine gE ?_ | refine seS_rfl ?_ | refine lsS_of hup ?_ | refine lsS_rfl ?_ | refine brS_tt ?_ | refine brS_ff ?_ | refine brS_not ?_ | refine gI ?_ | refine gT ?_ | refine gF ?_ | refine brS_intro (fun _ => ?_) (fun _ => ?_) | refine gL ?_ | refine gX ?_ | refine gO ?_ | refine gN ?_ | intro _)
    conv => whnf
    exact ⟨rfl, nM1⟩
end Go.Proofs.Ytefnljdfgjjpjaa
