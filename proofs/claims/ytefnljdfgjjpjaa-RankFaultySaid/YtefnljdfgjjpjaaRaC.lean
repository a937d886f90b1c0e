/- Rank: months and orders that are valid; Possible, Fault, Verify. -/
import Derived.Test.YtefnljdfgjjpjaaRaB
import Derived.KernelRfl
namespace Go.Proofs.Ytefnljdfgjjpjaa
open Go.Ab
attribute [local irreducible] aggOk drwOK
set_option maxRecDepth 100000
set_option maxHeartbeats 4000000
set_option linter.unusedVariables false
set_option linter.unusedSimpArgs false
/-- a month that is valid -/
theorem c21 (F k : Nat) (hF : 200 < F) (am : Option Addr) (n em cm : Nat) (lo hi : Nat → Nat) (hn0 : 0 < n) (hn : n ≤ 30) (hlh : ∀ j, j < n → lo j ≤ hi j ∧ hi j ≤ 100000) : ReadC (CL F (k + 1)) 21 [.sl 1000 am n cm] [(1000, .ro am n em 2 (mf lo hi))] (1000 + 100) (.int .i64 (Int.ofNat 0)) := by
  have t1 : iEq (Int.ofNat n) 0 = false := (iEq_n (a := n) (b := 0)).trans (decide_eq_false (by omega))
  have t2 : iLt 30 (Int.ofNat n) = false := iLt_f (a := 30) (b := n) hn
  intro R
  rw [show 1000 + 100 = (1000) + 100 from rfl, addL_eq, ← Nat.add_assoc, ← addL_eq _ 100, Nat.add_comm R (1000)]
  refine call_in (n := 33) Try.func21 rfl rfl rfl rfl rfl rfl rfl ?_
  repeat' ((conv => whnf); first | refine eqS_rfl ?_ | refine eqA_rfl ?_ | refine eqA_of (by assumption) ?_ | refine eqS_of (by rfl) ?_ | refine eqL_rfl ?_ | refine eqJ_rfl ?_ | refine gE ?_ | refine seS_rfl ?_ | refine lsS_of hup ?_ | refine lsS_rfl ?_ | refine brS_tt ?_ | refine brS_ff ?_ | refine brS_not ?_ | refine gI ?_ | refine gT ?_ | refine gF ?_ | refine brS_intro (fun _ => ?_) (fun _ => ?_) | refine gL ?_ | refine gX ?_ | refine gO ?_ | refine gN ?_ | intro _)
  conv => whnf
  refine loS_i (fun jj f mm R' ni => ∃ j : Nat, j ≤ n ∧ jj = n - j + 1 ∧ f = [(11, .sl 1000 am n cm), (12, .int .i64 (Int.ofNat n)), (13, .int .i64 (Int.ofNat j))] ∧ mm = [(1000, .ro am n em 2 (mf lo hi))] ∧ R' = (addL (20 * (n - j) + R) 20) ∧ ni = 10) (n + 1) (by omega)
    ⟨[(11, .sl 1000 am n cm), (12, .int .i64 (Int.ofNat n)), (13, .int .i64 (Int.ofNat 0))], [(1000, .ro am n em 2 (mf lo hi))], (addL (20 * (n - 0) + R) 20), 10, ⟨eqF_rfl _, eqF_rfl _, eqF_rfl _, trivial⟩, WkM.refl _, nM1, 0, by omega, by omega, rfl, rfl, rfl, rfl⟩ ?_
  rintro _ _ _ _ _ ⟨j, hj, rfl, rfl, rfl, rfl, rfl⟩
  by_cases hlt : j < n
  · have h1 := iLt_t hlt
    have hh := hlh j hlt
    have g0 : iLt (Int.ofNat (lo j)) 0 = false := iLt_0 _
    have g1 : iLt (Int.ofNat (hi j)) (Int.ofNat (lo j)) = false := iLt_f hh.1
    have g2 : iLt 100000 (Int.ofNat (hi j)) = false := iLt_f (a := 100000) (b := hi j) hh.2
    repeat' ((conv => whnf); first | refine eqS_rfl ?_ | refine eqA_rfl ?_ | refine eqA_of (by assumption) ?_ | refine eqS_of (by rfl) ?_ | refine eqL_rfl ?_ | refine eqJ_rfl ?_ | refine gE ?_ | refine seS_rfl ?_ | refine lsS_of hup ?_ | refine lsS_rfl ?_ | refine brS_tt ?_ | refine brS_ff ?_ | refine brS_not ?_ | refine gI ?_ | refine gT ?_ | refine gF ?_ | refine brS_intro (fun _ => ?_) (fun _ => ?_) | refine gL ?_ | refine gX ?_ | refine gO ?_ | refine gN ?_ | intro _)
    conv => whnf
    exact ⟨n - (j + 1) + 1, [(11, .sl 1000 am n cm), (12, .int .i64 (Int.ofNat n)), (13, .int .i64 (Int.ofNat (j + 1)))], _, (addL (20 * (n - (j + 1)) + R) 20), 10, by omega, ⟨eqF_rfl _, eqF_rfl _, ⟨congrArg (Value.int .i64) (smn (i := j + 1) (by omega)), rfl⟩, trivial⟩, WkM.drop (WkM.refl _), nM1, j + 1, by omega, rfl, rfl, rfl, rfl, rfl⟩
  · have e2 : n = j := by omega
    subst e2
    have h1 := iLt_f (Nat.le_refl n)
    repeat' ((conv => whnf); first | refine eqS_rfl ?_ | refine eqA_rfl ?_ | refine eqA_of (by assumption) ?_ | refine eqS_of (by rfl) ?_ | refine eqL_rfl ?_ | refine eqJ_rfl ?_ | refine gE ?_ | refine seS_rfl ?_ | refine lsS_of hup ?_ | refine lsS_rfl ?_ | refine brS_tt ?_ | refine brS_ff ?_ | refine brS_not ?_ | refine gI ?_ | refine gT ?_ | refine gF ?_ | refine brS_intro (fun _ => ?_) (fun _ => ?_) | refine gL ?_ | refine gX ?_ | refine gO ?_ | refine gN ?_ | intro _)
    conv => whnf
    exact ⟨rfl, nM1⟩
/-- the set of an order's first days -/
def stL (o : Nat → Nat) : Nat → Nat
  | 0 => 0
  | j + 1 => wt (stL o j) (o j)
theorem stL_lt {o : Nat → Nat} {n : Nat} (h : ∀ j, j < n → o j < 32) : ∀ {j : Nat}, j ≤ n → stL o j < 4294967296
  | 0, _ => by show 0 < 4294967296; omega
  | j + 1, hj => wt_lt (stL_lt h (by omega)) (h j (by omega))
theorem stL_bit (o : Nat → Nat) (e : Nat) : ∀ j, (stL o j).testBit e = true ↔ ∃ i, i < j ∧ o i = e
  | 0 => by
    constructor
    · intro h; exact absurd h (by show ¬ (Nat.testBit 0 e = true); simp)
    · rintro ⟨i, hi, _⟩; omega
  | j + 1 => by
    show (wt (stL o j) (o j)).testBit e = true ↔ _
    rw [wt_bit, Bool.or_eq_true, stL_bit o e j, decide_eq_true_eq]
    constructor
    · rintro (⟨i, hi, h⟩ | h)
      · exact ⟨i, by omega, h⟩
      · exact ⟨j, by omega, h⟩
    · rintro ⟨i, hi, h⟩
      by_cases e2 : i = j
      · subst e2; exact .inr h
      · exact .inl ⟨i, by omega, h⟩
theorem c52 (F k : Nat) (hF : 200 < F) (am : Option Addr) (n em cm : Nat) (lo hi : Nat → Nat) (hn0 : 0 < n) (hn : n ≤ 30) (hlh : ∀ j, j < n → lo j ≤ hi j ∧ hi j ≤ 100000) (ao : Option Addr) (eo co : Nat) (o : Nat → Nat) (ho : ∀ j, j < n → o j < n) (hin : ∀ i j, i < n → j < n → o i = o j → i = j) : ReadC (CL F (k + 2)) 52 [.sl 1000 am n cm, .sl 1001 ao n co] [(1000, .ro am n em 2 (mf lo hi)), (1001, .ro ao n eo 1 (nf o))] (10000 + 100) (.int .i64 (Int.ofNat 0)) := by
  have t1 : iEq (Int.ofNat n) (Int.ofNat n) = true := iEq_self _
  intro R
  rw [show 10000 + 100 = (10000) + 100 from rfl, addL_eq, ← Nat.add_assoc, ← addL_eq _ 100, Nat.add_comm R (10000)]
  refine call_in (n := 37) Try.func52 rfl rfl rfl rfl rfl rfl rfl ?_
  repeat' ((conv => whnf); first | refine eqS_rfl ?_ | refine eqA_rfl ?_ | refine eqA_of (by assumption) ?_ | refine eqS_of (by rfl) ?_ | refine eqL_rfl ?_ | refine eqJ_rfl ?_ | refine gE ?_ | refine seS_rfl ?_ | refine lsS_of hup ?_ | refine lsS_rfl ?_ | refine brS_tt ?_ | refine brS_ff ?_ | refine brS_not ?_ | refine gI ?_ | refine gT ?_ | refine gF ?_ | refine brS_intro (fun _ => ?_) (fun _ => ?_) | refine gL ?_ | refine gX ?_ | refine gO ?_ | refine gN ?_ | refine call_readL (c21 F k hF am n em cm lo hi hn0 hn hlh) (addL (8900 + R) 0) (by rfl) (by exact SeesM.cons 1000 (sees_ro (i := 1000) (by rfl)) (SeesM.nil _) (fun _ _ _ _ _ _ x hx => by cases hx)) (nM1) ?_ | intro _)
  conv => whnf
  refine loS_i (fun jj f mm R' ni => ∃ j : Nat, j ≤ n ∧ jj = n - j + 1 ∧ f = [(0, .sl 1000 am n cm), (1, .sl 1001 ao n co), (6, u32 (stL o j)), (19, .sl 1001 ao n co), (20, .int .i64 (Int.ofNat n)), (21, .int .i64 (Int.ofNat j))] ∧ mm = [(1000, .ro am n em 2 (mf lo hi)), (1001, .ro ao n eo 1 (nf o))] ∧ R' = (addL (60 * (n - j) + R) 20) ∧ ni = 10) (n + 1) (by omega)
    ⟨[(0, .sl 1000 am n cm), (1, .sl 1001 ao n co), (6, u32 (stL o 0)), (19, .sl 1001 ao n co), (20, .int .i64 (Int.ofNat n)), (21, .int .i64 (Int.ofNat 0))], [(1000, .ro am n em 2 (mf lo hi)), (1001, .ro ao n eo 1 (nf o))], (addL (60 * (n - 0) + R) 20), 10, ⟨eqF_rfl _, eqF_rfl _, eqF_rfl _, eqF_rfl _, eqF_rfl _, eqF_rfl _, trivial⟩, WkM.refl _, nM1, 0, by omega, by omega, rfl, rfl, rfl, rfl⟩ ?_
  rintro _ _ _ _ _ ⟨j, hj, rfl, rfl, rfl, rfl, rfl⟩
  have h32 : ∀ j, j < n → o j < 32 := fun j hj => by have := ho j hj; omega
  have hs := stL_lt h32 hj
  by_cases hlt : j < n
  · have h1 := iLt_t hlt
    have hb : (stL o j).testBit (o j) = false := bool_tf fun h => by
      obtain ⟨i, hi', e⟩ := (stL_bit o (o j) j).1 h
      have := hin i j (by omega) hlt e
      omega
    repeat' ((conv => whnf); first | refine eqS_rfl ?_ | refine eqA_rfl ?_ | refine eqA_of (by assumption) ?_ | refine eqS_of (by rfl) ?_ | refine eqL_rfl ?_ | refine eqJ_rfl ?_ | refine gE ?_ | refine seS_rfl ?_ | refine lsS_of hup ?_ | refine lsS_rfl ?_ | refine brS_tt ?_ | refine brS_ff ?_ | refine brS_not ?_ | refine gI ?_ | refine gT ?_ | refine gF ?_ | refine brS_intro (fun _ => ?_) (fun _ => ?_) | refine gL ?_ | refine gX ?_ | refine gO ?_ | refine gN ?_ | refine call_pure (c56 F _ (o j) n (ho j hlt)) ?_ | refine call_pure (c79 F _ (stL o j) (o j) hs (h32 j hlt) false hb) ?_ | refine call_pure (c80 F _ (stL o j) (o j) hs (h32 j hlt)) ?_ | intro _)
    conv => whnf
    exact ⟨n - (j + 1) + 1, [(0, .sl 1000 am n cm), (1, .sl 1001 ao n co), (6, u32 (stL o (j + 1))), (19, .sl 1001 ao n co), (20, .int .i64 (Int.ofNat n)), (21, .int .i64 (Int.ofNat (j + 1)))], _, (addL (60 * (n - (j + 1)) + R) 20), 10, by omega, ⟨eqF_rfl _, eqF_rfl _, eqF_rfl _, eqF_rfl _, eqF_rfl _, ⟨congrArg (Value.int .i64) (smn (i := j + 1) (by omega)), rfl⟩, trivial⟩, WkM.refl _, nM1, j + 1, by omega, rfl, rfl, rfl, rfl, rfl⟩
  · have e2 : n = j := by omega
    subst e2
    have h1 := iLt_f (Nat.le_refl n)
    repeat' ((conv => whnf); first | refine eqS_rfl ?_ | refine eqA_rfl ?_ | refine eqA_of (by assumption) ?_ | refine eqS_of (by rfl) ?_ | refine eqL_rfl ?_ | refine eqJ_rfl ?_ | refine gE ?_ | refine seS_rfl ?_ | refine lsS_of hup ?_ | refine lsS_rfl ?_ | refine brS_tt ?_ | refine brS_ff ?_ | refine brS_not ?_ | refine gI ?_ | refine gT ?_ | refine gF ?_ | refine brS_intro (fun _ => ?_) (fun _ => ?_) | refine gL ?_ | refine gX ?_ | refine gO ?_ | refine gN ?_ | intro _)
    conv => whnf
    exact ⟨rfl, nM1⟩
theorem c19 (F k : Nat) (hF : 200 < F) (am : Option Addr) (n em cm : Nat) (lo hi : Nat → Nat) (hn0 : 0 < n) (hn : n ≤ 30) (hlh : ∀ j, j < n → lo j ≤ hi j ∧ hi j ≤ 100000) (ao : Option Addr) (eo co : Nat) (o : Nat → Nat) (ho : ∀ j, j < n → o j < n) (hin : ∀ i j, i < n → j < n → o i = o j → i = j) (h : ∀ p q, p < n → q < n → isF lo hi o p q = false) : ReadC (CL F (k + 4)) 19 [.sl 1000 am n cm, .sl 1001 ao n co] [(1000, .ro am n em 2 (mf lo hi)), (1001, .ro ao n eo 1 (nf o))] (500000 + 100) (.int .i64 (Int.ofNat 0)) := by
  intro R
  rw [show 500000 + 100 = (500000) + 100 from rfl, addL_eq, ← Nat.add_assoc, ← addL_eq _ 100, Nat.add_comm R (500000)]
  refine call_in (n := 23) Try.func19 rfl rfl rfl rfl rfl rfl rfl ?_
  repeat' ((conv => whnf); first | refine eqS_rfl ?_ | refine eqA_rfl ?_ | refine eqA_of (by assumption) ?_ | refine eqS_of (by rfl) ?_ | refine eqL_rfl ?_ | refine eqJ_rfl ?_ | refine gE ?_ | refine seS_rfl ?_ | refine lsS_of hup ?_ | refine lsS_rfl ?_ | refine brS_tt ?_ | refine brS_ff ?_ | refine brS_not ?_ | refine gI ?_ | refine gT ?_ | refine gF ?_ | refine brS_intro (fun _ => ?_) (fun _ => ?_) | refine gL ?_ | refine gX ?_ | refine gO ?_ | refine gN ?_ | refine call_readL (c52 F _ hF am n em cm lo hi hn0 hn hlh ao eo co o ho hin) (addL (480000 + R) 0) (by rfl) (by exact SeesM.cons 1000 (sees_ro (i := 1000) (by rfl)) (SeesM.cons 1001 (sees_ro (i := 1001) (by rfl)) (SeesM.nil _) (fun _ _ _ _ _ _ x hx => by cases hx)) (fun _ _ _ _ _ _ x hx => by rcases List.mem_singleton.1 hx with rfl; exact fun _ h => h)) (nM1) ?_ | refine call_readL (c53n F _ hF am n em cm lo hi ao eo co o (by omega) ho h) (addL R 0) (by rfl) (by exact SeesM.cons 1000 (sees_ro (i := 1000) (by rfl)) (SeesM.cons 1001 (sees_ro (i := 1001) (by rfl)) (SeesM.nil _) (fun _ _ _ _ _ _ x hx => by cases hx)) (fun _ _ _ _ _ _ x hx => by rcases List.mem_singleton.1 hx with rfl; exact fun _ h => h)) (nM1) ?_ | intro _)
  conv => whnf
  exact ⟨rfl, nM1⟩
theorem c19f (F k : Nat) (hF : 200 < F) (am : Option Addr) (n em cm : Nat) (lo hi : Nat → Nat) (hn0 : 0 < n) (hn : n ≤ 30) (hlh : ∀ j, j < n → lo j ≤ hi j ∧ hi j ≤ 100000) (ao : Option Addr) (eo co : Nat) (o : Nat → Nat) (ho : ∀ j, j < n → o j < n) (hin : ∀ i j, i < n → j < n → o i = o j → i = j) (p q : Nat) (h : Fst (isF lo hi o) n p q) : ReadC (CL F (k + 4)) 19 [.sl 1000 am n cm, .sl 1001 ao n co] [(1000, .ro am n em 2 (mf lo hi)), (1001, .ro ao n eo 1 (nf o))] (500000 + 100) (.int .i64 (Int.ofNat 13)) := by
  intro R
  rw [show 500000 + 100 = (500000) + 100 from rfl, addL_eq, ← Nat.add_assoc, ← addL_eq _ 100, Nat.add_comm R (500000)]
  refine call_in (n := 23) Try.func19 rfl rfl rfl rfl rfl rfl rfl ?_
  repeat' ((conv => whnf); first | refine eqS_rfl ?_ | refine eqA_rfl ?_ | refine eqA_of (by assumption) ?_ | refine eqS_of (by rfl) ?_ | refine eqL_rfl ?_ | refine eqJ_rfl ?_ | refine gE ?_ | refine seS_rfl ?_ | refine lsS_of hup ?_ | refine lsS_rfl ?_ | refine brS_tt ?_ | refine brS_ff ?_ | refine brS_not ?_ | refine gI ?_ | refine gT ?_ | refine gF ?_ | refine brS_intro (fun _ => ?_) (fun _ => ?_) | refine gL ?_ | refine gX ?_ | refine gO ?_ | refine gN ?_ | refine call_readL (c52 F _ hF am n em cm lo hi hn0 hn hlh ao eo co o ho hin) (addL (480000 + R) 0) (by rfl) (by exact SeesM.cons 1000 (sees_ro (i := 1000) (by rfl)) (SeesM.cons 1001 (sees_ro (i := 1001) (by rfl)) (SeesM.nil _) (fun _ _ _ _ _ _ x hx => by cases hx)) (fun _ _ _ _ _ _ x hx => by rcases List.mem_singleton.1 hx with rfl; exact fun _ h => h)) (nM1) ?_ | refine call_readL (c53 F _ hF am n em cm lo hi ao eo co o (by omega) ho p q h) (addL R 0) (by rfl) (by exact SeesM.cons 1000 (sees_ro (i := 1000) (by rfl)) (SeesM.cons 1001 (sees_ro (i := 1001) (by rfl)) (SeesM.nil _) (fun _ _ _ _ _ _ x hx => by cases hx)) (fun _ _ _ _ _ _ x hx => by rcases List.mem_singleton.1 hx with rfl; exact fun _ h => h)) (nM1) ?_ | intro _)
  conv => whnf
  exact ⟨rfl, nM1⟩
theorem c15 (F k : Nat) (hF : 200 < F) (am : Option Addr) (n em cm : Nat) (lo hi : Nat → Nat) (hn0 : 0 < n) (hn : n ≤ 30) (hlh : ∀ j, j < n → lo j ≤ hi j ∧ hi j ≤ 100000) (ao : Option Addr) (eo co : Nat) (o : Nat → Nat) (ho : ∀ j, j < n → o j < n) (hin : ∀ i j, i < n → j < n → o i = o j → i = j) (h : ∀ p q, p < n → q < n → isF lo hi o p q = false) : ReadC (CL F (k + 4)) 15 [.sl 1000 am n cm, .sl 1001 ao n co] [(1000, .ro am n em 2 (mf lo hi)), (1001, .ro ao n eo 1 (nf o))] (500000 + 100) (.tup [.int .i64 (Int.ofNat 0), .int .i64 (Int.ofNat 0), .int .i64 (Int.ofNat 6)]) := by
  intro R
  rw [show 500000 + 100 = (500000) + 100 from rfl, addL_eq, ← Nat.add_assoc, ← addL_eq _ 100, Nat.add_comm R (500000)]
  refine call_in (n := 26) Try.func15 rfl rfl rfl rfl rfl rfl rfl ?_
  repeat' ((conv => whnf); first | refine eqS_rfl ?_ | refine eqA_rfl ?_ | refine eqA_of (by assumption) ?_ | refine eqS_of (by rfl) ?_ | refine eqL_rfl ?_ | refine eqJ_rfl ?_ | refine gE ?_ | refine seS_rfl ?_ | refine lsS_of hup ?_ | refine lsS_rfl ?_ | refine brS_tt ?_ | refine brS_ff ?_ | refine brS_not ?_ | refine gI ?_ | refine gT ?_ | refine gF ?_ | refine brS_intro (fun _ => ?_) (fun _ => ?_) | refine gL ?_ | refine gX ?_ | refine gO ?_ | refine gN ?_ | refine call_readL (c52 F _ hF am n em cm lo hi hn0 hn hlh ao eo co o ho hin) (addL (480000 + R) 0) (by rfl) (by exact SeesM.cons 1000 (sees_ro (i := 1000) (by rfl)) (SeesM.cons 1001 (sees_ro (i := 1001) (by rfl)) (SeesM.nil _) (fun _ _ _ _ _ _ x hx => by cases hx)) (fun _ _ _ _ _ _ x hx => by rcases List.mem_singleton.1 hx with rfl; exact fun _ h => h)) (nM1) ?_ | refine call_readL (c53n F _ hF am n em cm lo hi ao eo co o (by omega) ho h) (addL R 0) (by rfl) (by exact SeesM.cons 1000 (sees_ro (i := 1000) (by rfl)) (SeesM.cons 1001 (sees_ro (i := 1001) (by rfl)) (SeesM.nil _) (fun _ _ _ _ _ _ x hx => by cases hx)) (fun _ _ _ _ _ _ x hx => by rcases List.mem_singleton.1 hx with rfl; exact fun _ h => h)) (nM1) ?_ | intro _)
  conv => whnf
  exact ⟨rfl, nM1⟩
theorem c15f (F k : Nat) (hF : 200 < F) (am : Option Addr) (n em cm : Nat) (lo hi : Nat → Nat) (hn0 : 0 < n) (hn : n ≤ 30) (hlh : ∀ j, j < n → lo j ≤ hi j ∧ hi j ≤ 100000) (ao : Option Addr) (eo co : Nat) (o : Nat → Nat) (ho : ∀ j, j < n → o j < n) (hin : ∀ i j, i < n → j < n → o i = o j → i = j) (p q : Nat) (h : Fst (isF lo hi o) n p q) : ReadC (CL F (k + 4)) 15 [.sl 1000 am n cm, .sl 1001 ao n co] [(1000, .ro am n em 2 (mf lo hi)), (1001, .ro ao n eo 1 (nf o))] (500000 + 100) (.tup [.int .i64 (Int.ofNat p), .int .i64 (Int.ofNat q), .int .i64 (Int.ofNat 0)]) := by
  intro R
  rw [show 500000 + 100 = (500000) + 100 from rfl, addL_eq, ← Nat.add_assoc, ← addL_eq _ 100, Nat.add_comm R (500000)]
  refine call_in (n := 26) Try.func15 rfl rfl rfl rfl rfl rfl rfl ?_
  repeat' ((conv => whnf); first | refine eqS_rfl ?_ | refine eqA_rfl ?_ | refine eqA_of (by assumption) ?_ | refine eqS_of (by rfl) ?_ | refine eqL_rfl ?_ | refine eqJ_rfl ?_ | refine gE ?_ | refine seS_rfl ?_ | refine lsS_of hup ?_ | refine lsS_rfl ?_ | refine brS_tt ?_ | refine brS_ff ?_ | refine brS_not ?_ | refine gI ?_ | refine gT ?_ | refine gF ?_ | refine brS_intro (fun _ => ?_) (fun _ => ?_) | refine gL ?_ | refine gX ?_ | refine gO ?_ | refine gN ?_ | refine call_readL (c52 F _ hF am n em cm lo hi hn0 hn hlh ao eo co o ho hin) (addL (480000 + R) 0) (by rfl) (by exact SeesM.cons 1000 (sees_ro (i := 1000) (by rfl)) (SeesM.cons 1001 (sees_ro (i := 1001) (by rfl)) (SeesM.nil _) (fun _ _ _ _ _ _ x hx => by cases hx)) (fun _ _ _ _ _ _ x hx => by rcases List.mem_singleton.1 hx with rfl; exact fun _ h => h)) (nM1) ?_ | refine call_readL (c53 F _ hF am n em cm lo hi ao eo co o (by omega) ho p q h) (addL R 0) (by rfl) (by exact SeesM.cons 1000 (sees_ro (i := 1000) (by rfl)) (SeesM.cons 1001 (sees_ro (i := 1001) (by rfl)) (SeesM.nil _) (fun _ _ _ _ _ _ x hx => by cases hx)) (fun _ _ _ _ _ _ x hx => by rcases List.mem_singleton.1 hx with rfl; exact fun _ h => h)) (nM1) ?_ | intro _)
  conv => whnf
  exact ⟨rfl, nM1⟩
/-- what Verify answers for indices -/
def vfE (b : Bool) : Nat := bif b then 0 else 12
theorem c17 (F k : Nat) (hF : 200 < F) (am : Option Addr) (n em cm : Nat) (lo hi : Nat → Nat) (hn0 : 0 < n) (hn : n ≤ 30) (hlh : ∀ j, j < n → lo j ≤ hi j ∧ hi j ≤ 100000) (ao : Option Addr) (eo co : Nat) (o : Nat → Nat) (ho : ∀ j, j < n → o j < n) (hin : ∀ i j, i < n → j < n → o i = o j → i = j) (p q : Nat) (hp : p < n) (hq : q < n) : ReadC (CL F (k + 4)) 17 [.sl 1000 am n cm, .sl 1001 ao n co, .int .i64 (Int.ofNat p), .int .i64 (Int.ofNat q)] [(1000, .ro am n em 2 (mf lo hi)), (1001, .ro ao n eo 1 (nf o))] (12000 + 100) (.int .i64 (Int.ofNat (vfE (isF lo hi o p q)))) := by
  intro R
  rw [show 12000 + 100 = (12000) + 100 from rfl, addL_eq, ← Nat.add_assoc, ← addL_eq _ 100, Nat.add_comm R (12000)]
  cases hb : isF lo hi o p q
  all_goals
    have hb2 := hb
    refine call_in (n := 34) Try.func17 rfl rfl rfl rfl rfl rfl rfl ?_
    repeat' ((conv => whnf); first | refine eqS_rfl ?_ | refine eqA_rfl ?_ | refine eqA_of (by assumption) ?_ | refine eqS_of (by rfl) ?_ | refine eqL_rfl ?_ | refine eqJ_rfl ?_ | refine gE ?_ | refine seS_rfl ?_ | refine lsS_of hup ?_ | refine lsS_rfl ?_ | refine brS_tt ?_ | refine brS_ff ?_ | refine brS_not ?_ | refine gI ?_ | refine gT ?_ | refine gF ?_ | refine brS_intro (fun _ => ?_) (fun _ => ?_) | refine gL ?_ | refine gX ?_ | refine gO ?_ | refine gN ?_ | refine call_readL (c52 F _ hF am n em cm lo hi hn0 hn hlh ao eo co o ho hin) (addL (1000 + R) 50) (by rfl) (by exact SeesM.cons 1000 (sees_ro (i := 1000) (by rfl)) (SeesM.cons 1001 (sees_ro (i := 1001) (by rfl)) (SeesM.nil _) (fun _ _ _ _ _ _ x hx => by cases hx)) (fun _ _ _ _ _ _ x hx => by rcases List.mem_singleton.1 hx with rfl; exact fun _ h => h)) (nM1) ?_ | refine call_pure (c56 F _ p n hp) ?_ | refine call_pure (c56 F _ q n hq) ?_ | refine call_readL (c57 F _ am n em cm lo hi ao eo co o ho p q hp hq) (addL R 0) (by rfl) (by exact SeesM.cons 1000 (sees_ro (i := 1000) (by rfl)) (SeesM.cons 1001 (sees_ro (i := 1001) (by rfl)) (SeesM.nil _) (fun _ _ _ _ _ _ x hx => by cases hx)) (fun _ _ _ _ _ _ x hx => by rcases List.mem_singleton.1 hx with rfl; exact fun _ h => h)) (nM1) ?_ | intro _)
    conv => whnf
    exact ⟨rfl, nM1⟩
end Go.Proofs.Ytefnljdfgjjpjaa
