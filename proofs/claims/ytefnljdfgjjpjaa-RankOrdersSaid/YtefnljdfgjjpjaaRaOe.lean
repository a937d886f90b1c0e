/- RankOrders: errors; Verify and Possible of the reference. -/
import Derived.Test.YtefnljdfgjjpjaaRaOd
import Derived.KernelRfl
namespace Go.Proofs.Ytefnljdfgjjpjaa
open Go.Ab
attribute [local irreducible] aggOk drwOK
set_option maxRecDepth 100000
set_option maxHeartbeats 4000000
set_option linter.unusedVariables false
set_option linter.unusedSimpArgs false
theorem c15e (F k : Nat) (hF : 200 < F) (am : Option Addr) (n em cm : Nat) (x y : Nat → Int) (ao : Option Addr) (nO eo co : Nat) (o : Nat → Int) (he : odE x y n nO o ≠ 0) : ReadC (CL F (k + 4)) 15 [.sl 1000 am n cm, .sl 1001 ao nO co] [(1000, .ro am n em 2 (mi x y)), (1001, .ro ao nO eo 1 (oi o))] (500000 + 100) (.tup [.int .i64 0, .int .i64 0, .int .i64 (Int.ofNat (odE x y n nO o))]) := by
  have k5 := c52i F (k + 1) hF am n em cm x y ao nO eo co o
  generalize odE x y n nO o = e at k5 he ⊢
  have te : iEq (Int.ofNat e) 0 = false := (iEq_n (b := 0)).trans (decide_eq_false he)
  intro R
  rw [show 500000 + 100 = (500000) + 100 from rfl, addL_eq, ← Nat.add_assoc, ← addL_eq _ 100, Nat.add_comm R (500000)]
  refine call_in (n := 26) Try.func15 rfl rfl rfl rfl rfl rfl rfl ?_
  repeat' ((conv => whnf); first | refine eqS_rfl ?_ | refine eqA_rfl ?_ | refine eqA_of (by assumption) ?_ | refine eqS_of (by rfl) ?_ | refine eqL_rfl ?_ | refine eqJ_rfl ?_ | refine gE ?_ | refine seS_rfl ?_ | refine lsS_of hup ?_ | refine lsS_rfl ?_ | refine brS_tt ?_ | refine brS_ff ?_ | refine brS_not ?_ | refine gI ?_ | refine gT ?_ | refine gF ?_ | refine brS_intro (fun _ => ?_) (fun _ => ?_) | refine gL ?_ | refine gX ?_ | refine gO ?_ | refine gN ?_ | refine call_readL (k5) (addL (300000 + R) 50) (by rfl) (by exact SeesM.cons 1000 (sees_ro (i := 1000) (by rfl)) (SeesM.cons 1001 (sees_ro (i := 1001) (by rfl)) (SeesM.nil _) (fun _ _ _ _ _ _ x hx => by cases hx)) (fun _ _ _ _ _ _ x hx => by rcases List.mem_singleton.1 hx with rfl; exact fun _ h => h)) (nM1) ?_ | intro _)
  conv => whnf
  exact ⟨rfl, nM1⟩
theorem c16e (F k : Nat) (hF : 200 < F) (am : Option Addr) (n em cm : Nat) (x y : Nat → Int) (ao : Option Addr) (nO eo co : Nat) (o : Nat → Int) (he : odE x y n nO o ≠ 0) : ReadC (CL F (k + 4)) 16 [.sl 1000 am n cm, .sl 1001 ao nO co] [(1000, .ro am n em 2 (mi x y)), (1001, .ro ao nO eo 1 (oi o))] (500000 + 100) (.tup [.int .i64 0, .int .i64 0, .int .i64 (Int.ofNat (odE x y n nO o))]) := by
  have k5 := c54i F (k + 0) hF am n em cm x y ao nO eo co o
  generalize odE x y n nO o = e at k5 he ⊢
  have te : iEq (Int.ofNat e) 0 = false := (iEq_n (b := 0)).trans (decide_eq_false he)
  intro R
  rw [show 500000 + 100 = (500000) + 100 from rfl, addL_eq, ← Nat.add_assoc, ← addL_eq _ 100, Nat.add_comm R (500000)]
  refine call_in (n := 42) Try.func16 rfl rfl rfl rfl rfl rfl rfl ?_
  repeat' ((conv => whnf); first | refine eqS_rfl ?_ | refine eqA_rfl ?_ | refine eqA_of (by assumption) ?_ | refine eqS_of (by rfl) ?_ | refine eqL_rfl ?_ | refine eqJ_rfl ?_ | refine gE ?_ | refine seS_rfl ?_ | refine lsS_of hup ?_ | refine lsS_rfl ?_ | refine brS_tt ?_ | refine brS_ff ?_ | refine brS_not ?_ | refine gI ?_ | refine gT ?_ | refine gF ?_ | refine brS_intro (fun _ => ?_) (fun _ => ?_) | refine gL ?_ | refine gX ?_ | refine gO ?_ | refine gN ?_ | refine call_readL (k5) (addL (300000 + R) 50) (by rfl) (by exact SeesM.cons 1000 (sees_ro (i := 1000) (by rfl)) (SeesM.cons 1001 (sees_ro (i := 1001) (by rfl)) (SeesM.nil _) (fun _ _ _ _ _ _ x hx => by cases hx)) (fun _ _ _ _ _ _ x hx => by rcases List.mem_singleton.1 hx with rfl; exact fun _ h => h)) (nM1) ?_ | intro _)
  conv => whnf
  exact ⟨rfl, nM1⟩
theorem c17e (F k : Nat) (hF : 200 < F) (am : Option Addr) (n em cm : Nat) (x y : Nat → Int) (ao : Option Addr) (nO eo co : Nat) (o : Nat → Int) (p q : Int) (he : odE x y n nO o ≠ 0) : ReadC (CL F (k + 4)) 17 [.sl 1000 am n cm, .sl 1001 ao nO co, .int .i64 p, .int .i64 q] [(1000, .ro am n em 2 (mi x y)), (1001, .ro ao nO eo 1 (oi o))] (500000 + 100) (.int .i64 (Int.ofNat (odE x y n nO o))) := by
  have k5 := c52i F (k + 1) hF am n em cm x y ao nO eo co o
  generalize odE x y n nO o = e at k5 he ⊢
  have te : iEq (Int.ofNat e) 0 = false := (iEq_n (b := 0)).trans (decide_eq_false he)
  intro R
  rw [show 500000 + 100 = (500000) + 100 from rfl, addL_eq, ← Nat.add_assoc, ← addL_eq _ 100, Nat.add_comm R (500000)]
  refine call_in (n := 34) Try.func17 rfl rfl rfl rfl rfl rfl rfl ?_
  repeat' ((conv => whnf); first | refine eqS_rfl ?_ | refine eqA_rfl ?_ | refine eqA_of (by assumption) ?_ | refine eqS_of (by rfl) ?_ | refine eqL_rfl ?_ | refine eqJ_rfl ?_ | refine gE ?_ | refine seS_rfl ?_ | refine lsS_of hup ?_ | refine lsS_rfl ?_ | refine brS_tt ?_ | refine brS_ff ?_ | refine brS_not ?_ | refine gI ?_ | refine gT ?_ | refine gF ?_ | refine brS_intro (fun _ => ?_) (fun _ => ?_) | refine gL ?_ | refine gX ?_ | refine gO ?_ | refine gN ?_ | refine call_readL (k5) (addL (300000 + R) 50) (by rfl) (by exact SeesM.cons 1000 (sees_ro (i := 1000) (by rfl)) (SeesM.cons 1001 (sees_ro (i := 1001) (by rfl)) (SeesM.nil _) (fun _ _ _ _ _ _ x hx => by cases hx)) (fun _ _ _ _ _ _ x hx => by rcases List.mem_singleton.1 hx with rfl; exact fun _ h => h)) (nM1) ?_ | intro _)
  conv => whnf
  exact ⟨rfl, nM1⟩
theorem c18e (F k : Nat) (hF : 200 < F) (am : Option Addr) (n em cm : Nat) (x y : Nat → Int) (ao : Option Addr) (nO eo co : Nat) (o : Nat → Int) (p q : Int) (he : odE x y n nO o ≠ 0) : ReadC (CL F (k + 4)) 18 [.sl 1000 am n cm, .sl 1001 ao nO co, .int .i64 p, .int .i64 q] [(1000, .ro am n em 2 (mi x y)), (1001, .ro ao nO eo 1 (oi o))] (500000 + 100) (.int .i64 (Int.ofNat (odE x y n nO o))) := by
  have k5 := c54i F (k + 0) hF am n em cm x y ao nO eo co o
  generalize odE x y n nO o = e at k5 he ⊢
  have te : iEq (Int.ofNat e) 0 = false := (iEq_n (b := 0)).trans (decide_eq_false he)
  intro R
  rw [show 500000 + 100 = (500000) + 100 from rfl, addL_eq, ← Nat.add_assoc, ← addL_eq _ 100, Nat.add_comm R (500000)]
  refine call_in (n := 46) Try.func18 rfl rfl rfl rfl rfl rfl rfl ?_
  repeat' ((conv => whnf); first | refine eqS_rfl ?_ | refine eqA_rfl ?_ | refine eqA_of (by assumption) ?_ | refine eqS_of (by rfl) ?_ | refine eqL_rfl ?_ | refine eqJ_rfl ?_ | refine gE ?_ | refine seS_rfl ?_ | refine lsS_of hup ?_ | refine lsS_rfl ?_ | refine brS_tt ?_ | refine brS_ff ?_ | refine brS_not ?_ | refine gI ?_ | refine gT ?_ | refine gF ?_ | refine brS_intro (fun _ => ?_) (fun _ => ?_) | refine gL ?_ | refine gX ?_ | refine gO ?_ | refine gN ?_ | refine call_readL (k5) (addL (300000 + R) 50) (by rfl) (by exact SeesM.cons 1000 (sees_ro (i := 1000) (by rfl)) (SeesM.cons 1001 (sees_ro (i := 1001) (by rfl)) (SeesM.nil _) (fun _ _ _ _ _ _ x hx => by cases hx)) (fun _ _ _ _ _ _ x hx => by rcases List.mem_singleton.1 hx with rfl; exact fun _ h => h)) (nM1) ?_ | intro _)
  conv => whnf
  exact ⟨rfl, nM1⟩
theorem c19e (F k : Nat) (hF : 200 < F) (am : Option Addr) (n em cm : Nat) (x y : Nat → Int) (ao : Option Addr) (nO eo co : Nat) (o : Nat → Int) (he : odE x y n nO o ≠ 0) : ReadC (CL F (k + 4)) 19 [.sl 1000 am n cm, .sl 1001 ao nO co] [(1000, .ro am n em 2 (mi x y)), (1001, .ro ao nO eo 1 (oi o))] (500000 + 100) (.int .i64 (Int.ofNat (odE x y n nO o))) := by
  have k5 := c52i F (k + 1) hF am n em cm x y ao nO eo co o
  generalize odE x y n nO o = e at k5 he ⊢
  have te : iEq (Int.ofNat e) 0 = false := (iEq_n (b := 0)).trans (decide_eq_false he)
  intro R
  rw [show 500000 + 100 = (500000) + 100 from rfl, addL_eq, ← Nat.add_assoc, ← addL_eq _ 100, Nat.add_comm R (500000)]
  refine call_in (n := 23) Try.func19 rfl rfl rfl rfl rfl rfl rfl ?_
  repeat' ((conv => whnf); first | refine eqS_rfl ?_ | refine eqA_rfl ?_ | refine eqA_of (by assumption) ?_ | refine eqS_of (by rfl) ?_ | refine eqL_rfl ?_ | refine eqJ_rfl ?_ | refine gE ?_ | refine seS_rfl ?_ | refine lsS_of hup ?_ | refine lsS_rfl ?_ | refine brS_tt ?_ | refine brS_ff ?_ | refine brS_not ?_ | refine gI ?_ | refine gT ?_ | refine gF ?_ | refine brS_intro (fun _ => ?_) (fun _ => ?_) | refine gL ?_ | refine gX ?_ | refine gO ?_ | refine gN ?_ | refine call_readL (k5) (addL (300000 + R) 50) (by rfl) (by exact SeesM.cons 1000 (sees_ro (i := 1000) (by rfl)) (SeesM.cons 1001 (sees_ro (i := 1001) (by rfl)) (SeesM.nil _) (fun _ _ _ _ _ _ x hx => by cases hx)) (fun _ _ _ _ _ _ x hx => by rcases List.mem_singleton.1 hx with rfl; exact fun _ h => h)) (nM1) ?_ | intro _)
  conv => whnf
  exact ⟨rfl, nM1⟩
theorem c20e (F k : Nat) (hF : 200 < F) (am : Option Addr) (n em cm : Nat) (x y : Nat → Int) (ao : Option Addr) (nO eo co : Nat) (o : Nat → Int) (he : odE x y n nO o ≠ 0) : ReadC (CL F (k + 5)) 20 [.sl 1000 am n cm, .sl 1001 ao nO co] [(1000, .ro am n em 2 (mi x y)), (1001, .ro ao nO eo 1 (oi o))] (2000000 + 100) (.int .i64 (Int.ofNat (odE x y n nO o))) := by
  have k16 := c16e F k hF am n em cm x y ao nO eo co o he
  have k54 := c54i F (k + 1) hF am n em cm x y ao nO eo co o
  generalize odE x y n nO o = e at k16 k54 he ⊢
  have te : iEq (Int.ofNat e) 0 = false := (iEq_n (b := 0)).trans (decide_eq_false he)
  intro R
  rw [show 2000000 + 100 = (2000000) + 100 from rfl, addL_eq, ← Nat.add_assoc, ← addL_eq _ 100, Nat.add_comm R (2000000)]
  cases t6 : iEq (Int.ofNat e) 6 with
  | true =>
    refine call_in (n := 26) Try.func20 rfl rfl rfl rfl rfl rfl rfl ?_
    repeat' ((conv => whnf); first | refine eqS_rfl ?_ | refine eqA_rfl ?_ | refine eqA_of (by assumption) ?_ | refine eqS_of (by rfl) ?_ | refine eqL_rfl ?_ | refine eqJ_rfl ?_ | refine gE ?_ | refine seS_rfl ?_ | refine lsS_of hup ?_ | refine lsS_rfl ?_ | refine brS_tt ?_ | refine brS_ff ?_ | refine brS_not ?_ | refine gI ?_ | refine gT ?_ | refine gF ?_ | refine brS_intro (fun _ => ?_) (fun _ => ?_) | refine gL ?_ | refine gX ?_ | refine gO ?_ | refine gN ?_ | refine call_readL (k16) (addL (1000000 + R) 50) (by rfl) (by exact SeesM.cons 1000 (sees_ro (i := 1000) (by rfl)) (SeesM.cons 1001 (sees_ro (i := 1001) (by rfl)) (SeesM.nil _) (fun _ _ _ _ _ _ x hx => by cases hx)) (fun _ _ _ _ _ _ x hx => by rcases List.mem_singleton.1 hx with rfl; exact fun _ h => h)) (nM1) ?_ | refine call_readL (k54) (addL (300000 + R) 50) (by rfl) (by exact SeesM.cons 1000 (sees_ro (i := 1000) (by rfl)) (SeesM.cons 1001 (sees_ro (i := 1001) (by rfl)) (SeesM.nil _) (fun _ _ _ _ _ _ x hx => by cases hx)) (fun _ _ _ _ _ _ x hx => by rcases List.mem_singleton.1 hx with rfl; exact fun _ h => h)) (nM1) ?_ | intro _)
    conv => whnf
    exact ⟨rfl, nM1⟩
  | false =>
    refine call_in (n := 26) Try.func20 rfl rfl rfl rfl rfl rfl rfl ?_
    repeat' ((conv => whnf); first | refine eqS_rfl ?_ | refine eqA_rfl ?_ | refine eqA_of (by assumption) ?_ | refine eqS_of (by rfl) ?_ | refine eqL_rfl ?_ | refine eqJ_rfl ?_ | refine gE ?_ | refine seS_rfl ?_ | refine lsS_of hup ?_ | refine lsS_rfl ?_ | refine brS_tt ?_ | refine brS_ff ?_ | refine brS_not ?_ | refine gI ?_ | refine gT ?_ | refine gF ?_ | refine brS_intro (fun _ => ?_) (fun _ => ?_) | refine gL ?_ | refine gX ?_ | refine gO ?_ | refine gN ?_ | refine call_readL (k16) (addL (1000000 + R) 50) (by rfl) (by exact SeesM.cons 1000 (sees_ro (i := 1000) (by rfl)) (SeesM.cons 1001 (sees_ro (i := 1001) (by rfl)) (SeesM.nil _) (fun _ _ _ _ _ _ x hx => by cases hx)) (fun _ _ _ _ _ _ x hx => by rcases List.mem_singleton.1 hx with rfl; exact fun _ h => h)) (nM1) ?_ | refine call_readL (k54) (addL (300000 + R) 50) (by rfl) (by exact SeesM.cons 1000 (sees_ro (i := 1000) (by rfl)) (SeesM.cons 1001 (sees_ro (i := 1001) (by rfl)) (SeesM.nil _) (fun _ _ _ _ _ _ x hx => by cases hx)) (fun _ _ _ _ _ _ x hx => by rcases List.mem_singleton.1 hx with rfl; exact fun _ h => h)) (nM1) ?_ | intro _)
    conv => whnf
    exact ⟨rfl, nM1⟩
theorem c20f (F k : Nat) (hF : 200 < F) (am : Option Addr) (n em cm : Nat) (lo hi : Nat → Nat) (hn0 : 0 < n) (hn : n ≤ 30) (hlh : ∀ j, j < n → lo j ≤ hi j ∧ hi j ≤ 100000) (ao : Option Addr) (eo co : Nat) (o : Nat → Nat) (ho : ∀ j, j < n → o j < n) (hin : ∀ i j, i < n → j < n → o i = o j → i = j) (hod : odE (fun z => Int.ofNat (lo z)) (fun z => Int.ofNat (hi z)) n n (fun z => Int.ofNat (o z)) = 0) (p q : Nat) (h : Fst (isF lo hi o) n p q) : ReadC (CL F (k + 5)) 20 [.sl 1000 am n cm, .sl 1001 ao n co] [(1000, .ro am n em 2 (mf lo hi)), (1001, .ro ao n eo 1 (nf o))] (2000000 + 100) (.int .i64 (Int.ofNat 13)) := by
  have k16 := c16f F k hF am n em cm lo hi hn0 hn hlh ao eo co o ho hin hod p q h
  intro R
  rw [show 2000000 + 100 = (2000000) + 100 from rfl, addL_eq, ← Nat.add_assoc, ← addL_eq _ 100, Nat.add_comm R (2000000)]
  refine call_in (n := 26) Try.func20 rfl rfl rfl rfl rfl rfl rfl ?_
  repeat' ((conv => whnf); first | refine eqS_rfl ?_ | refine eqA_rfl ?_ | refine eqA_of (by assumption) ?_ | refine eqS_of (by rfl) ?_ | refine eqL_rfl ?_ | refine eqJ_rfl ?_ | refine gE ?_ | refine seS_rfl ?_ | refine lsS_of hup ?_ | refine lsS_rfl ?_ | refine brS_tt ?_ | refine brS_ff ?_ | refine brS_not ?_ | refine gI ?_ | refine gT ?_ | refine gF ?_ | refine brS_intro (fun _ => ?_) (fun _ => ?_) | refine gL ?_ | refine gX ?_ | refine gO ?_ | refine gN ?_ | refine call_readL (k16) (addL (1000000 + R) 50) (by rfl) (by exact SeesM.cons 1000 (sees_ro (i := 1000) (by rfl)) (SeesM.cons 1001 (sees_ro (i := 1001) (by rfl)) (SeesM.nil _) (fun _ _ _ _ _ _ x hx => by cases hx)) (fun _ _ _ _ _ _ x hx => by rcases List.mem_singleton.1 hx with rfl; exact fun _ h => h)) (nM1) ?_ | intro _)
  conv => whnf
  exact ⟨rfl, nM1⟩
theorem c20n (F k : Nat) (hF : 200 < F) (am : Option Addr) (n em cm : Nat) (lo hi : Nat → Nat) (hn0 : 0 < n) (hn : n ≤ 30) (hlh : ∀ j, j < n → lo j ≤ hi j ∧ hi j ≤ 100000) (ao : Option Addr) (eo co : Nat) (o : Nat → Nat) (ho : ∀ j, j < n → o j < n) (hin : ∀ i j, i < n → j < n → o i = o j → i = j) (hod : odE (fun z => Int.ofNat (lo z)) (fun z => Int.ofNat (hi z)) n n (fun z => Int.ofNat (o z)) = 0) (h : ∀ p q, p < n → q < n → isF lo hi o p q = false) : ReadC (CL F (k + 5)) 20 [.sl 1000 am n cm, .sl 1001 ao n co] [(1000, .ro am n em 2 (mf lo hi)), (1001, .ro ao n eo 1 (nf o))] (2000000 + 100) (.int .i64 (Int.ofNat 0)) := by
  have k16 := c16n F k hF am n em cm lo hi hn0 hn hlh ao eo co o ho hin hod h
  have k54 : ReadC (CL F (k + 4)) 54 [.sl 1000 am n cm, .sl 1001 ao n co] [(1000, .ro am n em 2 (mf lo hi)), (1001, .ro ao n eo 1 (nf o))] (100000 + 100) (.int .i64 0) := by have h := c54i F (k + 1) hF am n em cm (fun z => Int.ofNat (lo z)) (fun z => Int.ofNat (hi z)) ao n eo co (fun z => Int.ofNat (o z)); rw [hod] at h; exact h
  intro R
  rw [show 2000000 + 100 = (2000000) + 100 from rfl, addL_eq, ← Nat.add_assoc, ← addL_eq _ 100, Nat.add_comm R (2000000)]
  refine call_in (n := 26) Try.func20 rfl rfl rfl rfl rfl rfl rfl ?_
  repeat' ((conv => whnf); first | refine eqS_rfl ?_ | refine eqA_rfl ?_ | refine eqA_of (by assumption) ?_ | refine eqS_of (by rfl) ?_ | refine eqL_rfl ?_ | refine eqJ_rfl ?_ | refine gE ?_ | refine seS_rfl ?_ | refine lsS_of hup ?_ | refine lsS_rfl ?_ | refine brS_tt ?_ | refine brS_ff ?_ | refine brS_not ?_ | refine gI ?_ | refine gT ?_ | refine gF ?_ | refine brS_intro (fun _ => ?_) (fun _ => ?_) | refine gL ?_ | refine gX ?_ | refine gO ?_ | refine gN ?_ | refine call_readL (k16) (addL (1000000 + R) 50) (by rfl) (by exact SeesM.cons 1000 (sees_ro (i := 1000) (by rfl)) (SeesM.cons 1001 (sees_ro (i := 1001) (by rfl)) (SeesM.nil _) (fun _ _ _ _ _ _ x hx => by cases hx)) (fun _ _ _ _ _ _ x hx => by rcases List.mem_singleton.1 hx with rfl; exact fun _ h => h)) (nM1) ?_ | refine call_readL (k54) (addL (300000 + R) 50) (by rfl) (by exact SeesM.cons 1000 (sees_ro (i := 1000) (by rfl)) (SeesM.cons 1001 (sees_ro (i := 1001) (by rfl)) (SeesM.nil _) (fun _ _ _ _ _ _ x hx => by cases hx)) (fun _ _ _ _ _ _ x hx => by rcases List.mem_singleton.1 hx with rfl; exact fun _ h => h)) (nM1) ?_ | intro _)
  conv => whnf
  exact ⟨rfl, nM1⟩
theorem c17b (F k : Nat) (hF : 200 < F) (am : Option Addr) (n em cm : Nat) (lo hi : Nat → Nat) (hn0 : 0 < n) (hn : n ≤ 30) (hlh : ∀ j, j < n → lo j ≤ hi j ∧ hi j ≤ 100000) (ao : Option Addr) (eo co : Nat) (o : Nat → Nat) (hod : odE (fun z => Int.ofNat (lo z)) (fun z => Int.ofNat (hi z)) n n (fun z => Int.ofNat (o z)) = 0) (p q : Int) (hb : ((!(iLt p 0) && iLt p (Int.ofNat n)) && (!(iLt q 0) && iLt q (Int.ofNat n))) = false) : ReadC (CL F (k + 4)) 17 [.sl 1000 am n cm, .sl 1001 ao n co, .int .i64 p, .int .i64 q] [(1000, .ro am n em 2 (mf lo hi)), (1001, .ro ao n eo 1 (nf o))] (500000 + 100) (.int .i64 (Int.ofNat 6)) := by
  have k5 : ReadC (CL F (k + 3)) 52 [.sl 1000 am n cm, .sl 1001 ao n co] [(1000, .ro am n em 2 (mf lo hi)), (1001, .ro ao n eo 1 (nf o))] (10000 + 100) (.int .i64 0) := by have h := c52i F (k + 1) hF am n em cm (fun z => Int.ofNat (lo z)) (fun z => Int.ofNat (hi z)) ao n eo co (fun z => Int.ofNat (o z)); rw [hod] at h; exact h
  intro R
  rw [show 500000 + 100 = (500000) + 100 from rfl, addL_eq, ← Nat.add_assoc, ← addL_eq _ 100, Nat.add_comm R (500000)]
  cases e1 : (!(iLt p 0) && iLt p (Int.ofNat n)) with
  | false =>
    refine call_in (n := 34) Try.func17 rfl rfl rfl rfl rfl rfl rfl ?_
    repeat' ((conv => whnf); first | refine eqS_rfl ?_ | refine eqA_rfl ?_ | refine eqA_of (by assumption) ?_ | refine eqS_of (by rfl) ?_ | refine eqL_rfl ?_ | refine eqJ_rfl ?_ | refine gE ?_ | refine seS_rfl ?_ | refine lsS_of hup ?_ | refine lsS_rfl ?_ | refine brS_tt ?_ | refine brS_ff ?_ | refine brS_not ?_ | refine gI ?_ | refine gT ?_ | refine gF ?_ | refine brS_intro (fun _ => ?_) (fun _ => ?_) | refine gL ?_ | refine gX ?_ | refine gO ?_ | refine gN ?_ | refine call_pure (c56i F _ p (Int.ofNat n) _ e1) ?_ | refine call_pure (c56i F _ q (Int.ofNat n) _ e2) ?_ | refine call_readL (k5) (addL (300000 + R) 50) (by rfl) (by exact SeesM.cons 1000 (sees_ro (i := 1000) (by rfl)) (SeesM.cons 1001 (sees_ro (i := 1001) (by rfl)) (SeesM.nil _) (fun _ _ _ _ _ _ x hx => by cases hx)) (fun _ _ _ _ _ _ x hx => by rcases List.mem_singleton.1 hx with rfl; exact fun _ h => h)) (nM1) ?_ | intro _)
    conv => whnf
    exact ⟨rfl, nM1⟩
  | true =>
    cases e2 : (!(iLt q 0) && iLt q (Int.ofNat n)) with
    | false =>
      refine call_in (n := 34) Try.func17 rfl rfl rfl rfl rfl rfl rfl ?_
      repeat' ((conv => whnf); first | refine eqS_rfl ?_ | refine eqA_rfl ?_ | refine eqA_of (by assumption) ?_ | refine eqS_of (by rfl) ?_ | refine eqL_rfl ?_ | refine eqJ_rfl ?_ | refine gE ?_ | refine seS_rfl ?_ | refine lsS_of hup ?_ | refine lsS_rfl ?_ | refine brS_tt ?_ | refine brS_ff ?_ | refine brS_not ?_ | refine gI ?_ | refine gT ?_ | refine gF ?_ | refine brS_intro (fun _ => ?_) (fun _ => ?_) | refine gL ?_ | refine gX ?_ | refine gO ?_ | refine gN ?_ | refine call_pure (c56i F _ p (Int.ofNat n) _ e1) ?_ | refine call_pure (c56i F _ q (Int.ofNat n) _ e2) ?_ | refine call_readL (k5) (addL (300000 + R) 50) (by rfl) (by exact SeesM.cons 1000 (sees_ro (i := 1000) (by rfl)) (SeesM.cons 1001 (sees_ro (i := 1001) (by rfl)) (SeesM.nil _) (fun _ _ _ _ _ _ x hx => by cases hx)) (fun _ _ _ _ _ _ x hx => by rcases List.mem_singleton.1 hx with rfl; exact fun _ h => h)) (nM1) ?_ | intro _)
      conv => whnf
      exact ⟨rfl, nM1⟩
    | true =>
      rw [e1, e2] at hb
      cases hb
theorem c18b (F k : Nat) (hF : 200 < F) (am : Option Addr) (n em cm : Nat) (lo hi : Nat → Nat) (hn0 : 0 < n) (hn : n ≤ 30) (hlh : ∀ j, j < n → lo j ≤ hi j ∧ hi j ≤ 100000) (ao : Option Addr) (eo co : Nat) (o : Nat → Nat) (hod : odE (fun z => Int.ofNat (lo z)) (fun z => Int.ofNat (hi z)) n n (fun z => Int.ofNat (o z)) = 0) (p q : Int) (hb : ((!(iLt p 0) && iLt p (Int.ofNat n)) && (!(iLt q 0) && iLt q (Int.ofNat n))) = false) : ReadC (CL F (k + 4)) 18 [.sl 1000 am n cm, .sl 1001 ao n co, .int .i64 p, .int .i64 q] [(1000, .ro am n em 2 (mf lo hi)), (1001, .ro ao n eo 1 (nf o))] (500000 + 100) (.int .i64 (Int.ofNat 6)) := by
  have k5 : ReadC (CL F (k + 3)) 54 [.sl 1000 am n cm, .sl 1001 ao n co] [(1000, .ro am n em 2 (mf lo hi)), (1001, .ro ao n eo 1 (nf o))] (100000 + 100) (.int .i64 0) := by have h := c54i F (k + 0) hF am n em cm (fun z => Int.ofNat (lo z)) (fun z => Int.ofNat (hi z)) ao n eo co (fun z => Int.ofNat (o z)); rw [hod] at h; exact h
  intro R
  rw [show 500000 + 100 = (500000) + 100 from rfl, addL_eq, ← Nat.add_assoc, ← addL_eq _ 100, Nat.add_comm R (500000)]
  cases e1 : (!(iLt p 0) && !(iLt (wr .i64 (Int.sub (Int.ofNat n) 1)) p)) with
  | false =>
    refine call_in (n := 46) Try.func18 rfl rfl rfl rfl rfl rfl rfl ?_
    repeat' ((conv => whnf); first | refine eqS_rfl ?_ | refine eqA_rfl ?_ | refine eqA_of (by assumption) ?_ | refine eqS_of (by rfl) ?_ | refine eqL_rfl ?_ | refine eqJ_rfl ?_ | refine gE ?_ | refine seS_rfl ?_ | refine lsS_of hup ?_ | refine lsS_rfl ?_ | refine brS_tt ?_ | refine brS_ff ?_ | refine brS_not ?_ | refine gI ?_ | refine gT ?_ | refine gF ?_ | refine brS_intro (fun _ => ?_) (fun _ => ?_) | refine gL ?_ | refine gX ?_ | refine gO ?_ | refine gN ?_ | refine call_pure (c58 F _ p 0 (wr .i64 (Int.sub (Int.ofNat n) 1)) _ e1) ?_ | refine call_pure (c58 F _ q 0 (wr .i64 (Int.sub (Int.ofNat n) 1)) _ e2) ?_ | refine call_readL (k5) (addL (300000 + R) 50) (by rfl) (by exact SeesM.cons 1000 (sees_ro (i := 1000) (by rfl)) (SeesM.cons 1001 (sees_ro (i := 1001) (by rfl)) (SeesM.nil _) (fun _ _ _ _ _ _ x hx => by cases hx)) (fun _ _ _ _ _ _ x hx => by rcases List.mem_singleton.1 hx with rfl; exact fun _ h => h)) (nM1) ?_ | intro _)
    conv => whnf
    exact ⟨rfl, nM1⟩
  | true =>
    cases e2 : (!(iLt q 0) && !(iLt (wr .i64 (Int.sub (Int.ofNat n) 1)) q)) with
    | false =>
      refine call_in (n := 46) Try.func18 rfl rfl rfl rfl rfl rfl rfl ?_
      repeat' ((conv => whnf); first | refine eqS_rfl ?_ | refine eqA_rfl ?_ | refine eqA_of (by assumption) ?_ | refine eqS_of (by rfl) ?_ | refine eqL_rfl ?_ | refine eqJ_rfl ?_ | refine gE ?_ | refine seS_rfl ?_ | refine lsS_of hup ?_ | refine lsS_rfl ?_ | refine brS_tt ?_ | refine brS_ff ?_ | refine brS_not ?_ | refine gI ?_ | refine gT ?_ | refine gF ?_ | refine brS_intro (fun _ => ?_) (fun _ => ?_) | refine gL ?_ | refine gX ?_ | refine gO ?_ | refine gN ?_ | refine call_pure (c58 F _ p 0 (wr .i64 (Int.sub (Int.ofNat n) 1)) _ e1) ?_ | refine call_pure (c58 F _ q 0 (wr .i64 (Int.sub (Int.ofNat n) 1)) _ e2) ?_ | refine call_readL (k5) (addL (300000 + R) 50) (by rfl) (by exact SeesM.cons 1000 (sees_ro (i := 1000) (by rfl)) (SeesM.cons 1001 (sees_ro (i := 1001) (by rfl)) (SeesM.nil _) (fun _ _ _ _ _ _ x hx => by cases hx)) (fun _ _ _ _ _ _ x hx => by rcases List.mem_singleton.1 hx with rfl; exact fun _ h => h)) (nM1) ?_ | intro _)
      conv => whnf
      exact ⟨rfl, nM1⟩
    | true =>
      rw [le1 hn0 (by omega), Bool.not_not] at e1 e2
      rw [e1, e2] at hb
      cases hb
theorem c18 (F k : Nat) (hF : 200 < F) (am : Option Addr) (n em cm : Nat) (lo hi : Nat → Nat) (hn0 : 0 < n) (hn : n ≤ 30) (hlh : ∀ j, j < n → lo j ≤ hi j ∧ hi j ≤ 100000) (ao : Option Addr) (eo co : Nat) (o : Nat → Nat) (ho : ∀ j, j < n → o j < n) (hin : ∀ i j, i < n → j < n → o i = o j → i = j) (hod : odE (fun z => Int.ofNat (lo z)) (fun z => Int.ofNat (hi z)) n n (fun z => Int.ofNat (o z)) = 0) (p q : Nat) (hp : p < n) (hq : q < n) : ReadC (CL F (k + 4)) 18 [.sl 1000 am n cm, .sl 1001 ao n co, .int .i64 (Int.ofNat p), .int .i64 (Int.ofNat q)] [(1000, .ro am n em 2 (mf lo hi)), (1001, .ro ao n eo 1 (nf o))] (500000 + 100) (.int .i64 (Int.ofNat (vfE (isF lo hi o p q)))) := by
  have k54 : ReadC (CL F (k + 3)) 54 [.sl 1000 am n cm, .sl 1001 ao n co] [(1000, .ro am n em 2 (mf lo hi)), (1001, .ro ao n eo 1 (nf o))] (100000 + 100) (.int .i64 0) := by have h := c54i F k hF am n em cm (fun z => Int.ofNat (lo z)) (fun z => Int.ofNat (hi z)) ao n eo co (fun z => Int.ofNat (o z)); rw [hod] at h; exact h
  have f1 : (!(iLt (Int.ofNat p) 0) && !(iLt (wr .i64 (Int.sub (Int.ofNat n) 1)) (Int.ofNat p))) = true := by rw [le1 hn0 (by omega), iLt_0, iLt_t hp]; rfl
  have f2 : (!(iLt (Int.ofNat q) 0) && !(iLt (wr .i64 (Int.sub (Int.ofNat n) 1)) (Int.ofNat q))) = true := by rw [le1 hn0 (by omega), iLt_0, iLt_t hq]; rfl
  intro R
  rw [show 500000 + 100 = (500000) + 100 from rfl, addL_eq, ← Nat.add_assoc, ← addL_eq _ 100, Nat.add_comm R (500000)]
  by_cases h : p < q
  · have h1 := iLt_t h
    cases hb : qt lo hi (o q) (o p) with
    | true =>
      have e0 : vfE (isF lo hi o p q) = 0 := by unfold isF; rw [hb, decide_eq_true h]; rfl
      refine call_in (n := 46) Try.func18 rfl rfl rfl rfl rfl rfl rfl ?_
      repeat' ((conv => whnf); first | refine eqS_rfl ?_ | refine eqA_rfl ?_ | refine eqA_of (by assumption) ?_ | refine eqS_of (by rfl) ?_ | refine eqL_rfl ?_ | refine eqJ_rfl ?_ | refine gE ?_ | refine seS_rfl ?_ | refine lsS_of hup ?_ | refine lsS_rfl ?_ | refine brS_tt ?_ | refine brS_ff ?_ | refine brS_not ?_ | refine gI ?_ | refine gT ?_ | refine gF ?_ | refine brS_intro (fun _ => ?_) (fun _ => ?_) | refine gL ?_ | refine gX ?_ | refine gO ?_ | refine gN ?_ | refine call_readL (k54) (addL (350000 + R) 50) (by rfl) (by exact SeesM.cons 1000 (sees_ro (i := 1000) (by rfl)) (SeesM.cons 1001 (sees_ro (i := 1001) (by rfl)) (SeesM.nil _) (fun _ _ _ _ _ _ x hx => by cases hx)) (fun _ _ _ _ _ _ x hx => by rcases List.mem_singleton.1 hx with rfl; exact fun _ h => h)) (nM1) ?_ | refine call_pure (c58 F _ (Int.ofNat p) 0 (wr .i64 (Int.sub (Int.ofNat n) 1)) _ f1) ?_ | refine call_pure (c58 F _ (Int.ofNat q) 0 (wr .i64 (Int.sub (Int.ofNat n) 1)) _ f2) ?_ | refine call_readL (c55 F _ am n em cm lo hi (o q) (o p) (ho q hq) (ho p hp)) (addL (1000 + R) 50) (by rfl) (by exact SeesM.cons 1000 (sees_ro (i := 1000) (by rfl)) (SeesM.nil _) (fun _ _ _ _ _ _ x hx => by cases hx)) (nM1) ?_ | intro _)
      conv => whnf
      exact ⟨congrArg (fun z => Value.int .i64 (Int.ofNat z)) e0.symm, nM1⟩
    | false =>
      have e0 : vfE (isF lo hi o p q) = 12 := by unfold isF; rw [hb, decide_eq_true h]; rfl
      refine call_in (n := 46) Try.func18 rfl rfl rfl rfl rfl rfl rfl ?_
      repeat' ((conv => whnf); first | refine eqS_rfl ?_ | refine eqA_rfl ?_ | refine eqA_of (by assumption) ?_ | refine eqS_of (by rfl) ?_ | refine eqL_rfl ?_ | refine eqJ_rfl ?_ | refine gE ?_ | refine seS_rfl ?_ | refine lsS_of hup ?_ | refine lsS_rfl ?_ | refine brS_tt ?_ | refine brS_ff ?_ | refine brS_not ?_ | refine gI ?_ | refine gT ?_ | refine gF ?_ | refine brS_intro (fun _ => ?_) (fun _ => ?_) | refine gL ?_ | refine gX ?_ | refine gO ?_ | refine gN ?_ | refine call_readL (k54) (addL (350000 + R) 50) (by rfl) (by exact SeesM.cons 1000 (sees_ro (i := 1000) (by rfl)) (SeesM.cons 1001 (sees_ro (i := 1001) (by rfl)) (SeesM.nil _) (fun _ _ _ _ _ _ x hx => by cases hx)) (fun _ _ _ _ _ _ x hx => by rcases List.mem_singleton.1 hx with rfl; exact fun _ h => h)) (nM1) ?_ | refine call_pure (c58 F _ (Int.ofNat p) 0 (wr .i64 (Int.sub (Int.ofNat n) 1)) _ f1) ?_ | refine call_pure (c58 F _ (Int.ofNat q) 0 (wr .i64 (Int.sub (Int.ofNat n) 1)) _ f2) ?_ | refine call_readL (c55 F _ am n em cm lo hi (o q) (o p) (ho q hq) (ho p hp)) (addL (1000 + R) 50) (by rfl) (by exact SeesM.cons 1000 (sees_ro (i := 1000) (by rfl)) (SeesM.nil _) (fun _ _ _ _ _ _ x hx => by cases hx)) (nM1) ?_ | intro _)
      conv => whnf
      exact ⟨congrArg (fun z => Value.int .i64 (Int.ofNat z)) e0.symm, nM1⟩
  · have h1 := iLt_f (Nat.not_lt.1 h)
    have e0 : vfE (isF lo hi o p q) = 12 := by unfold isF; rw [decide_eq_false h]; rfl
    refine call_in (n := 46) Try.func18 rfl rfl rfl rfl rfl rfl rfl ?_
    repeat' ((conv => whnf); first | refine eqS_rfl ?_ | refine eqA_rfl ?_ | refine eqA_of (by assumption) ?_ | refine eqS_of (by rfl) ?_ | refine eqL_rfl ?_ | refine eqJ_rfl ?_ | refine gE ?_ | refine seS_rfl ?_ | refine lsS_of hup ?_ | refine lsS_rfl ?_ | refine brS_tt ?_ | refine brS_ff ?_ | refine brS_not ?_ | refine gI ?_ | refine gT ?_ | refine gF ?_ | refine brS_intro (fun _ => ?_) (fun _ => ?_) | refine gL ?_ | refine gX ?_ | refine gO ?_ | refine gN ?_ | refine call_readL (k54) (addL (350000 + R) 50) (by rfl) (by exact SeesM.cons 1000 (sees_ro (i := 1000) (by rfl)) (SeesM.cons 1001 (sees_ro (i := 1001) (by rfl)) (SeesM.nil _) (fun _ _ _ _ _ _ x hx => by cases hx)) (fun _ _ _ _ _ _ x hx => by rcases List.mem_singleton.1 hx with rfl; exact fun _ h => h)) (nM1) ?_ | refine call_pure (c58 F _ (Int.ofNat p) 0 (wr .i64 (Int.sub (Int.ofNat n) 1)) _ f1) ?_ | refine call_pure (c58 F _ (Int.ofNat q) 0 (wr .i64 (Int.sub (Int.ofNat n) 1)) _ f2) ?_ | refine call_readL (c55 F _ am n em cm lo hi (o q) (o p) (ho q hq) (ho p hp)) (addL (1000 + R) 50) (by rfl) (by exact SeesM.cons 1000 (sees_ro (i := 1000) (by rfl)) (SeesM.nil _) (fun _ _ _ _ _ _ x hx => by cases hx)) (nM1) ?_ | intro _)
    conv => whnf
    exact ⟨congrArg (fun z => Value.int .i64 (Int.ofNat z)) e0.symm, nM1⟩
end Go.Proofs.Ytefnljdfgjjpjaa
