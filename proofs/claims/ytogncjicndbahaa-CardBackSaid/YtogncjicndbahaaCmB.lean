/- Card: courses of a card, folds, roses, the laws' functions, counts. -/
import Derived.Test.YtogncjicndbahaaCmA
import Derived.KernelRfl
namespace Go.Proofs.Ytogncjicndbahaa
open Go.Ab
attribute [local irreducible] aggOk drwOK
set_option maxRecDepth 100000
set_option maxHeartbeats 4000000
set_option linter.unusedVariables false
set_option linter.unusedSimpArgs false
/-- two neighbours exchanged -/
def swp : List Rat → Nat → List Rat
  | x :: y :: r, 0 => y :: x :: r
  | x :: r, p + 1 => x :: swp r p
  | l, _ => l
theorem swp_perm : ∀ (l : List Rat) (p : Nat), (swp l p).Perm l
  | [], 0 => .refl _
  | [], _ + 1 => .refl _
  | [_], 0 => .refl _
  | x :: y :: r, 0 => .swap x y r
  | [x], p + 1 => (swp_perm [] p).cons x
  | x :: y :: r, p + 1 => (swp_perm (y :: r) p).cons x
theorem swp_get : ∀ (l : List Rat) (p q : Nat), p + 1 < l.length → (swp l p).getD q 0 = if q = p then l.getD (p + 1) 0 else if q = p + 1 then l.getD p 0 else l.getD q 0
  | [], p, q, h => by simp at h
  | [_], p, q, h => by simp at h
  | x :: y :: r, 0, q, _ => by
    match q with
    | 0 => rfl
    | 1 => rfl
    | q + 2 => rw [if_neg (by omega), if_neg (by omega)]; rfl
  | x :: y :: r, p + 1, q, h => by
    match q with
    | 0 => rw [if_neg (by omega), if_neg (by omega)]; rfl
    | q + 1 =>
      have := swp_get (y :: r) p q (by simpa using h)
      show (swp (y :: r) p).getD q 0 = _
      rw [this]
      by_cases h1 : q = p
      · rw [if_pos h1, if_pos (show q + 1 = p + 1 by omega)]; rfl
      · rw [if_neg h1, if_neg (show ¬ q + 1 = p + 1 by omega)]
        by_cases h2 : q = p + 1
        · rw [if_pos h2, if_pos (show q + 1 = p + 1 + 1 by omega)]; rfl
        · rw [if_neg h2, if_neg (show ¬ q + 1 = p + 1 + 1 by omega)]; rfl
/-- sorted so far -/
def Srt (l : List Rat) (i : Nat) : Prop := ∀ a b, a < b → b < i → l.getD a 0 ≤ l.getD b 0
structure Ins (l : List Rat) (i j : Nat) : Prop where
  o : ∀ a b, a < b → b ≤ i → a ≠ j → b ≠ j → l.getD a 0 ≤ l.getD b 0
  u : ∀ b, j < b → b ≤ i → l.getD j 0 ≤ l.getD b 0
theorem Ins.init {l : List Rat} {i : Nat} (h : Srt l i) : Ins l i i := ⟨fun a b h1 h2 _ h4 => h a b h1 (by omega), fun b h1 h2 => by omega⟩
theorem Ins.step {l : List Rat} {i j : Nat} (h : Ins l i (j + 1)) (hj : j + 1 ≤ i) (hi : i < l.length) (hlt : l.getD (j + 1) 0 < l.getD j 0) : Ins (swp l j) i j := by
  have g := fun q => swp_get l j q (by omega)
  refine ⟨fun a b h1 h2 h3 h4 => ?_, fun b h1 h2 => ?_⟩
  · rw [g a, g b, if_neg h3, if_neg h4]
    by_cases ha : a = j + 1
    · subst ha
      rw [if_pos rfl, if_neg (by omega)]
      exact h.o j b (by omega) h2 (by omega) (by omega)
    · rw [if_neg ha]
      by_cases hb : b = j + 1
      · subst hb
        rw [if_pos rfl]
        exact h.o a j (by omega) (by omega) ha (by omega)
      · rw [if_neg hb]
        exact h.o a b h1 h2 ha hb
  · rw [g b, g j, if_pos rfl, if_neg (by omega)]
    by_cases hb : b = j + 1
    · rw [if_pos hb]; exact Rat.le_of_lt hlt
    · rw [if_neg hb]; exact h.u b (by omega) h2
theorem Ins.done {l : List Rat} {i j : Nat} (h : Ins l i j) (hj : j ≤ i) (he : j = 0 ∨ ¬ l.getD j 0 < l.getD (j - 1) 0) : Srt l (i + 1) := by
  intro a b h1 h2
  by_cases ha : a = j
  · subst ha; exact h.u b h1 (by omega)
  · by_cases hb : b = j
    · subst hb
      rcases he with he | he
      · omega
      · have h3 := Rat.not_lt.1 he
        by_cases ha2 : a = b - 1
        · rw [ha2]; exact h3
        · exact Rat.le_trans (h.o a (b - 1) (by omega) (by omega) ha (by omega)) h3
    · exact h.o a b h1 (by omega) ha hb
theorem c67_0 (F d : Nat) : PureC (CL F (d + 2)) 67 [.int .u64 (wr .u64 (Int.ofNat 0))] 60 (.int .i64 0) := by
  intro m R
  refine call_in (n := 8) Try.func67 rfl rfl rfl rfl rfl rfl rfl ?_
  repeat' ((conv => whnf); first | refine eqS_rfl ?_ | refine eqA_rfl ?_ | refine eqA_of (by assumption) ?_ | refine eqS_of (by rfl) ?_ | refine eqL_rfl ?_ | refine eqJ_rfl ?_ | refine gE ?_ | refine seS_rfl ?_ | refine lsS_of hup ?_ | refine lsS_rfl ?_ | refine brS_tt ?_ | refine brS_ff ?_ | refine brS_not ?_ | refine gI ?_ | refine gT ?_ | refine gF ?_ | refine brS_intro (fun _ => ?_) (fun _ => ?_) | refine gL ?_ | refine gX ?_ | refine gO ?_ | refine gN ?_ | refine call_in (n := 25) Try.func87 rfl rfl rfl rfl rfl rfl rfl ?_ | intro _)
  all_goals (conv => whnf)
  all_goals refine ⟨?_, by repeat' (first | exact WkM.refl _ | refine WkM.drop ?_), by repeat' (first | exact Nat.le_refl _ | refine Nat.le_succ_of_le ?_)⟩
  all_goals (rfl)

theorem c67_1 (F d : Nat) : PureC (CL F (d + 2)) 67 [.int .u64 (wr .u64 (Int.ofNat 1))] 60 (.int .i64 1) := by
  intro m R
  refine call_in (n := 8) Try.func67 rfl rfl rfl rfl rfl rfl rfl ?_
  repeat' ((conv => whnf); first | refine eqS_rfl ?_ | refine eqA_rfl ?_ | refine eqA_of (by assumption) ?_ | refine eqS_of (by rfl) ?_ | refine eqL_rfl ?_ | refine eqJ_rfl ?_ | refine gE ?_ | refine seS_rfl ?_ | refine lsS_of hup ?_ | refine lsS_rfl ?_ | refine brS_tt ?_ | refine brS_ff ?_ | refine brS_not ?_ | refine gI ?_ | refine gT ?_ | refine gF ?_ | refine brS_intro (fun _ => ?_) (fun _ => ?_) | refine gL ?_ | refine gX ?_ | refine gO ?_ | refine gN ?_ | refine call_in (n := 25) Try.func87 rfl rfl rfl rfl rfl rfl rfl ?_ | intro _)
  all_goals (conv => whnf)
  all_goals refine ⟨?_, by repeat' (first | exact WkM.refl _ | refine WkM.drop ?_), by repeat' (first | exact Nat.le_refl _ | refine Nat.le_succ_of_le ?_)⟩
  all_goals (rfl)

theorem c67_2 (F d : Nat) : PureC (CL F (d + 2)) 67 [.int .u64 (wr .u64 (Int.ofNat 2))] 60 (.int .i64 2) := by
  intro m R
  refine call_in (n := 8) Try.func67 rfl rfl rfl rfl rfl rfl rfl ?_
  repeat' ((conv => whnf); first | refine eqS_rfl ?_ | refine eqA_rfl ?_ | refine eqA_of (by assumption) ?_ | refine eqS_of (by rfl) ?_ | refine eqL_rfl ?_ | refine eqJ_rfl ?_ | refine gE ?_ | refine seS_rfl ?_ | refine lsS_of hup ?_ | refine lsS_rfl ?_ | refine brS_tt ?_ | refine brS_ff ?_ | refine brS_not ?_ | refine gI ?_ | refine gT ?_ | refine gF ?_ | refine brS_intro (fun _ => ?_) (fun _ => ?_) | refine gL ?_ | refine gX ?_ | refine gO ?_ | refine gN ?_ | refine call_in (n := 25) Try.func87 rfl rfl rfl rfl rfl rfl rfl ?_ | intro _)
  all_goals (conv => whnf)
  all_goals refine ⟨?_, by repeat' (first | exact WkM.refl _ | refine WkM.drop ?_), by repeat' (first | exact Nat.le_refl _ | refine Nat.le_succ_of_le ?_)⟩
  all_goals (rfl)

theorem c67_3 (F d : Nat) : PureC (CL F (d + 2)) 67 [.int .u64 (wr .u64 (Int.ofNat 3))] 60 (.int .i64 2) := by
  intro m R
  refine call_in (n := 8) Try.func67 rfl rfl rfl rfl rfl rfl rfl ?_
  repeat' ((conv => whnf); first | refine eqS_rfl ?_ | refine eqA_rfl ?_ | refine eqA_of (by assumption) ?_ | refine eqS_of (by rfl) ?_ | refine eqL_rfl ?_ | refine eqJ_rfl ?_ | refine gE ?_ | refine seS_rfl ?_ | refine lsS_of hup ?_ | refine lsS_rfl ?_ | refine brS_tt ?_ | refine brS_ff ?_ | refine brS_not ?_ | refine gI ?_ | refine gT ?_ | refine gF ?_ | refine brS_intro (fun _ => ?_) (fun _ => ?_) | refine gL ?_ | refine gX ?_ | refine gO ?_ | refine gN ?_ | refine call_in (n := 25) Try.func87 rfl rfl rfl rfl rfl rfl rfl ?_ | intro _)
  all_goals (conv => whnf)
  all_goals refine ⟨?_, by repeat' (first | exact WkM.refl _ | refine WkM.drop ?_), by repeat' (first | exact Nat.le_refl _ | refine Nat.le_succ_of_le ?_)⟩
  all_goals (rfl)

theorem c67_4 (F d : Nat) : PureC (CL F (d + 2)) 67 [.int .u64 (wr .u64 (Int.ofNat 4))] 60 (.int .i64 3) := by
  intro m R
  refine call_in (n := 8) Try.func67 rfl rfl rfl rfl rfl rfl rfl ?_
  repeat' ((conv => whnf); first | refine eqS_rfl ?_ | refine eqA_rfl ?_ | refine eqA_of (by assumption) ?_ | refine eqS_of (by rfl) ?_ | refine eqL_rfl ?_ | refine eqJ_rfl ?_ | refine gE ?_ | refine seS_rfl ?_ | refine lsS_of hup ?_ | refine lsS_rfl ?_ | refine brS_tt ?_ | refine brS_ff ?_ | refine brS_not ?_ | refine gI ?_ | refine gT ?_ | refine gF ?_ | refine brS_intro (fun _ => ?_) (fun _ => ?_) | refine gL ?_ | refine gX ?_ | refine gO ?_ | refine gN ?_ | refine call_in (n := 25) Try.func87 rfl rfl rfl rfl rfl rfl rfl ?_ | intro _)
  all_goals (conv => whnf)
  all_goals refine ⟨?_, by repeat' (first | exact WkM.refl _ | refine WkM.drop ?_), by repeat' (first | exact Nat.le_refl _ | refine Nat.le_succ_of_le ?_)⟩
  all_goals (rfl)

theorem c67_5 (F d : Nat) : PureC (CL F (d + 2)) 67 [.int .u64 (wr .u64 (Int.ofNat 5))] 60 (.int .i64 3) := by
  intro m R
  refine call_in (n := 8) Try.func67 rfl rfl rfl rfl rfl rfl rfl ?_
  repeat' ((conv => whnf); first | refine eqS_rfl ?_ | refine eqA_rfl ?_ | refine eqA_of (by assumption) ?_ | refine eqS_of (by rfl) ?_ | refine eqL_rfl ?_ | refine eqJ_rfl ?_ | refine gE ?_ | refine seS_rfl ?_ | refine lsS_of hup ?_ | refine lsS_rfl ?_ | refine brS_tt ?_ | refine brS_ff ?_ | refine brS_not ?_ | refine gI ?_ | refine gT ?_ | refine gF ?_ | refine brS_intro (fun _ => ?_) (fun _ => ?_) | refine gL ?_ | refine gX ?_ | refine gO ?_ | refine gN ?_ | refine call_in (n := 25) Try.func87 rfl rfl rfl rfl rfl rfl rfl ?_ | intro _)
  all_goals (conv => whnf)
  all_goals refine ⟨?_, by repeat' (first | exact WkM.refl _ | refine WkM.drop ?_), by repeat' (first | exact Nat.le_refl _ | refine Nat.le_succ_of_le ?_)⟩
  all_goals (rfl)

theorem c67_6 (F d : Nat) : PureC (CL F (d + 2)) 67 [.int .u64 (wr .u64 (Int.ofNat 6))] 60 (.int .i64 3) := by
  intro m R
  refine call_in (n := 8) Try.func67 rfl rfl rfl rfl rfl rfl rfl ?_
  repeat' ((conv => whnf); first | refine eqS_rfl ?_ | refine eqA_rfl ?_ | refine eqA_of (by assumption) ?_ | refine eqS_of (by rfl) ?_ | refine eqL_rfl ?_ | refine eqJ_rfl ?_ | refine gE ?_ | refine seS_rfl ?_ | refine lsS_of hup ?_ | refine lsS_rfl ?_ | refine brS_tt ?_ | refine brS_ff ?_ | refine brS_not ?_ | refine gI ?_ | refine gT ?_ | refine gF ?_ | refine brS_intro (fun _ => ?_) (fun _ => ?_) | refine gL ?_ | refine gX ?_ | refine gO ?_ | refine gN ?_ | refine call_in (n := 25) Try.func87 rfl rfl rfl rfl rfl rfl rfl ?_ | intro _)
  all_goals (conv => whnf)
  all_goals refine ⟨?_, by repeat' (first | exact WkM.refl _ | refine WkM.drop ?_), by repeat' (first | exact Nat.le_refl _ | refine Nat.le_succ_of_le ?_)⟩
  all_goals (rfl)

theorem c67_7 (F d : Nat) : PureC (CL F (d + 2)) 67 [.int .u64 (wr .u64 (Int.ofNat 7))] 60 (.int .i64 3) := by
  intro m R
  refine call_in (n := 8) Try.func67 rfl rfl rfl rfl rfl rfl rfl ?_
  repeat' ((conv => whnf); first | refine eqS_rfl ?_ | refine eqA_rfl ?_ | refine eqA_of (by assumption) ?_ | refine eqS_of (by rfl) ?_ | refine eqL_rfl ?_ | refine eqJ_rfl ?_ | refine gE ?_ | refine seS_rfl ?_ | refine lsS_of hup ?_ | refine lsS_rfl ?_ | refine brS_tt ?_ | refine brS_ff ?_ | refine brS_not ?_ | refine gI ?_ | refine gT ?_ | refine gF ?_ | refine brS_intro (fun _ => ?_) (fun _ => ?_) | refine gL ?_ | refine gX ?_ | refine gO ?_ | refine gN ?_ | refine call_in (n := 25) Try.func87 rfl rfl rfl rfl rfl rfl rfl ?_ | intro _)
  all_goals (conv => whnf)
  all_goals refine ⟨?_, by repeat' (first | exact WkM.refl _ | refine WkM.drop ?_), by repeat' (first | exact Nat.le_refl _ | refine Nat.le_succ_of_le ?_)⟩
  all_goals (rfl)

theorem c67_8 (F d : Nat) : PureC (CL F (d + 2)) 67 [.int .u64 (wr .u64 (Int.ofNat 8))] 60 (.int .i64 4) := by
  intro m R
  refine call_in (n := 8) Try.func67 rfl rfl rfl rfl rfl rfl rfl ?_
  repeat' ((conv => whnf); first | refine eqS_rfl ?_ | refine eqA_rfl ?_ | refine eqA_of (by assumption) ?_ | refine eqS_of (by rfl) ?_ | refine eqL_rfl ?_ | refine eqJ_rfl ?_ | refine gE ?_ | refine seS_rfl ?_ | refine lsS_of hup ?_ | refine lsS_rfl ?_ | refine brS_tt ?_ | refine brS_ff ?_ | refine brS_not ?_ | refine gI ?_ | refine gT ?_ | refine gF ?_ | refine brS_intro (fun _ => ?_) (fun _ => ?_) | refine gL ?_ | refine gX ?_ | refine gO ?_ | refine gN ?_ | refine call_in (n := 25) Try.func87 rfl rfl rfl rfl rfl rfl rfl ?_ | intro _)
  all_goals (conv => whnf)
  all_goals refine ⟨?_, by repeat' (first | exact WkM.refl _ | refine WkM.drop ?_), by repeat' (first | exact Nat.le_refl _ | refine Nat.le_succ_of_le ?_)⟩
  all_goals (rfl)

theorem c67_9 (F d : Nat) : PureC (CL F (d + 2)) 67 [.int .u64 (wr .u64 (Int.ofNat 9))] 60 (.int .i64 4) := by
  intro m R
  refine call_in (n := 8) Try.func67 rfl rfl rfl rfl rfl rfl rfl ?_
  repeat' ((conv => whnf); first | refine eqS_rfl ?_ | refine eqA_rfl ?_ | refine eqA_of (by assumption) ?_ | refine eqS_of (by rfl) ?_ | refine eqL_rfl ?_ | refine eqJ_rfl ?_ | refine gE ?_ | refine seS_rfl ?_ | refine lsS_of hup ?_ | refine lsS_rfl ?_ | refine brS_tt ?_ | refine brS_ff ?_ | refine brS_not ?_ | refine gI ?_ | refine gT ?_ | refine gF ?_ | refine brS_intro (fun _ => ?_) (fun _ => ?_) | refine gL ?_ | refine gX ?_ | refine gO ?_ | refine gN ?_ | refine call_in (n := 25) Try.func87 rfl rfl rfl rfl rfl rfl rfl ?_ | intro _)
  all_goals (conv => whnf)
  all_goals refine ⟨?_, by repeat' (first | exact WkM.refl _ | refine WkM.drop ?_), by repeat' (first | exact Nat.le_refl _ | refine Nat.le_succ_of_le ?_)⟩
  all_goals (rfl)

theorem c67_10 (F d : Nat) : PureC (CL F (d + 2)) 67 [.int .u64 (wr .u64 (Int.ofNat 10))] 60 (.int .i64 4) := by
  intro m R
  refine call_in (n := 8) Try.func67 rfl rfl rfl rfl rfl rfl rfl ?_
  repeat' ((conv => whnf); first | refine eqS_rfl ?_ | refine eqA_rfl ?_ | refine eqA_of (by assumption) ?_ | refine eqS_of (by rfl) ?_ | refine eqL_rfl ?_ | refine eqJ_rfl ?_ | refine gE ?_ | refine seS_rfl ?_ | refine lsS_of hup ?_ | refine lsS_rfl ?_ | refine brS_tt ?_ | refine brS_ff ?_ | refine brS_not ?_ | refine gI ?_ | refine gT ?_ | refine gF ?_ | refine brS_intro (fun _ => ?_) (fun _ => ?_) | refine gL ?_ | refine gX ?_ | refine gO ?_ | refine gN ?_ | refine call_in (n := 25) Try.func87 rfl rfl rfl rfl rfl rfl rfl ?_ | intro _)
  all_goals (conv => whnf)
  all_goals refine ⟨?_, by repeat' (first | exact WkM.refl _ | refine WkM.drop ?_), by repeat' (first | exact Nat.le_refl _ | refine Nat.le_succ_of_le ?_)⟩
  all_goals (rfl)

theorem c67_11 (F d : Nat) : PureC (CL F (d + 2)) 67 [.int .u64 (wr .u64 (Int.ofNat 11))] 60 (.int .i64 4) := by
  intro m R
  refine call_in (n := 8) Try.func67 rfl rfl rfl rfl rfl rfl rfl ?_
  repeat' ((conv => whnf); first | refine eqS_rfl ?_ | refine eqA_rfl ?_ | refine eqA_of (by assumption) ?_ | refine eqS_of (by rfl) ?_ | refine eqL_rfl ?_ | refine eqJ_rfl ?_ | refine gE ?_ | refine seS_rfl ?_ | refine lsS_of hup ?_ | refine lsS_rfl ?_ | refine brS_tt ?_ | refine brS_ff ?_ | refine brS_not ?_ | refine gI ?_ | refine gT ?_ | refine gF ?_ | refine brS_intro (fun _ => ?_) (fun _ => ?_) | refine gL ?_ | refine gX ?_ | refine gO ?_ | refine gN ?_ | refine call_in (n := 25) Try.func87 rfl rfl rfl rfl rfl rfl rfl ?_ | intro _)
  all_goals (conv => whnf)
  all_goals refine ⟨?_, by repeat' (first | exact WkM.refl _ | refine WkM.drop ?_), by repeat' (first | exact Nat.le_refl _ | refine Nat.le_succ_of_le ?_)⟩
  all_goals (rfl)

theorem c67_12 (F d : Nat) : PureC (CL F (d + 2)) 67 [.int .u64 (wr .u64 (Int.ofNat 12))] 60 (.int .i64 4) := by
  intro m R
  refine call_in (n := 8) Try.func67 rfl rfl rfl rfl rfl rfl rfl ?_
  repeat' ((conv => whnf); first | refine eqS_rfl ?_ | refine eqA_rfl ?_ | refine eqA_of (by assumption) ?_ | refine eqS_of (by rfl) ?_ | refine eqL_rfl ?_ | refine eqJ_rfl ?_ | refine gE ?_ | refine seS_rfl ?_ | refine lsS_of hup ?_ | refine lsS_rfl ?_ | refine brS_tt ?_ | refine brS_ff ?_ | refine brS_not ?_ | refine gI ?_ | refine gT ?_ | refine gF ?_ | refine brS_intro (fun _ => ?_) (fun _ => ?_) | refine gL ?_ | refine gX ?_ | refine gO ?_ | refine gN ?_ | refine call_in (n := 25) Try.func87 rfl rfl rfl rfl rfl rfl rfl ?_ | intro _)
  all_goals (conv => whnf)
  all_goals refine ⟨?_, by repeat' (first | exact WkM.refl _ | refine WkM.drop ?_), by repeat' (first | exact Nat.le_refl _ | refine Nat.le_succ_of_le ?_)⟩
  all_goals (rfl)

theorem c67 (F d n : Nat) (hn : n ≤ 12) : ∃ v : Int, PureC (CL F (d + 2)) 67 [.int .u64 (wr .u64 (Int.ofNat n))] 60 (.int .i64 v) := by
  match n, hn with
  | 0, _ => exact ⟨_, c67_0 F d⟩
  | 1, _ => exact ⟨_, c67_1 F d⟩
  | 2, _ => exact ⟨_, c67_2 F d⟩
  | 3, _ => exact ⟨_, c67_3 F d⟩
  | 4, _ => exact ⟨_, c67_4 F d⟩
  | 5, _ => exact ⟨_, c67_5 F d⟩
  | 6, _ => exact ⟨_, c67_6 F d⟩
  | 7, _ => exact ⟨_, c67_7 F d⟩
  | 8, _ => exact ⟨_, c67_8 F d⟩
  | 9, _ => exact ⟨_, c67_9 F d⟩
  | 10, _ => exact ⟨_, c67_10 F d⟩
  | 11, _ => exact ⟨_, c67_11 F d⟩
  | 12, _ => exact ⟨_, c67_12 F d⟩
  | k + 13, h => omega
abbrev fRL (l : List Rat) (j : Nat) : List SV := [.int .i64 (l.getD j 0).num, .int .i64 (Int.ofNat (l.getD j 0).den)]
/-- the courses of a segment, of the first segments -/
def csK (n : Nat) (h dv : Nat → Int) (m : Int) (k : Nat) : List Rat := csL (h k) (dv k) (nh n h k) (nd n dv k) m
def csA (n : Nat) (h dv : Nat → Int) (m : Int) : Nat → List Rat
  | 0 => []
  | k + 1 => csA n h dv m k ++ csK n h dv m k
theorem csL_len (bh bd eh ed m : Int) : (csL bh bd eh ed m).length ≤ 2 := by
  unfold csL; split <;> (try split) <;> simp
theorem csA_len (n : Nat) (h dv : Nat → Int) (m : Int) : ∀ k, (csA n h dv m k).length ≤ 2 * k
  | 0 => Nat.le_refl 0
  | k + 1 => by
    have h1 := csA_len n h dv m k
    have h2 := csL_len (h k) (dv k) (nh n h k) (nd n dv k) m
    show (csA n h dv m k ++ csK n h dv m k).length ≤ _
    rw [List.length_append]
    unfold csK
    omega
theorem VC.sg {n : Nat} {h dv : Nat → Int} (hv : VC n h dv) {k : Nat} (hk : k < n) : SgB (h k) (dv k) (nh n h k) (nd n dv k) := ⟨hv.hb k hk, nh_gt hv hk, hv.db k hk, nd_bd hv k⟩
end Go.Proofs.Ytogncjicndbahaa
namespace Go.Proofs.Ytogncjicndbahaa
open Go.Ab
attribute [local irreducible] aggOk drwOK
set_option maxRecDepth 100000
set_option maxHeartbeats 4000000
set_option linter.unusedVariables false
set_option linter.unusedSimpArgs false
/-- what courses gives: a list of its own -/
def Q38 (i : Nat) (L : List Rat) (w0 : SV) (mf : Mem) : Prop := ∃ a1 L2, L2.Perm L ∧ Srt L2 L2.length ∧ w0 = .sl i a1 L2.length L2.length ∧ mf = [(i, .gr a1 L2.length 81 2 (fRL L2))]
theorem growRL {l : List Rat} {x : Rat} {n : Nat} (hn : n = l.length) : ∀ j, j < n + 1 → grow n 2 (fRL l) [.int .i64 x.num, .int .i64 (Int.ofNat x.den)] j = fRL (l ++ [x]) j := by
  subst hn
  intro j hj
  unfold grow
  by_cases h : j < l.length
  · rw [blt_of h, cond_true]
    show fRL l j = fRL (l ++ [x]) j
    unfold fRL
    rw [List.getD_eq_getElem?_getD, List.getD_eq_getElem?_getD, List.getElem?_append_left h]
  · have e : j = l.length := by omega
    subst e
    have hb : Nat.blt l.length l.length = false := by
      cases hh : Nat.blt l.length l.length with
      | false => rfl
      | true => have := blt_true hh; omega
    rw [hb, cond_false]
    show List.take 2 (List.drop ((l.length - l.length) * 2) _) = _
    rw [Nat.sub_self]
    unfold fRL
    have : (l ++ [x]).getD l.length 0 = x := by rw [List.getD_eq_getElem?_getD, List.getElem?_append_right (Nat.le_refl _), Nat.sub_self]; rfl
    rw [this]
    rfl
theorem take_snoc {l : List Rat} {j : Nat} (h : j < l.length) : l.take (j + 1) = l.take j ++ [l.getD j 0] := by
  rw [List.take_add_one, List.getD_eq_getElem?_getD, List.getElem?_eq_getElem h]; rfl
theorem swpU {l : List Rat} {p : Nat} (h : p + 1 < l.length) (z : Nat) : updG p (fRL l (p + 1)) (updG (p + 1) (fRL l p) (fRL l)) z = fRL (swp l p) z := by
  have g := swp_get l p z h
  unfold fRL at *
  rw [g]
  by_cases h1 : z = p
  · subst h1
    rw [updG_same, if_pos rfl]
  · rw [updG_other h1, if_neg h1]
    by_cases h2 : z = p + 1
    · subst h2
      rw [updG_same, if_pos rfl]
    · rw [updG_other h2, if_neg h2]
theorem csV_vb {bh eh R w : Int} (h1 : 0 ≤ bh ∧ bh < 3600) (h2 : bh < eh ∧ eh ≤ bh + 3600) (h3 : 0 ≤ w ∧ w < R) (h4 : R ≤ 5400) : Vb (csV bh eh R w) 3600 6000 ∧ 0 ≤ csV bh eh R w ∧ csV bh eh R w < 3600 := by
  obtain ⟨p, t, q, k⟩ := csP bh eh R w h1 h2 h3 h4
  rw [← k.e, k.hq]
  have hp0 : 0 ≤ p := by
    rw [k.hp, ← Rat.divInt_eq_div]
    exact Rat.divInt_nonneg (Int.mul_nonneg (by omega) (by omega)) (by omega)
  have hp1 : p ≤ 3600 := k.hvp.r2
  have hb0 : ((0 : Int) : Rat) ≤ (bh : Rat) := Rat.intCast_le_intCast.2 h1.1
  have hb1 : (bh : Rat) < ((3600 : Int) : Rat) := Rat.intCast_lt_intCast.2 h1.2
  have e3 : ((3600 : Int) : Rat) = 3600 := rfl
  have e4 : ((0 : Int) : Rat) = 0 := rfl
  rw [e3] at hb1
  rw [e4] at hb0
  have ht := k.ht
  have ht0 : 0 ≤ t := by grind
  have ht1 : t < 7200 := by grind
  have hr : 0 ≤ bkR t ∧ bkR t < 3600 := by
    have e1 : ((-3600 : Int) : Rat) = -3600 := rfl
    have e2 : ((7200 : Int) : Rat) = 7200 := rfl
    unfold bkR; rw [e1, e2, e3, e4]
    clear ht hb0 hb1 hp0 hp1
    split
    · grind
    · split
      · grind
      · split <;> grind
  have e5 : ((3600 : Nat) : Rat) = 3600 := rfl
  refine ⟨Vb.of (by rw [(bkR_eq t).2]; exact k.hvt.d) ?_ ?_, hr⟩ <;> (rw [e5]; grind)
theorem csL_vb {bh bd eh ed m : Int} (hB : SgB bh bd eh ed) (hm : 0 ≤ m ∧ m < 3600) {q : Rat} (hq : q ∈ csL bh bd eh ed m) : Vb q 3600 6000 ∧ 0 ≤ q ∧ q < 3600 := by
  obtain ⟨w1, w2, _, _, w5, w6⟩ := csW_bd hB hm
  unfold csL at hq
  split at hq
  · cases hq
  · split at hq
    · rw [List.mem_singleton.1 hq]
      exact csV_vb hB.h hB.l (by omega) w6
    · rcases List.mem_cons.1 hq with h | h
      · rw [h]; exact csV_vb hB.h hB.l (by omega) w6
      · rw [List.mem_singleton.1 h]
        exact csV_vb hB.h hB.l (by omega) w6
theorem csA_mem {n : Nat} {h dv : Nat → Int} {m : Int} {q : Rat} : ∀ {k : Nat}, q ∈ csA n h dv m k ↔ ∃ j, j < k ∧ q ∈ csK n h dv m j
  | 0 => by
    constructor
    · intro h; cases h
    · rintro ⟨j, hj, _⟩; omega
  | k + 1 => by
    show q ∈ csA n h dv m k ++ csK n h dv m k ↔ _
    rw [List.mem_append, csA_mem (k := k)]
    constructor
    · rintro (⟨j, hj, h⟩ | h)
      · exact ⟨j, by omega, h⟩
      · exact ⟨k, by omega, h⟩
    · rintro ⟨j, hj, h⟩
      by_cases e : j = k
      · subst e; exact .inr h
      · exact .inl ⟨j, by omega, h⟩
theorem getD_memR {l : List Rat} {k : Nat} (h : k < l.length) : l.getD k 0 ∈ l := by rw [List.getD_eq_getElem?_getD, List.getElem?_eq_getElem h]; exact List.getElem_mem h
theorem csA_vb {n : Nat} {h dv : Nat → Int} (hv : VC n h dv) {m : Int} (hm : 0 ≤ m ∧ m < 3600) {l : List Rat} (hp : l.Perm (csA n h dv m n)) {j : Nat} (hj : j < l.length) : Vb (l.getD j 0) 3600 6000 := by
  have h1 := hp.mem_iff.1 (getD_memR hj)
  obtain ⟨k, hk, h2⟩ := csA_mem.1 h1
  exact (csL_vb (hv.sg hk) hm h2).1
theorem c38 (F d : Nat) (hF : 300 < F) (i : Nat) (a : Option Addr) (n e c : Nat) (h dv : Nat → Int) (hv : VC n h dv) (m : Int) (hm : 0 ≤ m ∧ m < 3600) (h12 : (csA n h dv m n).length ≤ 12) (R : Nat) :
    callS (CL F (d + 8)) (.fn 38 [] []) [.sl 1000 a n c, .int .i64 m] [(1000, .ro a n e 2 fun j => [.int .i64 (h j), .int .i64 (dv j)])] (addL R (30000000 + 900)) 0 fun w m' R' _ => (∃ w0 mf, Q38 i (csA n h dv m n) w0 mf ∧ den w = den w0 ∧ WkM m' mf) ∧ R ≤ R' := by
  have hn1 := hv.n1
  rw [show 30000000 + 900 = (30000000) + 900 from rfl, addL_eq, ← Nat.add_assoc, ← addL_eq _ 900, Nat.add_comm R (30000000)]
  refine call_in (n := 20) Try.func38 rfl rfl rfl rfl rfl rfl rfl ?_
  repeat' ((conv => whnf); first | refine eqS_rfl ?_ | refine eqA_rfl ?_ | refine eqA_of (by assumption) ?_ | refine eqS_of (by rfl) ?_ | refine eqL_rfl ?_ | refine eqJ_rfl ?_ | refine gE ?_ | refine seS_rfl ?_ | refine lsS_of hup ?_ | refine lsS_rfl ?_ | refine brS_tt ?_ | refine brS_ff ?_ | refine brS_not ?_ | refine gI ?_ | refine gT ?_ | refine gF ?_ | refine brS_intro (fun _ => ?_) (fun _ => ?_) | refine gL ?_ | refine gX ?_ | refine gO ?_ | refine gN ?_ | intro _)
  rename_i bm bc b1 b2
  refine call_iter (c40 F (d + 5) (499000 + 1000) (by omega) a n e c h dv hv) (fun k m' => ∃ (al : Option Addr) (n2 : Nat), n2 = (csA n h dv m k).length ∧ m' = [(2, lopF Try.f38 0 b2 .ready none 20 [(3, .ptr 0 bm 0), (5, .ptr 1 bc 0)] b1), (dfN, .dfr [b1]), (1, .own bc 79 [.sl 600 al n2 n2]), (0, .own bm 3 [.int .i64 m]), (600, .gr al n2 81 2 (fRL (csA n h dv m k)))]) (fun _ => False) [(2, lopF Try.f38 0 b2 .ready none 20 [(3, .ptr 0 bm 0), (5, .ptr 1 bc 0)] b1), (dfN, .dfr [b1]), (1, .own bc 79 [.sl 600 none 0 0]), (0, .own bm 3 [.int .i64 m]), (600, .gr none 0 81 2 (fRL (csA n h dv m 0)))] (addL (1000000 + R) 900) (by rfl) (by exact WkM.trans (m2 := [(2, lopF Try.f38 0 b2 .ready none 20 [(3, .ptr 0 bm 0), (5, .ptr 1 bc 0)] b1), (dfN, .dfr [b1]), (1, .own bc 79 [.val (.slice none 0 0)]), (0, .own bm 3 [.int .i64 m]), (1000, .ro a n e 2 fun j => [.int .i64 (h j), .int .i64 (dv j)])]) ((WkM.lop (i := 2) (j := 2) (f' := [(3, .ptr 0 bm 0), (5, .ptr 1 bc 0)]) ⟨eqF_rfl _, eqF_rfl _, trivial⟩ (WkM.refl _)).trans WS) ((WkM.gr0 (WkM.refl _)).trans WS)) ⟨none, 0, rfl, rfl⟩ ?_ (nM1) ?_
  · rintro k hk _ ⟨al, n2, hn2, rfl⟩ me' R
    rw [show 499000 + 1000 = (499000) + 1000 from rfl, addL_eq, ← Nat.add_assoc, ← addL_eq _ 1000, Nat.add_comm R (499000)]
    refine call_yield ?_
    have hl2 := csA_len n h dv m k
    have hl3 := csL_len (h k) (dv k) (nh n h k) (nd n dv k) m
    repeat' ((conv => whnf); first | refine eqS_rfl ?_ | refine eqA_rfl ?_ | refine eqA_of (by assumption) ?_ | refine eqS_of (by rfl) ?_ | refine eqL_rfl ?_ | refine eqJ_rfl ?_ | refine gE ?_ | refine seS_rfl ?_ | refine lsS_of hup ?_ | refine lsS_rfl ?_ | refine brS_tt ?_ | refine brS_ff ?_ | refine brS_not ?_ | refine gI ?_ | refine gT ?_ | refine gF ?_ | refine brS_intro (fun _ => ?_) (fun _ => ?_) | refine gL ?_ | refine gX ?_ | refine gO ?_ | refine gN ?_ | refine gM ?_ | refine gY ?_ | refine call_in (n := 6) Try.func63 rfl rfl rfl rfl rfl rfl rfl ?_ | refine call_in (n := 13) Try.func62 rfl rfl rfl rfl rfl rfl rfl ?_ | intro _)
    conv => whnf
    rename_i b0 bq br bx b3 b4
    refine call_iter2 (c76 F d (500 + 500) hF (h k) (dv k) (nh n h k) (nd n dv k) m (hv.sg hk) hm bq br) (fun j m' => ∃ (a2 : Option Addr) (n3 : Nat), n3 = (csA n h dv m k ++ (csK n h dv m k).take j).length ∧ m' = [(504, lopF Try.f62 0 b4 .ready none 13 [(2, .ptr 503 bx 0)] b3), (dfN, .dfr [b3]), (503, .own bx 79 [.sl 600 a2 n3 n3]), (500, .own b0 101 [.int .i64 (h k), .int .i64 (dv k), .int .i64 (nh n h k), .int .i64 (nd n dv k)]), (2, lopF Try.f38 0 b2 .busy none 20 [(3, .ptr 0 bm 0), (5, .ptr 1 bc 0)] b1), (dfN, .dfr [b1]), (1, .own bc 79 [.sl 600 al n2 n2]), (0, .own bm 3 [.int .i64 m]), (600, .gr a2 n3 81 2 (fRL (csA n h dv m k ++ (csK n h dv m k).take j)))] ++ me') (fun _ => False) ([(504, lopF Try.f62 0 b4 .ready none 13 [(2, .ptr 503 bx 0)] b3), (dfN, .dfr [b3]), (503, .own bx 79 [.sl 600 al n2 n2]), (500, .own b0 101 [.int .i64 (h k), .int .i64 (dv k), .int .i64 (nh n h k), .int .i64 (nd n dv k)]), (2, lopF Try.f38 0 b2 .busy none 20 [(3, .ptr 0 bm 0), (5, .ptr 1 bc 0)] b1), (dfN, .dfr [b1]), (1, .own bc 79 [.sl 600 al n2 n2]), (0, .own bm 3 [.int .i64 m]), (600, .gr al n2 81 2 (fRL (csA n h dv m k ++ (csK n h dv m k).take 0)))] ++ me') (addL (100000 + R) 50) (by rfl) (by exact (WkM.lop (i := 504) (j := 504) (f' := [(2, .ptr 503 bx 0)]) ⟨eqF_rfl _, trivial⟩ (WkM.refl _)).trans (by rw [List.take_zero, List.append_nil]; exact WS)) ⟨al, n2, by rw [List.take_zero, List.append_nil]; exact hn2, rfl⟩ ?_ (nM1) ?_
    · rintro j hj _ ⟨a2, n3, hn3, rfl⟩ me2 R
      rw [show 500 + 500 = (500) + 500 from rfl, addL_eq, ← Nat.add_assoc, ← addL_eq _ 500, Nat.add_comm R (500)]
      refine call_yield ?_
      have hg := growRL (x := (csL (h k) (dv k) (nh n h k) (nd n dv k) m).getD j 0) hn3
      have hn3b : n3 ≤ 80 := by
        have h5 : n3 = (csA n h dv m k).length + ((csK n h dv m k).take j).length := by rw [hn3, List.length_append]
        have h6 := List.length_take_le j (csK n h dv m k)
        have h7 := List.length_take_le' j (csK n h dv m k)
        unfold csK at h5 h7
        omega
      repeat' ((conv => whnf); first | refine eqS_rfl ?_ | refine eqA_rfl ?_ | refine eqA_of (by assumption) ?_ | refine eqS_of (by rfl) ?_ | refine eqL_rfl ?_ | refine eqJ_rfl ?_ | refine gE ?_ | refine seS_rfl ?_ | refine lsS_of hup ?_ | refine lsS_rfl ?_ | refine brS_tt ?_ | refine brS_ff ?_ | refine brS_not ?_ | refine gI ?_ | refine gT ?_ | refine gF ?_ | refine brS_intro (fun _ => ?_) (fun _ => ?_) | refine gL ?_ | refine gX ?_ | refine gO ?_ | refine gN ?_ | refine gM ?_ | refine gY ?_ | refine ltS_intro (by first | (show n3 * 2 + 2 < 32769; omega) | (show n3 * 2 + 2 < _; omega)) ?_ | intro _)
      conv => whnf
      have hT : csA n h dv m k ++ (csK n h dv m k).take (j + 1) = (csA n h dv m k ++ (csK n h dv m k).take j) ++ [(csL (h k) (dv k) (nh n h k) (nd n dv k) m).getD j 0] := by
        rw [show csK n h dv m k = csL (h k) (dv k) (nh n h k) (nd n dv k) m from rfl, take_snoc hj, List.append_assoc]
      exact ⟨nM1, [(504, lopF Try.f62 0 b4 .ready none 13 [(2, .ptr 503 bx 0)] b3), (dfN, .dfr [b3]), (503, .own bx 79 [.sl 600 _ (n3 + 1) (n3 + 1)]), (500, .own b0 101 [.int .i64 (h k), .int .i64 (dv k), .int .i64 (nh n h k), .int .i64 (nd n dv k)]), (2, lopF Try.f38 0 b2 .busy none 20 [(3, .ptr 0 bm 0), (5, .ptr 1 bc 0)] b1), (dfN, .dfr [b1]), (1, .own bc 79 [.sl 600 al n2 n2]), (0, .own bm 3 [.int .i64 m]), (600, .gr _ (n3 + 1) 81 2 (fRL (csA n h dv m k ++ (csK n h dv m k).take j ++ [(csL (h k) (dv k) (nh n h k) (nd n dv k) m).getD j 0])))] ++ me', WG, .inl ⟨rfl, _, n3 + 1, by rw [hT, List.length_append, hn3]; rfl, by rw [hT]⟩⟩
    · rintro _ _ (⟨a2, n3, hn3, rfl⟩ | hf)
      · have hfull : csA n h dv m k ++ (csK n h dv m k).take (csL (h k) (dv k) (nh n h k) (nd n dv k) m).length = csA n h dv m (k + 1) := by
          rw [show csK n h dv m k = csL (h k) (dv k) (nh n h k) (nd n dv k) m from rfl, List.take_length]; rfl
        rw [hfull] at hn3
        rw [hfull]
        repeat' ((conv => whnf); first | refine eqS_rfl ?_ | refine eqA_rfl ?_ | refine eqA_of (by assumption) ?_ | refine eqS_of (by rfl) ?_ | refine eqL_rfl ?_ | refine eqJ_rfl ?_ | refine gE ?_ | refine seS_rfl ?_ | refine lsS_of hup ?_ | refine lsS_rfl ?_ | refine brS_tt ?_ | refine brS_ff ?_ | refine brS_not ?_ | refine gI ?_ | refine gT ?_ | refine gF ?_ | refine brS_intro (fun _ => ?_) (fun _ => ?_) | refine gL ?_ | refine gX ?_ | refine gO ?_ | refine gN ?_ | refine gM ?_ | refine gY ?_ | intro _)
        conv => whnf
        exact ⟨nM1, [(2, lopF Try.f38 0 b2 .ready none 20 [(3, .ptr 0 bm 0), (5, .ptr 1 bc 0)] b1), (dfN, .dfr [b1]), (1, .own bc 79 [.sl 600 a2 n3 n3]), (0, .own bm 3 [.int .i64 m]), (600, .gr a2 n3 81 2 (fRL (csA n h dv m (k + 1))))], WG, .inl ⟨rfl, a2, n3, hn3, rfl⟩⟩
      · exact hf.elim
  · rintro _ _ (⟨al, n2, hn2, rfl⟩ | hf)
    · skip
      obtain ⟨v67, k67⟩ := c67 F (d + 4) n2 (by omega)
      have d12 : iLt 12 (wr .i64 (Int.sub (Int.ofNat n2) 0)) = false := by
        rw [show wr .i64 (Int.sub (Int.ofNat n2) 0) = (n2 : Int) - 0 from smW (n := (n2 : Int) - 0) (by omega)]; exact ltF (by omega)
      repeat' ((conv => whnf); first | refine eqS_rfl ?_ | refine eqA_rfl ?_ | refine eqA_of (by assumption) ?_ | refine eqS_of (by rfl) ?_ | refine eqL_rfl ?_ | refine eqJ_rfl ?_ | refine gE ?_ | refine seS_rfl ?_ | refine lsS_of hup ?_ | refine lsS_rfl ?_ | refine brS_tt ?_ | refine brS_ff ?_ | refine brS_not ?_ | refine gI ?_ | refine gT ?_ | refine gF ?_ | refine brS_intro (fun _ => ?_) (fun _ => ?_) | refine gL ?_ | refine gX ?_ | refine gO ?_ | refine gN ?_ | refine gM ?_ | refine gY ?_ | refine call_pure k67 ?_ | refine call_in (n := 14) Try.func64 rfl rfl rfl rfl rfl rfl rfl ?_ | refine call_in (n := 148) Try.func77 rfl rfl rfl rfl rfl rfl rfl ?_ | intro _)
      conv => whnf
      refine loS_u 2 (by omega) ?_
      repeat' ((conv => whnf); first | refine eqS_rfl ?_ | refine eqA_rfl ?_ | refine eqA_of (by assumption) ?_ | refine eqS_of (by rfl) ?_ | refine eqL_rfl ?_ | refine eqJ_rfl ?_ | refine gE ?_ | refine seS_rfl ?_ | refine lsS_of hup ?_ | refine lsS_rfl ?_ | refine brS_tt ?_ | refine brS_ff ?_ | refine brS_not ?_ | refine gI ?_ | refine gT ?_ | refine gF ?_ | refine brS_intro (fun _ => ?_) (fun _ => ?_) | refine gL ?_ | refine gX ?_ | refine gO ?_ | refine gN ?_ | refine gM ?_ | refine gY ?_ | refine call_in (n := 53) Try.func89 rfl rfl rfl rfl rfl rfl rfl ?_ | intro _)
      conv => whnf
      refine loS_i (fun jj f mm R' ni => ∃ (i1 : Nat) (l : List Rat), 1 ≤ i1 ∧ (i1 ≤ n2 ∨ i1 = 1) ∧ l.Perm (csA n h dv m n) ∧ Srt l i1 ∧ jj = n2 + 2 - i1 ∧ f = [(0, .sl 600 al n2 n2), (1, .int .i64 0), (2, .int .i64 (Int.ofNat n2)), (3, .fn 65 [] []), (8, .int .i64 (Int.ofNat i1))] ∧ mm = [(600, .gr al n2 81 2 (fRL (l))), (1, .own bc 79 [.sl 600 al n2 n2]), (dfN, .dfr [b1])] ∧ R' = (addL (30000 * (n2 + 2 - i1) + R) 500) ∧ ni = 100) (n2 + 1) (by omega)
        ⟨[(0, .sl 600 al n2 n2), (1, .int .i64 0), (2, .int .i64 (Int.ofNat n2)), (3, .fn 65 [] []), (8, .int .i64 (Int.ofNat 1))], [(600, .gr al n2 81 2 (fRL (csA n h dv m n))), (1, .own bc 79 [.sl 600 al n2 n2]), (dfN, .dfr [b1])], (addL (30000 * (n2 + 2 - 1) + R) 500), 100, ⟨eqF_rfl _, eqF_rfl _, eqF_rfl _, eqF_rfl _, ⟨rfl, rfl⟩, trivial⟩, by exact WG, nM1, 1, _, by omega, by omega, List.Perm.refl _, fun a b h1 h2 => by omega, by omega, rfl, rfl, rfl, rfl⟩ ?_
      rintro _ _ _ _ _ ⟨i1, l, hi1, hi2, hp, hS, rfl, rfl, rfl, rfl, rfl⟩
      have hlen : l.length = n2 := by rw [hp.length_eq, hn2]
      by_cases hlt : i1 < n2
      · have t1 := iLt_t hlt
        repeat' ((conv => whnf); first | refine eqS_rfl ?_ | refine eqA_rfl ?_ | refine eqA_of (by assumption) ?_ | refine eqS_of (by rfl) ?_ | refine eqL_rfl ?_ | refine eqJ_rfl ?_ | refine gE ?_ | refine seS_rfl ?_ | refine lsS_of hup ?_ | refine lsS_rfl ?_ | refine brS_tt ?_ | refine brS_ff ?_ | refine brS_not ?_ | refine gI ?_ | refine gT ?_ | refine gF ?_ | refine brS_intro (fun _ => ?_) (fun _ => ?_) | refine gL ?_ | refine gX ?_ | refine gO ?_ | refine gN ?_ | refine gM ?_ | refine gY ?_ | intro _)
        conv => whnf
        refine loS_i (fun jj f mm R' ni => ∃ (j1 : Nat) (l2 : List Rat), j1 ≤ i1 ∧ l2.Perm (csA n h dv m n) ∧ Ins l2 i1 j1 ∧ jj = j1 + 1 ∧ f = [(0, .sl 600 al n2 n2), (1, .int .i64 0), (2, .int .i64 (Int.ofNat n2)), (3, .fn 65 [] []), (8, .int .i64 (Int.ofNat i1)), (9, .int .i64 (Int.ofNat j1))] ∧ mm = [(600, .gr al n2 81 2 (fRL (l2))), (1, .own bc 79 [.sl 600 al n2 n2]), (dfN, .dfr [b1])] ∧ R' = (addL (1500 * j1 + (30000 * (n2 + 2 - (i1 + 1)) + R)) 900) ∧ ni = 100) (i1 + 1) (by omega)
          ⟨[(0, .sl 600 al n2 n2), (1, .int .i64 0), (2, .int .i64 (Int.ofNat n2)), (3, .fn 65 [] []), (8, .int .i64 (Int.ofNat i1)), (9, .int .i64 (Int.ofNat i1))], [(600, .gr al n2 81 2 (fRL (l))), (1, .own bc 79 [.sl 600 al n2 n2]), (dfN, .dfr [b1])], (addL (1500 * i1 + (30000 * (n2 + 2 - (i1 + 1)) + R)) 900), 100, ⟨eqF_rfl _, eqF_rfl _, eqF_rfl _, eqF_rfl _, eqF_rfl _, eqF_rfl _, trivial⟩, WkM.refl _, nM1, i1, l, by omega, hp, Ins.init hS, rfl, rfl, rfl, rfl, rfl⟩ ?_
        rintro _ _ _ _ _ ⟨j1, l2, hj1, hp2, hI2, rfl, rfl, rfl, rfl, rfl⟩
        have hlen2 : l2.length = n2 := by rw [hp2.length_eq, hn2]
        by_cases hj0 : j1 = 0
        · subst hj0
          have t2 : iLt 0 (Int.ofNat 0) = false := rfl
          have hSn := hI2.done (by omega) (.inl rfl)
          repeat' ((conv => whnf); first | refine eqS_rfl ?_ | refine eqA_rfl ?_ | refine eqA_of (by assumption) ?_ | refine eqS_of (by rfl) ?_ | refine eqL_rfl ?_ | refine eqJ_rfl ?_ | refine gE ?_ | refine seS_rfl ?_ | refine lsS_of hup ?_ | refine lsS_rfl ?_ | refine brS_tt ?_ | refine brS_ff ?_ | refine brS_not ?_ | refine gI ?_ | refine gT ?_ | refine gF ?_ | refine brS_intro (fun _ => ?_) (fun _ => ?_) | refine gL ?_ | refine gX ?_ | refine gO ?_ | refine gN ?_ | refine gM ?_ | refine gY ?_ | intro _)
          conv => whnf
          exact ⟨n2 + 2 - (i1 + 1), [(0, .sl 600 al n2 n2), (1, .int .i64 0), (2, .int .i64 (Int.ofNat n2)), (3, .fn 65 [] []), (8, .int .i64 (Int.ofNat (i1 + 1)))], [(600, .gr al n2 81 2 (fRL (l2))), (1, .own bc 79 [.sl 600 al n2 n2]), (dfN, .dfr [b1])], (addL (30000 * (n2 + 2 - (i1 + 1)) + R) 500), 100, by omega, ⟨eqF_rfl _, eqF_rfl _, eqF_rfl _, eqF_rfl _, ⟨congrArg (Value.int .i64) (smn (i := i1 + 1) (by omega)), rfl⟩, trivial⟩, by exact WG, nM1, i1 + 1, l2, by omega, by omega, hp2, hSn, by omega, rfl, rfl, rfl, rfl⟩
        · obtain ⟨j2, rfl⟩ : ∃ j2, j1 = j2 + 1 := ⟨j1 - 1, by omega⟩
          have t2 : iLt 0 (Int.ofNat (j2 + 1)) = true := iLt_t (a := 0) (b := j2 + 1) (by omega)
          have eix : wr .i64 (Int.sub (Int.ofNat (j2 + 1)) 1) = Int.ofNat j2 := (smW (n := ((j2 + 1 : Nat) : Int) - 1) (by omega)).trans (by show ((j2 + 1 : Nat) : Int) - 1 = ((j2 : Nat) : Int); omega)
          have hb1 : j2 + 1 < n2 := by omega
          have hv1 := csA_vb hv hm (l := l2) hp2 (j := j2 + 1) (by omega)
          have hv2 := csA_vb hv hm (l := l2) hp2 (j := j2) (by omega)
          have k65 := c65 F (d + 1) (l2.getD (j2 + 1) 0) (l2.getD j2 0) 3600 6000 3600 6000 hv1 hv2 (by decide) (by decide)
          by_cases hc : l2.getD (j2 + 1) 0 < l2.getD j2 0
          · have ct : iLt (cmR (l2.getD (j2 + 1) 0) (l2.getD j2 0)) 0 = true := by unfold cmR; rw [if_pos hc]; rfl
            have hIn := hI2.step (by omega) (by omega) hc
            have hup : updG (j2 + 1) (fRL l2 j2) (fRL l2) j2 = fRL l2 j2 := updG_other (by omega)
            have hs : ∀ z, z < n2 → updG j2 (fRL l2 (j2 + 1)) (updG (j2 + 1) (fRL l2 j2) (fRL l2)) z = fRL (swp l2 j2) z := fun z _ => swpU (by omega) z
            repeat' ((conv => whnf); first | refine eqS_rfl ?_ | refine eqA_rfl ?_ | refine eqA_of (by assumption) ?_ | refine eqS_of (by rfl) ?_ | refine eqL_rfl ?_ | refine eqJ_rfl ?_ | refine gE ?_ | refine seS_rfl ?_ | refine lsS_of hup ?_ | refine lsS_rfl ?_ | refine brS_tt ?_ | refine brS_ff ?_ | refine brS_not ?_ | refine gI ?_ | refine gT ?_ | refine gF ?_ | refine brS_intro (fun _ => ?_) (fun _ => ?_) | refine gL ?_ | refine gX ?_ | refine gO ?_ | refine gN ?_ | refine gM ?_ | refine gY ?_ | refine call_pureL k65 (addL (1500 * j2 + (30000 * (n2 + 2 - (i1 + 1)) + R)) 1200) (nM1) ?_ | refine ixS_of eix (by omega) ?_ | intro _)
            conv => whnf
            exact ⟨j2 + 1, [(0, .sl 600 al n2 n2), (1, .int .i64 0), (2, .int .i64 (Int.ofNat n2)), (3, .fn 65 [] []), (8, .int .i64 (Int.ofNat i1)), (9, .int .i64 (Int.ofNat j2))], [(600, .gr al n2 81 2 (fRL (swp l2 j2))), (1, .own bc 79 [.sl 600 al n2 n2]), (dfN, .dfr [b1])], (addL (1500 * j2 + (30000 * (n2 + 2 - (i1 + 1)) + R)) 900), 100, by omega, ⟨eqF_rfl _, eqF_rfl _, eqF_rfl _, eqF_rfl _, eqF_rfl _, ⟨congrArg (Value.int .i64) eix, rfl⟩, trivial⟩, by exact WG, nM1, j2, swp l2 j2, by omega, (swp_perm l2 j2).trans hp2, hIn, rfl, rfl, rfl, rfl, rfl⟩
          · have ct : iLt (cmR (l2.getD (j2 + 1) 0) (l2.getD j2 0)) 0 = false := by unfold cmR; rw [if_neg hc]; split <;> rfl
            have hSn := hI2.done (by omega) (.inr (by rw [Nat.add_sub_cancel]; exact hc))
            repeat' ((conv => whnf); first | refine eqS_rfl ?_ | refine eqA_rfl ?_ | refine eqA_of (by assumption) ?_ | refine eqS_of (by rfl) ?_ | refine eqL_rfl ?_ | refine eqJ_rfl ?_ | refine gE ?_ | refine seS_rfl ?_ | refine lsS_of hup ?_ | refine lsS_rfl ?_ | refine brS_tt ?_ | refine brS_ff ?_ | refine brS_not ?_ | refine gI ?_ | refine gT ?_ | refine gF ?_ | refine brS_intro (fun _ => ?_) (fun _ => ?_) | refine gL ?_ | refine gX ?_ | refine gO ?_ | refine gN ?_ | refine gM ?_ | refine gY ?_ | refine call_pureL k65 (addL (1500 * j2 + (30000 * (n2 + 2 - (i1 + 1)) + R)) 1200) (nM1) ?_ | refine ixS_of eix (by omega) ?_ | intro _)
            conv => whnf
            exact ⟨n2 + 2 - (i1 + 1), [(0, .sl 600 al n2 n2), (1, .int .i64 0), (2, .int .i64 (Int.ofNat n2)), (3, .fn 65 [] []), (8, .int .i64 (Int.ofNat (i1 + 1)))], [(600, .gr al n2 81 2 (fRL (l2))), (1, .own bc 79 [.sl 600 al n2 n2]), (dfN, .dfr [b1])], (addL (30000 * (n2 + 2 - (i1 + 1)) + R) 500), 100, by omega, ⟨eqF_rfl _, eqF_rfl _, eqF_rfl _, eqF_rfl _, ⟨congrArg (Value.int .i64) (smn (i := i1 + 1) (by omega)), rfl⟩, trivial⟩, by exact WG, nM1, i1 + 1, l2, by omega, by omega, hp2, hSn, by omega, rfl, rfl, rfl, rfl⟩
      · have t1 := iLt_f (show n2 ≤ i1 by omega)
        repeat' ((conv => whnf); first | refine eqS_rfl ?_ | refine eqA_rfl ?_ | refine eqA_of (by assumption) ?_ | refine eqS_of (by rfl) ?_ | refine eqL_rfl ?_ | refine eqJ_rfl ?_ | refine gE ?_ | refine seS_rfl ?_ | refine lsS_of hup ?_ | refine lsS_rfl ?_ | refine brS_tt ?_ | refine brS_ff ?_ | refine brS_not ?_ | refine gI ?_ | refine gT ?_ | refine gF ?_ | refine brS_intro (fun _ => ?_) (fun _ => ?_) | refine gL ?_ | refine gX ?_ | refine gO ?_ | refine gN ?_ | refine gM ?_ | refine gY ?_ | intro _)
        conv => whnf
        exact ⟨⟨.sl i al l.length l.length, _, ⟨al, l, hp, by rw [hlen]; rcases hi2 with h1 | h1; exact (show i1 = n2 by omega) ▸ hS; subst h1; exact fun a b h1 h2 => by omega, rfl, rfl⟩, by rw [hlen]; rfl, by rw [hlen]; exact WG⟩, nM1⟩
    · exact hf.elim
end Go.Proofs.Ytogncjicndbahaa
namespace Go.Proofs.Ytogncjicndbahaa
open Go.Ab
attribute [local irreducible] aggOk drwOK
set_option maxRecDepth 100000
set_option maxHeartbeats 4000000
set_option linter.unusedVariables false
set_option linter.unusedSimpArgs false
abbrev nfL (l : List Nat) (j : Nat) : List SV := [.int .i64 (Int.ofNat (l.getD j 0))]
/-- a segment's rise; the segments that fold -/
def rs (n : Nat) (h dv : Nat → Int) (k : Nat) : Int := nh n h k + nd n dv k - (h k + dv k)
def foL (n : Nat) (h dv : Nat → Int) (k : Nat) : List Nat := (List.range k).filter fun j => decide (rs n h dv j ≤ 0)
theorem foL_t {n : Nat} {h dv : Nat → Int} {k : Nat} (hk : rs n h dv k ≤ 0) : foL n h dv (k + 1) = foL n h dv k ++ [k] := by
  unfold foL; rw [List.range_succ, List.filter_append]; simp [hk]
theorem foL_f {n : Nat} {h dv : Nat → Int} {k : Nat} (hk : ¬ rs n h dv k ≤ 0) : foL n h dv (k + 1) = foL n h dv k := by
  unfold foL; rw [List.range_succ, List.filter_append]; simp [hk]
theorem foL_len (n : Nat) (h dv : Nat → Int) (k : Nat) : (foL n h dv k).length ≤ k := by
  unfold foL; exact Nat.le_trans (List.length_filter_le _ _) (by rw [List.length_range]; exact Nat.le_refl _)
theorem growNL {l : List Nat} {x n : Nat} (hn : n = l.length) : ∀ j, j < n + 1 → grow n 1 (nfL l) [.int .i64 (Int.ofNat x)] j = nfL (l ++ [x]) j := by
  subst hn
  intro j hj
  unfold grow
  by_cases h : j < l.length
  · rw [blt_of h, cond_true]
    show nfL l j = nfL (l ++ [x]) j
    unfold nfL
    rw [List.getD_eq_getElem?_getD, List.getD_eq_getElem?_getD, List.getElem?_append_left h]
  · have e : j = l.length := by omega
    subst e
    have hb : Nat.blt l.length l.length = false := by
      cases hh : Nat.blt l.length l.length with
      | false => rfl
      | true => have := blt_true hh; omega
    rw [hb, cond_false]
    show List.take 1 (List.drop ((l.length - l.length) * 1) _) = _
    rw [Nat.sub_self]
    unfold nfL
    have : (l ++ [x]).getD l.length 0 = x := by rw [List.getD_eq_getElem?_getD, List.getElem?_append_right (Nat.le_refl _), Nat.sub_self]; rfl
    rw [this]
    rfl
def Q39 (i : Nat) (L : List Nat) (w0 : SV) (mf : Mem) : Prop := ∃ a1, w0 = .sl i a1 L.length L.length ∧ mf = [(i, .gr a1 L.length 3 1 (nfL L))]
theorem c39 (F d : Nat) (hF : 300 < F) (i : Nat) (a : Option Addr) (n e c : Nat) (h dv : Nat → Int) (hv : VC n h dv) (R : Nat) :
    callS (CL F (d + 5)) (.fn 39 [] []) [.fn 40 [.sl 1000 a n c] []] [(1000, .ro a n e 2 fun j => [.int .i64 (h j), .int .i64 (dv j)])] (addL R (100000 + 900)) 0 fun w m' R' _ => (∃ w0 mf, Q39 i (foL n h dv n) w0 mf ∧ den w = den w0 ∧ WkM m' mf) ∧ R ≤ R' := by
  have hn1 := hv.n1
  rw [show 100000 + 900 = (100000) + 900 from rfl, addL_eq, ← Nat.add_assoc, ← addL_eq _ 900, Nat.add_comm R (100000)]
  refine call_in (n := 17) Try.func39 rfl rfl rfl rfl rfl rfl rfl ?_
  repeat' ((conv => whnf); first | refine eqS_rfl ?_ | refine eqA_rfl ?_ | refine eqA_of (by assumption) ?_ | refine eqS_of (by rfl) ?_ | refine eqL_rfl ?_ | refine eqJ_rfl ?_ | refine gE ?_ | refine seS_rfl ?_ | refine lsS_of hup ?_ | refine lsS_rfl ?_ | refine brS_tt ?_ | refine brS_ff ?_ | refine brS_not ?_ | refine gI ?_ | refine gT ?_ | refine gF ?_ | refine brS_intro (fun _ => ?_) (fun _ => ?_) | refine gL ?_ | refine gX ?_ | refine gO ?_ | refine gN ?_ | intro _)
  rename_i bc b1 b2
  refine call_iter (c40 F (d + 2) (600 + 400) (by omega) a n e c h dv hv) (fun k m' => ∃ (al : Option Addr) (n2 : Nat), n2 = (foL n h dv k).length ∧ m' = [(1, lopF Try.f39 0 b2 .ready none 17 [(3, .ptr 0 bc 0)] b1), (dfN, .dfr [b1]), (0, .own bc 33 [.sl 600 al n2 n2]), (600, .gr al n2 3 1 (nfL (foL n h dv k)))]) (fun _ => False) [(1, lopF Try.f39 0 b2 .ready none 17 [(3, .ptr 0 bc 0)] b1), (dfN, .dfr [b1]), (0, .own bc 33 [.sl 600 none 0 0]), (600, .gr none 0 3 1 (nfL (foL n h dv 0)))] (addL (1000 + R) 900) (by rfl) (by exact WkM.trans (m2 := [(1, lopF Try.f39 0 b2 .ready none 17 [(3, .ptr 0 bc 0)] b1), (dfN, .dfr [b1]), (0, .own bc 33 [.val (.slice none 0 0)]), (1000, .ro a n e 2 fun j => [.int .i64 (h j), .int .i64 (dv j)])]) ((WkM.lop (i := 1) (j := 1) (f' := [(3, .ptr 0 bc 0)]) ⟨eqF_rfl _, trivial⟩ (WkM.refl _)).trans WS) ((WkM.gr0 (WkM.refl _)).trans WS)) ⟨none, 0, rfl, rfl⟩ ?_ (nM1) ?_
  · rintro k hk _ ⟨al, n2, hn2, rfl⟩ me' R
    rw [show 600 + 400 = (600) + 400 from rfl, addL_eq, ← Nat.add_assoc, ← addL_eq _ 400, Nat.add_comm R (600)]
    refine call_yield ?_
    have hl2 := foL_len n h dv k
    have hg := growNL (x := k) hn2
    have hB := hv.sg hk
    have q1 := hB.h
    have q2 := hB.l
    have q3 := hB.d
    have q4 := hB.e
    by_cases hr : rs n h dv k ≤ 0
    · have t1 : iLt 0 (nh n h k + nd n dv k - (h k + dv k)) = false := ltF hr
      repeat' ((conv => whnf); first | refine eqS_rfl ?_ | refine eqA_rfl ?_ | refine eqA_of (by assumption) ?_ | refine eqS_of (by rfl) ?_ | refine eqL_rfl ?_ | refine eqJ_rfl ?_ | refine gE ?_ | refine seS_rfl ?_ | refine lsS_of hup ?_ | refine lsS_rfl ?_ | refine brS_tt ?_ | refine brS_ff ?_ | refine brS_not ?_ | refine gI ?_ | refine gT ?_ | refine gF ?_ | refine brS_intro (fun _ => ?_) (fun _ => ?_) | refine gL ?_ | refine gX ?_ | refine gO ?_ | refine gN ?_ | refine gM ?_ | refine gY ?_ | refine call_pure (c61 F d (h k) (dv k) (nh n h k) (nd n dv k) (by omega) (by omega)) ?_ | refine ltS_intro (by first | (show n2 * 1 + 1 < 32769; omega) | (show n2 * 1 + 1 < _; omega)) ?_ | intro _)
      conv => whnf
      exact ⟨nM1, [(1, lopF Try.f39 0 b2 .ready none 17 [(3, .ptr 0 bc 0)] b1), (dfN, .dfr [b1]), (0, .own bc 33 [.sl 600 _ (n2 + 1) (n2 + 1)]), (600, .gr _ (n2 + 1) 3 1 (nfL (foL n h dv k ++ [k])))], WG, .inl ⟨rfl, _, n2 + 1, by rw [foL_t hr, List.length_append, hn2]; rfl, by rw [foL_t hr]⟩⟩
    · have t1 : iLt 0 (nh n h k + nd n dv k - (h k + dv k)) = true := ltT (by unfold rs at hr; omega)
      repeat' ((conv => whnf); first | refine eqS_rfl ?_ | refine eqA_rfl ?_ | refine eqA_of (by assumption) ?_ | refine eqS_of (by rfl) ?_ | refine eqL_rfl ?_ | refine eqJ_rfl ?_ | refine gE ?_ | refine seS_rfl ?_ | refine lsS_of hup ?_ | refine lsS_rfl ?_ | refine brS_tt ?_ | refine brS_ff ?_ | refine brS_not ?_ | refine gI ?_ | refine gT ?_ | refine gF ?_ | refine brS_intro (fun _ => ?_) (fun _ => ?_) | refine gL ?_ | refine gX ?_ | refine gO ?_ | refine gN ?_ | refine gM ?_ | refine gY ?_ | refine call_pure (c61 F d (h k) (dv k) (nh n h k) (nd n dv k) (by omega) (by omega)) ?_ | refine ltS_intro (by first | (show n2 * 1 + 1 < 32769; omega) | (show n2 * 1 + 1 < _; omega)) ?_ | intro _)
      conv => whnf
      exact ⟨nM1, [(1, lopF Try.f39 0 b2 .ready none 17 [(3, .ptr 0 bc 0)] b1), (dfN, .dfr [b1]), (0, .own bc 33 [.sl 600 al n2 n2]), (600, .gr al n2 3 1 (nfL (foL n h dv k)))], WS, .inl ⟨rfl, al, n2, by rw [foL_f hr, hn2], by rw [foL_f hr]⟩⟩
  · rintro _ _ (⟨al, n2, rfl, rfl⟩ | hf)
    · skip
      repeat' ((conv => whnf); first | refine eqS_rfl ?_ | refine eqA_rfl ?_ | refine eqA_of (by assumption) ?_ | refine eqS_of (by rfl) ?_ | refine eqL_rfl ?_ | refine eqJ_rfl ?_ | refine gE ?_ | refine seS_rfl ?_ | refine lsS_of hup ?_ | refine lsS_rfl ?_ | refine brS_tt ?_ | refine brS_ff ?_ | refine brS_not ?_ | refine gI ?_ | refine gT ?_ | refine gF ?_ | refine brS_intro (fun _ => ?_) (fun _ => ?_) | refine gL ?_ | refine gX ?_ | refine gO ?_ | refine gN ?_ | intro _)
      conv => whnf
      exact ⟨⟨.sl i al _ _, _, ⟨al, rfl, rfl⟩, rfl, WS⟩, nM1⟩
    · exact hf.elim
/-- a segment stays on a heading -/
def stK (n : Nat) (h dv : Nat → Int) (m : Int) (k : Nat) : Prop := rs n h dv k = 0 ∧ bkI (h k + dv k) 3600 = m
theorem c37 (F d : Nat) (hF : 300 < F) (a : Option Addr) (n e c : Nat) (h dv : Nat → Int) (hv : VC n h dv) (m : Int) (r : Bool) (hr : r = true ↔ ∃ k, k < n ∧ stK n h dv m k) : ReadC (CL F (d + 5)) 37 [.sl 1000 a n c, .int .i64 m] [(1000, .ro a n e 2 fun j => [.int .i64 (h j), .int .i64 (dv j)])] (100000 + 900) (.bool r) := by
  have hn1 := hv.n1
  intro R
  rw [show 100000 + 900 = (100000) + 900 from rfl, addL_eq, ← Nat.add_assoc, ← addL_eq _ 900, Nat.add_comm R (100000)]
  refine call_in (n := 22) Try.func37 rfl rfl rfl rfl rfl rfl rfl ?_
  repeat' ((conv => whnf); first | refine eqS_rfl ?_ | refine eqA_rfl ?_ | refine eqA_of (by assumption) ?_ | refine eqS_of (by rfl) ?_ | refine eqL_rfl ?_ | refine eqJ_rfl ?_ | refine gE ?_ | refine seS_rfl ?_ | refine lsS_of hup ?_ | refine lsS_rfl ?_ | refine brS_tt ?_ | refine brS_ff ?_ | refine brS_not ?_ | refine gI ?_ | refine gT ?_ | refine gF ?_ | refine brS_intro (fun _ => ?_) (fun _ => ?_) | refine gL ?_ | refine gX ?_ | refine gO ?_ | refine gN ?_ | intro _)
  rename_i bm br b1 b2
  refine call_iter (c40 F (d + 2) (600 + 400) (by omega) a n e c h dv hv) (fun k m' => m' = [(2, lopF Try.f37 0 b2 .ready none 22 [(3, .ptr 0 bm 0), (4, .ptr 1 br 0)] b1), (dfN, .dfr [b1]), (1, .own br 4 [.bool false]), (0, .own bm 3 [.int .i64 m])] ∧ ∀ j, j < k → ¬ stK n h dv m j) (fun m' => m' = [(2, lopF Try.f37 0 b2 .done (some .ret) 22 [(3, .ptr 0 bm 0), (4, .ptr 1 br 0)] b1), (dfN, .dfr [b1]), (1, .own br 4 [.bool true]), (0, .own bm 3 [.int .i64 m])] ∧ ∃ k, k < n ∧ stK n h dv m k) [(2, lopF Try.f37 0 b2 .ready none 22 [(3, .ptr 0 bm 0), (4, .ptr 1 br 0)] b1), (dfN, .dfr [b1]), (1, .own br 4 [.bool false]), (0, .own bm 3 [.int .i64 m])] (addL (1000 + R) 900) (by rfl) (by exact (WkM.lop (i := 2) (j := 2) (f' := [(3, .ptr 0 bm 0), (4, .ptr 1 br 0)]) ⟨eqF_rfl _, eqF_rfl _, trivial⟩ (WkM.refl _)).trans WS) ⟨rfl, fun j hj => absurd hj (Nat.not_lt_zero _)⟩ ?_ (nM1) ?_
  · rintro k hk _ ⟨rfl, hbe⟩ me' R
    rw [show 600 + 400 = (600) + 400 from rfl, addL_eq, ← Nat.add_assoc, ← addL_eq _ 400, Nat.add_comm R (600)]
    refine call_yield ?_
    have hB := hv.sg hk
    have q1 := hB.h
    have q2 := hB.l
    have q3 := hB.d
    have q4 := hB.e
    have eA : wr .i64 (Int.add (h k) (dv k)) = h k + dv k := smW (n := h k + dv k) (by omega)
    by_cases h0 : nh n h k + nd n dv k - (h k + dv k) = 0
    · have t1 := eqT h0
      by_cases h1 : bkI (h k + dv k) 3600 = m
      · have t2 := eqT h1
        repeat' ((conv => whnf); first | refine eqS_rfl ?_ | refine eqA_rfl ?_ | refine eqA_of (by assumption) ?_ | refine eqS_of (by rfl) ?_ | refine eqL_rfl ?_ | refine eqJ_rfl ?_ | refine gE ?_ | refine seS_rfl ?_ | refine lsS_of hup ?_ | refine lsS_rfl ?_ | refine brS_tt ?_ | refine brS_ff ?_ | refine brS_not ?_ | refine gI ?_ | refine gT ?_ | refine gF ?_ | refine brS_intro (fun _ => ?_) (fun _ => ?_) | refine gL ?_ | refine gX ?_ | refine gO ?_ | refine gN ?_ | refine gM ?_ | refine gY ?_ | refine call_pure (c61 F d (h k) (dv k) (nh n h k) (nd n dv k) (by omega) (by omega)) ?_ | refine call_pure (c44 F _ _ _) ?_ | refine call_pure (c43 F _ (h k + dv k) 3600 _ 3600 eA rfl (by omega) (by omega)) ?_ | intro _)
        conv => whnf
        exact ⟨nM1, [(2, lopF Try.f37 0 b2 .done (some .ret) 22 [(3, .ptr 0 bm 0), (4, .ptr 1 br 0)] b1), (dfN, .dfr [b1]), (1, .own br 4 [.bool true]), (0, .own bm 3 [.int .i64 m])], WS, .inr ⟨rfl, rfl, k, hk, h0, h1⟩⟩
      · have t2 := eqFa h1
        repeat' ((conv => whnf); first | refine eqS_rfl ?_ | refine eqA_rfl ?_ | refine eqA_of (by assumption) ?_ | refine eqS_of (by rfl) ?_ | refine eqL_rfl ?_ | refine eqJ_rfl ?_ | refine gE ?_ | refine seS_rfl ?_ | refine lsS_of hup ?_ | refine lsS_rfl ?_ | refine brS_tt ?_ | refine brS_ff ?_ | refine brS_not ?_ | refine gI ?_ | refine gT ?_ | refine gF ?_ | refine brS_intro (fun _ => ?_) (fun _ => ?_) | refine gL ?_ | refine gX ?_ | refine gO ?_ | refine gN ?_ | refine gM ?_ | refine gY ?_ | refine call_pure (c61 F d (h k) (dv k) (nh n h k) (nd n dv k) (by omega) (by omega)) ?_ | refine call_pure (c44 F _ _ _) ?_ | refine call_pure (c43 F _ (h k + dv k) 3600 _ 3600 eA rfl (by omega) (by omega)) ?_ | intro _)
        conv => whnf
        exact ⟨nM1, [(2, lopF Try.f37 0 b2 .ready none 22 [(3, .ptr 0 bm 0), (4, .ptr 1 br 0)] b1), (dfN, .dfr [b1]), (1, .own br 4 [.bool false]), (0, .own bm 3 [.int .i64 m])], WS, .inl ⟨rfl, rfl, fun j hj hh => by
          by_cases e : j = k
          · subst e; exact h1 hh.2
          · exact hbe j (by omega) hh⟩⟩
    · have t1 := eqFa h0
      repeat' ((conv => whnf); first | refine eqS_rfl ?_ | refine eqA_rfl ?_ | refine eqA_of (by assumption) ?_ | refine eqS_of (by rfl) ?_ | refine eqL_rfl ?_ | refine eqJ_rfl ?_ | refine gE ?_ | refine seS_rfl ?_ | refine lsS_of hup ?_ | refine lsS_rfl ?_ | refine brS_tt ?_ | refine brS_ff ?_ | refine brS_not ?_ | refine gI ?_ | refine gT ?_ | refine gF ?_ | refine brS_intro (fun _ => ?_) (fun _ => ?_) | refine gL ?_ | refine gX ?_ | refine gO ?_ | refine gN ?_ | refine gM ?_ | refine gY ?_ | refine call_pure (c61 F d (h k) (dv k) (nh n h k) (nd n dv k) (by omega) (by omega)) ?_ | intro _)
      conv => whnf
      exact ⟨nM1, [(2, lopF Try.f37 0 b2 .ready none 22 [(3, .ptr 0 bm 0), (4, .ptr 1 br 0)] b1), (dfN, .dfr [b1]), (1, .own br 4 [.bool false]), (0, .own bm 3 [.int .i64 m])], WS, .inl ⟨rfl, rfl, fun j hj hh => by
        by_cases e : j = k
        · subst e; exact h0 hh.1
        · exact hbe j (by omega) hh⟩⟩
  · rintro _ _ (⟨rfl, hbe⟩ | ⟨rfl, hex⟩)
    · have hrf : r = false := by
        cases r with
        | false => rfl
        | true => obtain ⟨k, hk, hs⟩ := hr.1 rfl; exact absurd hs (hbe k hk)
      subst hrf
      repeat' ((conv => whnf); first | refine eqS_rfl ?_ | refine eqA_rfl ?_ | refine eqA_of (by assumption) ?_ | refine eqS_of (by rfl) ?_ | refine eqL_rfl ?_ | refine eqJ_rfl ?_ | refine gE ?_ | refine seS_rfl ?_ | refine lsS_of hup ?_ | refine lsS_rfl ?_ | refine brS_tt ?_ | refine brS_ff ?_ | refine brS_not ?_ | refine gI ?_ | refine gT ?_ | refine gF ?_ | refine brS_intro (fun _ => ?_) (fun _ => ?_) | refine gL ?_ | refine gX ?_ | refine gO ?_ | refine gN ?_ | intro _)
      conv => whnf
      exact ⟨rfl, nM1⟩
    · have hrt : r = true := hr.2 hex
      subst hrt
      repeat' ((conv => whnf); first | refine eqS_rfl ?_ | refine eqA_rfl ?_ | refine eqA_of (by assumption) ?_ | refine eqS_of (by rfl) ?_ | refine eqL_rfl ?_ | refine eqJ_rfl ?_ | refine gE ?_ | refine seS_rfl ?_ | refine lsS_of hup ?_ | refine lsS_rfl ?_ | refine brS_tt ?_ | refine brS_ff ?_ | refine brS_not ?_ | refine gI ?_ | refine gT ?_ | refine gF ?_ | refine brS_intro (fun _ => ?_) (fun _ => ?_) | refine gL ?_ | refine gX ?_ | refine gO ?_ | refine gN ?_ | intro _)
      conv => whnf
      exact ⟨rfl, nM1⟩
end Go.Proofs.Ytogncjicndbahaa
namespace Go.Proofs.Ytogncjicndbahaa
open Go.Ab
attribute [local irreducible] aggOk drwOK
set_option maxRecDepth 100000
set_option maxHeartbeats 4000000
set_option linter.unusedVariables false
set_option linter.unusedSimpArgs false
theorem call38 (F d : Nat) (hF : 300 < F) (i : Nat) (a : Option Addr) (n e c : Nat) (h dv : Nat → Int) (hv : VC n h dv) (m : Int) (hm : 0 ≤ m ∧ m < 3600) (h12 : (csA n h dv m n).length ≤ 12) (R2 : Nat) {args : List SV} {mm : Mem} {R ni : Nat} {K : SV → Mem → Nat → Nat → Prop} (ha : dens args = dens [.sl 1000 a n c, .int .i64 m]) (hs : SeesM mm [(1000, .ro a n e 2 fun j => [.int .i64 (h j), .int .i64 (dv j)])]) (hN : R2 + (30000000 + 900) ≤ R)
    (hK : ∀ a1 L2, L2.Perm (csA n h dv m n) → Srt L2 L2.length → K (.sl i a1 L2.length L2.length) ((i, .gr a1 L2.length 81 2 (fRL L2)) :: mm) R2 ni) : callS (CL F (d + 8)) (.fn 38 [] []) args mm R ni K :=
  call_freshL (Q38 i (csA n h dv m n)) (c38 F d hF i a n e c h dv hv m hm h12) (fun w0 mf hq x hx => by
    obtain ⟨a1, L2, _, _, _, rfl⟩ := hq
    rw [List.mem_singleton.1 hx]
    exact ⟨_, _, _, _, _, rfl⟩) R2 ha hs hN fun w0 mf hq => by
    obtain ⟨a1, L2, h1, h2, rfl, rfl⟩ := hq
    exact hK a1 L2 h1 h2
theorem call39 (F d : Nat) (hF : 300 < F) (i : Nat) (a : Option Addr) (n e c : Nat) (h dv : Nat → Int) (hv : VC n h dv) (R2 : Nat) {args : List SV} {mm : Mem} {R ni : Nat} {K : SV → Mem → Nat → Nat → Prop} (ha : dens args = dens [.fn 40 [.sl 1000 a n c] []]) (hs : SeesM mm [(1000, .ro a n e 2 fun j => [.int .i64 (h j), .int .i64 (dv j)])]) (hN : R2 + (100000 + 900) ≤ R)
    (hK : ∀ a1, K (.sl i a1 (foL n h dv n).length (foL n h dv n).length) ((i, .gr a1 (foL n h dv n).length 3 1 (nfL (foL n h dv n))) :: mm) R2 ni) : callS (CL F (d + 5)) (.fn 39 [] []) args mm R ni K :=
  call_freshL (Q39 i (foL n h dv n)) (c39 F d hF i a n e c h dv hv) (fun w0 mf hq x hx => by
    obtain ⟨a1, _, rfl⟩ := hq
    rw [List.mem_singleton.1 hx]
    exact ⟨_, _, _, _, _, rfl⟩) R2 ha hs hN fun w0 mf hq => by
    obtain ⟨a1, rfl, rfl⟩ := hq
    exact hK a1
/-- what Courses gives -/
def Q12 (i : Nat) (L : List Rat) (w0 : SV) (mf : Mem) : Prop := ∃ a1 L2, L2.Perm L ∧ Srt L2 L2.length ∧ w0 = .tup [.sl i a1 L2.length L2.length, .int .i64 0] ∧ mf = [(i, .gr a1 L2.length 42 2 (fRL L2))]
theorem c12 (F d : Nat) (hF : 300 < F) (i : Nat) (a : Option Addr) (n e c : Nat) (h dv : Nat → Int) (hv : VC n h dv) (m : Int) (hm : 0 ≤ m ∧ m < 3600) (hst : ¬ ∃ k, k < n ∧ stK n h dv m k) (h12 : (csA n h dv m n).length ≤ 12) (R : Nat) :
    callS (CL F (d + 9)) (.fn 12 [] []) [.sl 1000 a n c, .int .i64 m] [(1000, .ro a n e 2 fun j => [.int .i64 (h j), .int .i64 (dv j)])] (addL R (31000000 + 900)) 0 fun w m' R' _ => (∃ w0 mf, Q12 i (csA n h dv m n) w0 mf ∧ den w = den w0 ∧ WkM m' mf) ∧ R ≤ R' := by
  have k37 := c37 F (d + 3) hF a n e c h dv hv m false (by simpa using hst)
  rw [show 31000000 + 900 = (31000000) + 900 from rfl, addL_eq, ← Nat.add_assoc, ← addL_eq _ 900, Nat.add_comm R (31000000)]
  refine call_in (n := 33) Try.func12 rfl rfl rfl rfl rfl rfl rfl ?_
  repeat' ((conv => whnf); first | refine eqS_rfl ?_ | refine eqA_rfl ?_ | refine eqA_of (by assumption) ?_ | refine eqS_of (by rfl) ?_ | refine eqL_rfl ?_ | refine eqJ_rfl ?_ | refine gE ?_ | refine seS_rfl ?_ | refine lsS_of hup ?_ | refine lsS_rfl ?_ | refine brS_tt ?_ | refine brS_ff ?_ | refine brS_not ?_ | refine gI ?_ | refine gT ?_ | refine gF ?_ | refine brS_intro (fun _ => ?_) (fun _ => ?_) | refine gL ?_ | refine gX ?_ | refine gO ?_ | refine gN ?_ | refine call_readL (c36 F _ (by omega) a n e c h dv hv m hm) (addL (30950000 + R) 900) (by rfl) (by exact SeesM.cons 1000 (sees_ro (i := 1000) (by rfl)) (SeesM.nil _) (fun _ _ _ _ _ _ x hx => by cases hx)) (nM1) ?_ | refine call_readL (k37) (addL (30840000 + R) 900) (by rfl) (by exact SeesM.cons 1000 (sees_ro (i := 1000) (by rfl)) (SeesM.nil _) (fun _ _ _ _ _ _ x hx => by cases hx)) (nM1) ?_ | refine call38 F d hF 601 a n e c h dv hv m hm h12 (addL (100000 + R) 900) (by rfl) (by exact SeesM.cons 1000 (sees_ro (i := 1000) (by rfl)) (SeesM.nil _) (fun _ _ _ _ _ _ x hx => by cases hx)) (nM1) ?_ | intro _)
  rename_i a1 L2 hp hS
  have hl2 : L2.length ≤ 12 := by rw [hp.length_eq]; exact h12
  conv => whnf
  refine loS_i (fun jj f mm R' ni => ∃ (k : Nat) (a2 : Option Addr), k ≤ L2.length ∧ jj = L2.length - k + 1 ∧ f = [(7, .sl 602 a2 k k), (21, .sl 601 a1 L2.length L2.length), (22, .int .i64 (Int.ofNat L2.length)), (23, .int .i64 (Int.ofNat k))] ∧ mm = [(602, .gr a2 k 42 2 (fRL (L2.take k))), (601, .gr a1 L2.length 81 2 (fRL L2))] ∧ R' = (addL (200 * (L2.length - k) + R) 500) ∧ ni = 10) (L2.length + 1) (by omega)
    ⟨[(7, .sl 602 none 0 0), (21, .sl 601 a1 L2.length L2.length), (22, .int .i64 (Int.ofNat L2.length)), (23, .int .i64 (Int.ofNat 0))], [(602, .gr none 0 42 2 (fRL (L2.take 0))), (601, .gr a1 L2.length 81 2 (fRL L2))], (addL (200 * (L2.length - 0) + R) 500), 10, ⟨⟨rfl, rfl⟩, eqF_rfl _, eqF_rfl _, eqF_rfl _, trivial⟩, by exact (WkM.gr0 (i := 602) (e := 42) (sz := 2) (f := fRL (L2.take 0)) (WkM.refl _)).trans WS, nM1, 0, none, by omega, by omega, rfl, rfl, rfl, rfl⟩ ?_
  rintro _ _ _ _ _ ⟨k, a2, hk, rfl, rfl, rfl, rfl, rfl⟩
  by_cases hlt : k < L2.length
  · have t1 := iLt_t hlt
    have hT := take_snoc hlt
    have hg := growRL (l := L2.take k) (x := L2.getD k 0) (n := k) (by rw [List.length_take]; omega)
    repeat' ((conv => whnf); first | refine eqS_rfl ?_ | refine eqA_rfl ?_ | refine eqA_of (by assumption) ?_ | refine eqS_of (by rfl) ?_ | refine eqL_rfl ?_ | refine eqJ_rfl ?_ | refine gE ?_ | refine seS_rfl ?_ | refine lsS_of hup ?_ | refine lsS_rfl ?_ | refine brS_tt ?_ | refine brS_ff ?_ | refine brS_not ?_ | refine gI ?_ | refine gT ?_ | refine gF ?_ | refine brS_intro (fun _ => ?_) (fun _ => ?_) | refine gL ?_ | refine gX ?_ | refine gO ?_ | refine gN ?_ | refine gM ?_ | refine gY ?_ | refine ltS_intro (by first | (show k * 2 + 2 < 32769; omega) | (show k * 2 + 2 < _; omega)) ?_ | intro _)
    conv => whnf
    exact ⟨L2.length - (k + 1) + 1, [(7, .sl 602 _ (k + 1) (k + 1)), (21, .sl 601 a1 L2.length L2.length), (22, .int .i64 (Int.ofNat L2.length)), (23, .int .i64 (Int.ofNat (k + 1)))], [(602, .gr _ (k + 1) 42 2 (fRL (L2.take (k + 1)))), (601, .gr a1 L2.length 81 2 (fRL L2))], (addL (200 * (L2.length - (k + 1)) + R) 500), 10, by omega, ⟨⟨rfl, rfl⟩, eqF_rfl _, eqF_rfl _, ⟨congrArg (Value.int .i64) (smn (i := k + 1) (by omega)), rfl⟩, trivial⟩, by rw [hT]; exact WG, nM1, k + 1, _, by omega, rfl, rfl, rfl, rfl, rfl⟩
  · have e2 : k = L2.length := by omega
    subst e2
    have t1 := iLt_f (Nat.le_refl L2.length)
    rw [List.take_length]
    repeat' ((conv => whnf); first | refine eqS_rfl ?_ | refine eqA_rfl ?_ | refine eqA_of (by assumption) ?_ | refine eqS_of (by rfl) ?_ | refine eqL_rfl ?_ | refine eqJ_rfl ?_ | refine gE ?_ | refine seS_rfl ?_ | refine lsS_of hup ?_ | refine lsS_rfl ?_ | refine brS_tt ?_ | refine brS_ff ?_ | refine brS_not ?_ | refine gI ?_ | refine gT ?_ | refine gF ?_ | refine brS_intro (fun _ => ?_) (fun _ => ?_) | refine gL ?_ | refine gX ?_ | refine gO ?_ | refine gN ?_ | refine gM ?_ | refine gY ?_ | intro _)
    conv => whnf
    exact ⟨⟨_, _, ⟨a2, L2, hp, hS, rfl, rfl⟩, rfl, WS⟩, nM1⟩
theorem c12s (F d : Nat) (hF : 300 < F) (a : Option Addr) (n e c : Nat) (h dv : Nat → Int) (hv : VC n h dv) (m : Int) (hm : 0 ≤ m ∧ m < 3600) (hst : ∃ k, k < n ∧ stK n h dv m k) : ReadC (CL F (d + 9)) 12 [.sl 1000 a n c, .int .i64 m] [(1000, .ro a n e 2 fun j => [.int .i64 (h j), .int .i64 (dv j)])] (200000 + 900) (.tup [.val (.slice none 0 0), .int .i64 16]) := by
  have k37 := c37 F (d + 3) hF a n e c h dv hv m true (by simpa using hst)
  intro R
  rw [show 200000 + 900 = (200000) + 900 from rfl, addL_eq, ← Nat.add_assoc, ← addL_eq _ 900, Nat.add_comm R (200000)]
  refine call_in (n := 33) Try.func12 rfl rfl rfl rfl rfl rfl rfl ?_
  repeat' ((conv => whnf); first | refine eqS_rfl ?_ | refine eqA_rfl ?_ | refine eqA_of (by assumption) ?_ | refine eqS_of (by rfl) ?_ | refine eqL_rfl ?_ | refine eqJ_rfl ?_ | refine gE ?_ | refine seS_rfl ?_ | refine lsS_of hup ?_ | refine lsS_rfl ?_ | refine brS_tt ?_ | refine brS_ff ?_ | refine brS_not ?_ | refine gI ?_ | refine gT ?_ | refine gF ?_ | refine brS_intro (fun _ => ?_) (fun _ => ?_) | refine gL ?_ | refine gX ?_ | refine gO ?_ | refine gN ?_ | refine call_readL (c36 F _ (by omega) a n e c h dv hv m hm) (addL (150000 + R) 900) (by rfl) (by exact SeesM.cons 1000 (sees_ro (i := 1000) (by rfl)) (SeesM.nil _) (fun _ _ _ _ _ _ x hx => by cases hx)) (nM1) ?_ | refine call_readL (k37) (addL R 900) (by rfl) (by exact SeesM.cons 1000 (sees_ro (i := 1000) (by rfl)) (SeesM.nil _) (fun _ _ _ _ _ _ x hx => by cases hx)) (nM1) ?_ | intro _)
  conv => whnf
  exact ⟨rfl, nM1⟩
theorem call12 (F d : Nat) (hF : 300 < F) (i : Nat) (a : Option Addr) (n e c : Nat) (h dv : Nat → Int) (hv : VC n h dv) (m : Int) (hm : 0 ≤ m ∧ m < 3600) (hst : ¬ ∃ k, k < n ∧ stK n h dv m k) (h12 : (csA n h dv m n).length ≤ 12) (R2 : Nat) {args : List SV} {mm : Mem} {R ni : Nat} {K : SV → Mem → Nat → Nat → Prop} (ha : dens args = dens [.sl 1000 a n c, .int .i64 m]) (hs : SeesM mm [(1000, .ro a n e 2 fun j => [.int .i64 (h j), .int .i64 (dv j)])]) (hN : R2 + (31000000 + 900) ≤ R)
    (hK : ∀ a1 L2, L2.Perm (csA n h dv m n) → Srt L2 L2.length → K (.tup [.sl i a1 L2.length L2.length, .int .i64 0]) ((i, .gr a1 L2.length 42 2 (fRL L2)) :: mm) R2 ni) : callS (CL F (d + 9)) (.fn 12 [] []) args mm R ni K :=
  call_freshL (Q12 i (csA n h dv m n)) (c12 F d hF i a n e c h dv hv m hm hst h12) (fun w0 mf hq x hx => by
    obtain ⟨a1, L2, _, _, _, rfl⟩ := hq
    rw [List.mem_singleton.1 hx]
    exact ⟨_, _, _, _, _, rfl⟩) R2 ha hs hN fun w0 mf hq => by
    obtain ⟨a1, L2, h1, h2, rfl, rfl⟩ := hq
    exact hK a1 L2 h1 h2
def Q13 (i : Nat) (L : List Nat) (w0 : SV) (mf : Mem) : Prop := ∃ a1, w0 = .tup [.sl i a1 L.length L.length, .int .i64 0] ∧ mf = [(i, .gr a1 L.length 3 1 (nfL L))]
theorem c13 (F d : Nat) (hF : 300 < F) (i : Nat) (a : Option Addr) (n e c : Nat) (h dv : Nat → Int) (hv : VC n h dv) (R : Nat) :
    callS (CL F (d + 6)) (.fn 13 [] []) [.sl 1000 a n c] [(1000, .ro a n e 2 fun j => [.int .i64 (h j), .int .i64 (dv j)])] (addL R (150000 + 900)) 0 fun w m' R' _ => (∃ w0 mf, Q13 i (foL n h dv n) w0 mf ∧ den w = den w0 ∧ WkM m' mf) ∧ R ≤ R' := by
  rw [show 150000 + 900 = (150000) + 900 from rfl, addL_eq, ← Nat.add_assoc, ← addL_eq _ 900, Nat.add_comm R (150000)]
  refine call_in (n := 13) Try.func13 rfl rfl rfl rfl rfl rfl rfl ?_
  repeat' ((conv => whnf); first | refine eqS_rfl ?_ | refine eqA_rfl ?_ | refine eqA_of (by assumption) ?_ | refine eqS_of (by rfl) ?_ | refine eqL_rfl ?_ | refine eqJ_rfl ?_ | refine gE ?_ | refine seS_rfl ?_ | refine lsS_of hup ?_ | refine lsS_rfl ?_ | refine brS_tt ?_ | refine brS_ff ?_ | refine brS_not ?_ | refine gI ?_ | refine gT ?_ | refine gF ?_ | refine brS_intro (fun _ => ?_) (fun _ => ?_) | refine gL ?_ | refine gX ?_ | refine gO ?_ | refine gN ?_ | refine call_readL (c22 F _ (by omega) a n e c h dv hv) (addL (120000 + R) 900) (by rfl) (by exact SeesM.cons 1000 (sees_ro (i := 1000) (by rfl)) (SeesM.nil _) (fun _ _ _ _ _ _ x hx => by cases hx)) (nM1) ?_ | refine call39 F d hF 601 a n e c h dv hv (addL R 900) (by rfl) (by exact SeesM.cons 1000 (sees_ro (i := 1000) (by rfl)) (SeesM.nil _) (fun _ _ _ _ _ _ x hx => by cases hx)) (nM1) ?_ | intro _)
  conv => whnf
  exact ⟨⟨.tup [.sl i _ _ _, .int .i64 0], _, ⟨_, rfl, rfl⟩, rfl, WS⟩, nM1⟩
theorem call13 (F d : Nat) (hF : 300 < F) (i : Nat) (a : Option Addr) (n e c : Nat) (h dv : Nat → Int) (hv : VC n h dv) (R2 : Nat) {args : List SV} {mm : Mem} {R ni : Nat} {K : SV → Mem → Nat → Nat → Prop} (ha : dens args = dens [.sl 1000 a n c]) (hs : SeesM mm [(1000, .ro a n e 2 fun j => [.int .i64 (h j), .int .i64 (dv j)])]) (hN : R2 + (150000 + 900) ≤ R)
    (hK : ∀ a1, K (.tup [.sl i a1 (foL n h dv n).length (foL n h dv n).length, .int .i64 0]) ((i, .gr a1 (foL n h dv n).length 3 1 (nfL (foL n h dv n))) :: mm) R2 ni) : callS (CL F (d + 6)) (.fn 13 [] []) args mm R ni K :=
  call_freshL (Q13 i (foL n h dv n)) (c13 F d hF i a n e c h dv hv) (fun w0 mf hq x hx => by
    obtain ⟨a1, _, rfl⟩ := hq
    rw [List.mem_singleton.1 hx]
    exact ⟨_, _, _, _, _, rfl⟩) R2 ha hs hN fun w0 mf hq => by
    obtain ⟨a1, rfl, rfl⟩ := hq
    exact hK a1
end Go.Proofs.Ytogncjicndbahaa
namespace Go.Proofs.Ytogncjicndbahaa
open Go.Ab
attribute [local irreducible] aggOk drwOK
set_option maxRecDepth 100000
set_option maxHeartbeats 4000000
set_option linter.unusedVariables false
set_option linter.unusedSimpArgs false
theorem wf_u16 {n : Int} (h : (Lit.int .u16 n).wf = true) : 0 ≤ n ∧ n < 65536 := by
  have h : (decide (IntKind.u16.min ≤ n) && decide (n ≤ IntKind.u16.max)) = true := h
  rw [Bool.and_eq_true, decide_eq_true_eq, decide_eq_true_eq] at h
  have e1 : IntKind.u16.min = 0 := by decide
  have e2 : IntKind.u16.max = 65535 := by decide
  rw [e1, e2] at h
  omega
theorem u16_nat {v : Value} (h : CkOK (.i .u16) v) : ∃ n : Nat, v = .int .u16 (Int.ofNat n) ∧ n < 65536 := by
  obtain ⟨n, rfl, hw⟩ := h
  have := wf_u16 hw
  exact ⟨n.toNat, congrArg (Value.int .u16) (by show n = (n.toNat : Int); omega), by omega⟩
theorem pairs16_fn {W : World} {v : Value} {ys : List (List Value)} (h : SlW W 2 (RF [.i .u16, .i .u16]) v ys) : ∃ o0 o1 : Nat → Nat, (∀ j, o0 j < 65536) ∧ (∀ j, o1 j < 65536) ∧ ∀ j y, ys[j]? = some y → dens [.int .u16 (Int.ofNat (o0 j)), .int .u16 (Int.ofNat (o1 j))] = y := by
  have key : ∀ j y, ys[j]? = some y → ∃ n m : Nat, y = [Value.int .u16 (Int.ofNat n), Value.int .u16 (Int.ofNat m)] ∧ n < 65536 ∧ m < 65536 := fun j y hy => by
    obtain ⟨v1, r1, rfl, h1, v2, r2, rfl, h2, h3⟩ := rf_mem (l := [.i .u16, .i .u16]) h hy
    have h3 : r2 = [] := h3
    subst h3
    obtain ⟨n, rfl, hn⟩ := u16_nat h1
    obtain ⟨m, rfl, hm⟩ := u16_nat h2
    exact ⟨n, m, rfl, hn, hm⟩
  refine ⟨fun j => natAt (ys.getD j []) 0, fun j => natAt (ys.getD j []) 1, fun j => ?_, fun j => ?_, fun j y hy => ?_⟩
  · show natAt (ys.getD j []) 0 < 65536
    rw [List.getD_eq_getElem?_getD]
    cases hy : ys[j]? with
    | none => show natAt [] 0 < 65536; decide
    | some y => obtain ⟨n, m, rfl, hn, hm⟩ := key j y hy; exact hn
  · show natAt (ys.getD j []) 1 < 65536
    rw [List.getD_eq_getElem?_getD]
    cases hy : ys[j]? with
    | none => show natAt [] 1 < 65536; decide
    | some y => obtain ⟨n, m, rfl, hn, hm⟩ := key j y hy; exact hm
  · obtain ⟨n, m, rfl, hn, hm⟩ := key j y hy
    show [Value.int .u16 (Int.ofNat (natAt (ys.getD j []) 0)), Value.int .u16 (Int.ofNat (natAt (ys.getD j []) 1))] = _
    rw [List.getD_eq_getElem?_getD, hy]
    rfl
def rN (N : Nat) : Nat := if N = 0 then 1 else min N 5
def rH (N : Nat) (p0 : Nat → Nat) (j : Nat) : Int := if N = 0 then 7 else 720 * (j : Int) + ((p0 j % 720 : Nat) : Int)
def rD (N : Nat) (p1 : Nat → Nat) (w j : Nat) : Int := if N = 0 then (w : Int) else ((p1 j % (2 * (20 + 3 * w) + 1) : Nat) : Int) - (20 + 3 * (w : Int))
theorem rVC (N : Nat) (p0 p1 : Nat → Nat) (w : Nat) (hw : w < 256) : VC (rN N) (rH N p0) (rD N p1 w) := by
  have h5 : N ≠ 0 → rN N ≤ 5 := fun h => by unfold rN; rw [if_neg h]; omega
  refine ⟨?_, ?_, fun j hj => ?_, fun j hj => ?_, fun i j hij hj => ?_⟩
  · unfold rN; split <;> omega
  · unfold rN; split <;> omega
  · unfold rH
    split
    · omega
    · rename_i h0
      have := h5 h0
      have := Nat.mod_lt (p0 j) (show 0 < 720 by omega)
      omega
  · unfold rD
    split
    · omega
    · have := Nat.mod_lt (p1 j) (show 0 < 2 * (20 + 3 * w) + 1 by omega)
      omega
  · unfold rH
    split
    · rename_i h0
      unfold rN at hj
      rw [if_pos h0] at hj
      omega
    · have := Nat.mod_lt (p0 i) (show 0 < 720 by omega)
      have := Nat.mod_lt (p0 j) (show 0 < 720 by omega)
      omega
theorem tmN (a b : Nat) : Int.tmod (Int.ofNat a) (b : Int) = ((a % b : Nat) : Int) := by show Int.tmod (a : Int) (b : Int) = _; rw [← Int.ofNat_tmod]
def Q11 (i n : Nat) (f : Nat → List SV) (w0 : SV) (mf : Mem) : Prop := ∃ a1, w0 = .sl i a1 n n ∧ mf = [(i, .gr a1 n 37 2 f)]
theorem c11 (F d : Nat) (hF : 300 < F) (i : Nat) (a : Option Addr) (N e c : Nat) (p0 p1 : Nat → Nat) (w : Nat) (hp0 : ∀ j, p0 j < 65536) (hp1 : ∀ j, p1 j < 65536) (hw : w < 256) (R : Nat) :
    callS (CL F (d + 1)) (.fn 11 [] []) [.agg [.sl 1000 a N c, .int .u8 (Int.ofNat w)]] [(1000, .ro a N e 2 fun j => [.int .u16 (Int.ofNat (p0 j)), .int .u16 (Int.ofNat (p1 j))])] (addL R (3000 + 900)) 0 fun w1 m' R' _ => (∃ w0 mf, Q11 i (rN N) (fun j => [.int .i64 (rH N p0 j), .int .i64 (rD N p1 w j)]) w0 mf ∧ den w1 = den w0 ∧ WkM m' mf) ∧ R ≤ R' := by
  have e1 : wr .i64 (Int.add 20 (wr .i64 (Int.mul 3 (wr .i64 (Int.ofNat w))))) = 20 + 3 * (w : Int) := by
    rw [show wr .i64 (Int.ofNat w) = (w : Int) from smW (n := (w : Int)) (by omega), show wr .i64 (Int.mul 3 (w : Int)) = 3 * (w : Int) from smW (n := 3 * (w : Int)) (by omega)]
    exact smW (n := 20 + 3 * (w : Int)) (by omega)
  rw [show 3000 + 900 = (3000) + 900 from rfl, addL_eq, ← Nat.add_assoc, ← addL_eq _ 900, Nat.add_comm R (3000)]
  refine call_in (n := 63) Try.func11 rfl rfl rfl rfl rfl rfl rfl ?_
  repeat' ((conv => whnf); first | refine eqS_rfl ?_ | refine eqA_rfl ?_ | refine eqA_of (by assumption) ?_ | refine eqS_of (by rfl) ?_ | refine eqL_rfl ?_ | refine eqJ_rfl ?_ | refine gE ?_ | refine seS_rfl ?_ | refine lsS_of hup ?_ | refine lsS_rfl ?_ | refine brS_tt ?_ | refine brS_ff ?_ | refine brS_not ?_ | refine gI ?_ | refine gT ?_ | refine gF ?_ | refine brS_intro (fun _ => ?_) (fun _ => ?_) | refine gL ?_ | refine gX ?_ | refine gO ?_ | refine gN ?_ | intro _)
  rename_i bx
  conv => whnf
  refine loS_i (fun jj f mm R' ni => ∃ (k : Nat) (a2 : Option Addr), k ≤ N ∧ k ≤ 5 ∧ jj = 6 - k ∧ f = [(1, .ptr 0 bx 0), (3, .sl 600 a2 k k), (4, .int .i64 (20 + 3 * (w : Int))), (5, .int .i64 (Int.ofNat k))] ∧ mm = [(600, .gr a2 k 37 2 (fun j => [.int .i64 (rH N p0 j), .int .i64 (rD N p1 w j)])), (0, .own bx 24 [.sl 1000 a N c, .int .u8 (Int.ofNat w)]), (1000, .ro a N e 2 fun j => [.int .u16 (Int.ofNat (p0 j)), .int .u16 (Int.ofNat (p1 j))])] ∧ R' = (addL (300 * (6 - k) + R) 500) ∧ ni = 10) 6 (by omega)
    ⟨[(1, .ptr 0 bx 0), (3, .sl 600 none 0 0), (4, .int .i64 (20 + 3 * (w : Int))), (5, .int .i64 (Int.ofNat 0))], [(600, .gr none 0 37 2 (fun j => [.int .i64 (rH N p0 j), .int .i64 (rD N p1 w j)])), (0, .own bx 24 [.sl 1000 a N c, .int .u8 (Int.ofNat w)]), (1000, .ro a N e 2 fun j => [.int .u16 (Int.ofNat (p0 j)), .int .u16 (Int.ofNat (p1 j))])], (addL (300 * (6 - 0) + R) 500), 10, ⟨eqF_rfl _, ⟨rfl, rfl⟩, ⟨congrArg (Value.int .i64) e1, rfl⟩, eqF_rfl _, trivial⟩, by exact (WkM.gr0 (i := 600) (e := 37) (sz := 2) (f := (fun j => [.int .i64 (rH N p0 j), .int .i64 (rD N p1 w j)])) (WkM.refl _)).trans WS, nM1, 0, none, by omega, by omega, rfl, rfl, rfl, rfl, rfl⟩ ?_
  rintro _ _ _ _ _ ⟨k, a2, hk, hk5, rfl, rfl, rfl, rfl, rfl⟩
  by_cases hlt : k < N
  · have t1 := iLt_t hlt
    by_cases hl5 : k < 5
    · have t2 : iLt (Int.ofNat k) 5 = true := iLt_t (a := k) (b := 5) hl5
      have x0 := hp0 k
      have x1 := hp1 k
      have m0 := Nat.mod_lt (p0 k) (show 0 < 720 by omega)
      have m1 := Nat.mod_lt (p1 k) (show 0 < 2 * (20 + 3 * w) + 1 by omega)
      have f0 : wr .i64 (Int.add (wr .i64 (Int.mul 720 (Int.ofNat k))) (Int.tmod (wr .i64 (Int.ofNat (p0 k))) 720)) = rH N p0 k := by
        unfold rH
        rw [if_neg (by omega), smn (i := p0 k) (by omega), show Int.tmod (Int.ofNat (p0 k)) 720 = ((p0 k % 720 : Nat) : Int) from tmN _ 720, show wr .i64 (Int.mul 720 (Int.ofNat k)) = 720 * (k : Int) from smW (n := 720 * (k : Int)) (by omega)]
        exact smW (n := 720 * (k : Int) + ((p0 k % 720 : Nat) : Int)) (by omega)
      have f2 : wr .i64 (Int.add (wr .i64 (Int.mul 2 (20 + 3 * (w : Int)))) 1) = ((2 * (20 + 3 * w) + 1 : Nat) : Int) := by
        rw [show wr .i64 (Int.mul 2 (20 + 3 * (w : Int))) = 2 * (20 + 3 * (w : Int)) from smW (n := 2 * (20 + 3 * (w : Int))) (by omega)]
        exact (smW (n := 2 * (20 + 3 * (w : Int)) + 1) (by omega)).trans (by push_cast; rfl)
      have f1 : wr .i64 (Int.sub (Int.tmod (wr .i64 (Int.ofNat (p1 k))) (wr .i64 (Int.add (wr .i64 (Int.mul 2 (20 + 3 * (w : Int)))) 1))) (20 + 3 * (w : Int))) = rD N p1 w k := by
        unfold rD
        rw [if_neg (by omega), f2, smn (i := p1 k) (by omega), tmN]
        exact smW (n := ((p1 k % (2 * (20 + 3 * w) + 1) : Nat) : Int) - (20 + 3 * (w : Int))) (by omega)
      have nz : wr .i64 (Int.add (wr .i64 (Int.mul 2 (20 + 3 * (w : Int)))) 1) ≠ 0 := by rw [f2]; omega
      have hg : ∀ z, z < k + 1 → grow k 2 (fun j => [.int .i64 (rH N p0 j), .int .i64 (rD N p1 w j)]) [.int .i64 (wr .i64 (Int.add (wr .i64 (Int.mul 720 (Int.ofNat k))) (Int.tmod (wr .i64 (Int.ofNat (p0 k))) 720))), .int .i64 (wr .i64 (Int.sub (Int.tmod (wr .i64 (Int.ofNat (p1 k))) (wr .i64 (Int.add (wr .i64 (Int.mul 2 (20 + 3 * (w : Int)))) 1))) (20 + 3 * (w : Int))))] z = (fun j => [.int .i64 (rH N p0 j), .int .i64 (rD N p1 w j)]) z := by
        rw [f0, f1]
        exact growE rfl rfl
      repeat' ((conv => whnf); first | refine eqS_rfl ?_ | refine eqA_rfl ?_ | refine eqA_of (by assumption) ?_ | refine eqS_of (by rfl) ?_ | refine eqL_rfl ?_ | refine eqJ_rfl ?_ | refine gE ?_ | refine seS_rfl ?_ | refine lsS_of hup ?_ | refine lsS_rfl ?_ | refine brS_tt ?_ | refine brS_ff ?_ | refine brS_not ?_ | refine gI ?_ | refine gT ?_ | refine gF ?_ | refine brS_intro (fun _ => ?_) (fun _ => ?_) | refine gL ?_ | refine gX ?_ | refine gO ?_ | refine gN ?_ | refine gM ?_ | refine gY ?_ | refine nzS_intro nz ?_ | refine ltS_intro (by first | (show k * 2 + 2 < 32769; omega) | (show k * 2 + 2 < _; omega) | (show 0 * 2 + 2 < _; omega)) ?_ | intro _)
      conv => whnf
      exact ⟨6 - (k + 1), [(1, .ptr 0 bx 0), (3, .sl 600 _ (k + 1) (k + 1)), (4, .int .i64 (20 + 3 * (w : Int))), (5, .int .i64 (Int.ofNat (k + 1)))], [(600, .gr _ (k + 1) 37 2 (fun j => [.int .i64 (rH N p0 j), .int .i64 (rD N p1 w j)])), (0, .own bx 24 [.sl 1000 a N c, .int .u8 (Int.ofNat w)]), (1000, .ro a N e 2 fun j => [.int .u16 (Int.ofNat (p0 j)), .int .u16 (Int.ofNat (p1 j))])], (addL (300 * (6 - (k + 1)) + R) 500), 10, by omega, ⟨eqF_rfl _, ⟨rfl, rfl⟩, eqF_rfl _, ⟨congrArg (Value.int .i64) (smn (i := k + 1) (by omega)), rfl⟩, trivial⟩, by exact WG, nM1, k + 1, _, by omega, by omega, rfl, rfl, rfl, rfl, rfl⟩
    · have t2 : iLt (Int.ofNat k) 5 = false := iLt_f (a := k) (b := 5) (by omega)
      have e2 : k = rN N := by unfold rN; rw [if_neg (by omega)]; omega
      have t3 : iEq (Int.ofNat k) 0 = false := (iEq_n (a := k) (b := 0)).trans (decide_eq_false (by omega))
      repeat' ((conv => whnf); first | refine eqS_rfl ?_ | refine eqA_rfl ?_ | refine eqA_of (by assumption) ?_ | refine eqS_of (by rfl) ?_ | refine eqL_rfl ?_ | refine eqJ_rfl ?_ | refine gE ?_ | refine seS_rfl ?_ | refine lsS_of hup ?_ | refine lsS_rfl ?_ | refine brS_tt ?_ | refine brS_ff ?_ | refine brS_not ?_ | refine gI ?_ | refine gT ?_ | refine gF ?_ | refine brS_intro (fun _ => ?_) (fun _ => ?_) | refine gL ?_ | refine gX ?_ | refine gO ?_ | refine gN ?_ | refine gM ?_ | refine gY ?_ | intro _)
      conv => whnf
      exact ⟨⟨.sl i a2 k k, _, ⟨a2, by rw [e2], rfl⟩, rfl, by rw [← e2]; exact WS⟩, nM1⟩
  · have t1 := iLt_f (show N ≤ k by omega)
    by_cases h0 : N = 0
    · subst h0
      have e2 : k = 0 := by omega
      subst e2
      have hg : ∀ z, z < 0 + 1 → grow 0 2 (fun j => [.int .i64 (rH 0 p0 j), .int .i64 (rD 0 p1 w j)]) [.int .i64 7, .int .i64 (wr .i64 (Int.ofNat w))] z = (fun j => [.int .i64 (rH 0 p0 j), .int .i64 (rD 0 p1 w j)]) z := by
        rw [smn (i := w) (by omega)]
        exact growE rfl (by show [SV.int .i64 (rH 0 p0 0), .int .i64 (rD 0 p1 w 0)] = _; unfold rH rD; rfl)
      repeat' ((conv => whnf); first | refine eqS_rfl ?_ | refine eqA_rfl ?_ | refine eqA_of (by assumption) ?_ | refine eqS_of (by rfl) ?_ | refine eqL_rfl ?_ | refine eqJ_rfl ?_ | refine gE ?_ | refine seS_rfl ?_ | refine lsS_of hup ?_ | refine lsS_rfl ?_ | refine brS_tt ?_ | refine brS_ff ?_ | refine brS_not ?_ | refine gI ?_ | refine gT ?_ | refine gF ?_ | refine brS_intro (fun _ => ?_) (fun _ => ?_) | refine gL ?_ | refine gX ?_ | refine gO ?_ | refine gN ?_ | refine gM ?_ | refine gY ?_ | refine ltS_intro (by first | (show k * 2 + 2 < 32769; omega) | (show k * 2 + 2 < _; omega) | (show 0 * 2 + 2 < _; omega)) ?_ | intro _)
      conv => whnf
      exact ⟨⟨.sl i _ 1 1, _, ⟨_, rfl, rfl⟩, rfl, WG⟩, nM1⟩
    · have e2 : k = rN N := by unfold rN; rw [if_neg h0]; omega
      have t3 : iEq (Int.ofNat k) 0 = false := (iEq_n (a := k) (b := 0)).trans (decide_eq_false (by omega))
      repeat' ((conv => whnf); first | refine eqS_rfl ?_ | refine eqA_rfl ?_ | refine eqA_of (by assumption) ?_ | refine eqS_of (by rfl) ?_ | refine eqL_rfl ?_ | refine eqJ_rfl ?_ | refine gE ?_ | refine seS_rfl ?_ | refine lsS_of hup ?_ | refine lsS_rfl ?_ | refine brS_tt ?_ | refine brS_ff ?_ | refine brS_not ?_ | refine gI ?_ | refine gT ?_ | refine gF ?_ | refine brS_intro (fun _ => ?_) (fun _ => ?_) | refine gL ?_ | refine gX ?_ | refine gO ?_ | refine gN ?_ | refine gM ?_ | refine gY ?_ | intro _)
      conv => whnf
      exact ⟨⟨.sl i a2 k k, _, ⟨a2, by rw [e2], rfl⟩, rfl, by rw [← e2]; exact WS⟩, nM1⟩
end Go.Proofs.Ytogncjicndbahaa
namespace Go.Proofs.Ytogncjicndbahaa
open Go.Ab
attribute [local irreducible] aggOk drwOK
set_option maxRecDepth 100000
set_option maxHeartbeats 4000000
set_option linter.unusedVariables false
set_option linter.unusedSimpArgs false
theorem c14 (F d : Nat) (a : Option Addr) (n e c : Nat) (h dv : Nat → Int) (hv : VC n h dv) (k : Nat) (hk : k < n) : ReadC (CL F (d + 1)) 14 [.sl 1000 a n c, .int .i64 (Int.ofNat k)] [(1000, .ro a n e 2 fun j => [.int .i64 (h j), .int .i64 (dv j)])] 200 (.tup [.agg [.int .i64 (h k), .int .i64 (dv k)], .agg [.int .i64 (nh n h k), .int .i64 (nd n dv k)]]) := by
  have hn0 := hv.n0
  have hn1 := hv.n1
  intro R
  by_cases hl : k + 1 < n
  · have q1 : Int.tmod (wr .i64 (Int.add (Int.ofNat k) 1)) (Int.ofNat n) = Int.ofNat (k + 1) := by
      show Int.tmod (wr .i64 (Int.ofNat (k + 1))) _ = _
      rw [smn (i := k + 1) (by omega)]
      show Int.tmod ((k + 1 : Nat) : Int) (n : Int) = _
      rw [← Int.ofNat_tmod, Nat.mod_eq_of_lt hl]; rfl
    have q2 : iEq (wr .i64 (Int.add (Int.ofNat k) 1)) (Int.ofNat n) = false := by
      rw [show wr .i64 (Int.add (Int.ofNat k) 1) = Int.ofNat (k + 1) from smn (i := k + 1) (by omega), iEq_n]; exact decide_eq_false (by omega)
    have q3 : nh n h k = h (k + 1) := by unfold nh; rw [if_pos hl]
    have q4 : nd n dv k = dv (k + 1) := by unfold nd; rw [if_pos hl]
    rw [q3, q4]
    refine call_in (n := 29) Try.func14 rfl rfl rfl rfl rfl rfl rfl ?_
    repeat' ((conv => whnf); first | refine eqS_rfl ?_ | refine eqA_rfl ?_ | refine eqA_of (by assumption) ?_ | refine eqS_of (by rfl) ?_ | refine eqL_rfl ?_ | refine eqJ_rfl ?_ | refine gE ?_ | refine seS_rfl ?_ | refine lsS_of hup ?_ | refine lsS_rfl ?_ | refine brS_tt ?_ | refine brS_ff ?_ | refine brS_not ?_ | refine gI ?_ | refine gT ?_ | refine gF ?_ | refine brS_intro (fun _ => ?_) (fun _ => ?_) | refine gL ?_ | refine gX ?_ | refine gO ?_ | refine gN ?_ | refine gM ?_ | refine gY ?_ | refine nzS_intro (by show ((n : Nat) : Int) ≠ 0; omega) ?_ | refine ixS_of q1 hl ?_ | intro _)
    conv => whnf
    exact ⟨rfl, nM1⟩
  · have q1 : Int.tmod (wr .i64 (Int.add (Int.ofNat k) 1)) (Int.ofNat n) = Int.ofNat 0 := by
      show Int.tmod (wr .i64 (Int.ofNat (k + 1))) _ = _
      rw [smn (i := k + 1) (by omega), show k + 1 = n by omega]
      exact Int.tmod_self
    have q2 : iEq (wr .i64 (Int.add (Int.ofNat k) 1)) (Int.ofNat n) = true := by
      rw [show wr .i64 (Int.add (Int.ofNat k) 1) = Int.ofNat (k + 1) from smn (i := k + 1) (by omega), iEq_n]; exact decide_eq_true (by omega)
    have h0 := hv.hb 0 hn0
    have q5 : wr .i64 (Int.add (h 0) 3600) = nh n h k := by unfold nh; rw [if_neg hl]; exact smW (n := h 0 + 3600) (by omega)
    have q4 : nd n dv k = dv 0 := by unfold nd; rw [if_neg hl]
    rw [← q5, q4]
    refine call_in (n := 29) Try.func14 rfl rfl rfl rfl rfl rfl rfl ?_
    repeat' ((conv => whnf); first | refine eqS_rfl ?_ | refine eqA_rfl ?_ | refine eqA_of (by assumption) ?_ | refine eqS_of (by rfl) ?_ | refine eqL_rfl ?_ | refine eqJ_rfl ?_ | refine gE ?_ | refine seS_rfl ?_ | refine lsS_of hup ?_ | refine lsS_rfl ?_ | refine brS_tt ?_ | refine brS_ff ?_ | refine brS_not ?_ | refine gI ?_ | refine gT ?_ | refine gF ?_ | refine brS_intro (fun _ => ?_) (fun _ => ?_) | refine gL ?_ | refine gX ?_ | refine gO ?_ | refine gN ?_ | refine gM ?_ | refine gY ?_ | refine nzS_intro (by show ((n : Nat) : Int) ≠ 0; omega) ?_ | refine ixS_of q1 hn0 ?_ | intro _)
    conv => whnf
    exact ⟨rfl, nM1⟩
theorem c25 (F d : Nat) (x y : Int) : PureC (CL F (d + 1)) 25 [.int .i64 x, .int .i64 y] 20 (.agg [.int .i64 x, .int .i64 y]) := by
  intro m R
  refine call_in (n := 8) Try.func25 rfl rfl rfl rfl rfl rfl rfl ?_
  repeat' ((conv => whnf); first | refine eqS_rfl ?_ | refine eqA_rfl ?_ | refine eqA_of (by assumption) ?_ | refine eqS_of (by rfl) ?_ | refine eqL_rfl ?_ | refine eqJ_rfl ?_ | refine gE ?_ | refine seS_rfl ?_ | refine lsS_of hup ?_ | refine lsS_rfl ?_ | refine brS_tt ?_ | refine brS_ff ?_ | refine brS_not ?_ | refine gI ?_ | refine gT ?_ | refine gF ?_ | refine brS_intro (fun _ => ?_) (fun _ => ?_) | refine gL ?_ | refine gX ?_ | refine gO ?_ | refine gN ?_ | intro _)
  all_goals (conv => whnf)
  all_goals refine ⟨?_, by repeat' (first | exact WkM.refl _ | refine WkM.drop ?_), by repeat' (first | exact Nat.le_refl _ | refine Nat.le_succ_of_le ?_)⟩
  all_goals (rfl)

theorem c16 (F d : Nat) (q : Rat) (hq : Vb q 3600 6000) (h0 : 0 ≤ q) (h1 : q < 3600) : PureC (CL F (d + 1)) 16 [fr q, .int .i64 3600] 40 (.bool true) := by
  have hd := q.den_pos
  have hd2 := hq.d
  have n0 : 0 ≤ q.num := Rat.num_nonneg.2 h0
  have n1 : q.num < 3600 * (q.den : Int) := lt_iff_num.1 h1
  have e1 : wr .i64 (Int.mul 3600 (Int.ofNat q.den)) = 3600 * (q.den : Int) := smW (n := 3600 * (q.den : Int)) (by omega)
  have t1 : iLt (Int.ofNat q.den) 1 = false := ltF (by show (1 : Int) ≤ (q.den : Int); omega)
  have t2 : iLt 6000 (Int.ofNat q.den) = false := ltF (by show (q.den : Int) ≤ 6000; omega)
  have t3 : iLt q.num 0 = false := ltF n0
  have t4 : iLt q.num (wr .i64 (Int.mul 3600 (Int.ofNat q.den))) = true := by rw [e1]; exact ltT n1
  intro m R
  refine call_in (n := 27) Try.func16 rfl rfl rfl rfl rfl rfl rfl ?_
  repeat' ((conv => whnf); first | refine eqS_rfl ?_ | refine eqA_rfl ?_ | refine eqA_of (by assumption) ?_ | refine eqS_of (by rfl) ?_ | refine eqL_rfl ?_ | refine eqJ_rfl ?_ | refine gE ?_ | refine seS_rfl ?_ | refine lsS_of hup ?_ | refine lsS_rfl ?_ | refine brS_tt ?_ | refine brS_ff ?_ | refine brS_not ?_ | refine gI ?_ | refine gT ?_ | refine gF ?_ | refine brS_intro (fun _ => ?_) (fun _ => ?_) | refine gL ?_ | refine gX ?_ | refine gO ?_ | refine gN ?_ | intro _)
  all_goals (conv => whnf)
  all_goals refine ⟨?_, by repeat' (first | exact WkM.refl _ | refine WkM.drop ?_), by repeat' (first | exact Nat.le_refl _ | refine Nat.le_succ_of_le ?_)⟩
  all_goals (exact congrArg Value.bool t4)

theorem tm_dvd (a b : Int) : iEq (Int.tmod a b) 0 = decide (b ∣ a) := by
  rw [iEq_eq]
  exact decide_eq_decide.2 (Int.dvd_iff_tmod_eq_zero).symm
theorem c18 (F d : Nat) (x y t : Int) (hy : 0 < y ∧ y ≤ 100000000000000) (hx : x.natAbs ≤ 1000000000000000000) (ht : t.natAbs ≤ 4000) : PureC (CL F (d + 1)) 18 [.agg [.int .i64 x, .int .i64 y], .int .i64 t] 40 (.bool (decide (3600 * y ∣ x - t * y))) := by
  have m1 : (t * y).natAbs ≤ 4000 * 100000000000000 := by rw [Int.natAbs_mul]; exact Nat.mul_le_mul ht (by omega)
  have e1 : wr .i64 (Int.mul t y) = t * y := smW (n := t * y) (by omega)
  have e2 : wr .i64 (Int.sub x (t * y)) = x - t * y := smW (n := x - t * y) (by omega)
  have e3 : wr .i64 (Int.mul 3600 y) = 3600 * y := smW (n := 3600 * y) (by omega)
  have e4 : iEq (Int.tmod (wr .i64 (Int.sub x (wr .i64 (Int.mul t y)))) (wr .i64 (Int.mul 3600 y))) 0 = decide (3600 * y ∣ x - t * y) := by rw [e1, e2, e3, tm_dvd]
  intro m R
  refine call_in (n := 17) Try.func18 rfl rfl rfl rfl rfl rfl rfl ?_
  repeat' ((conv => whnf); first | refine eqS_rfl ?_ | refine eqA_rfl ?_ | refine eqA_of (by assumption) ?_ | refine eqS_of (by rfl) ?_ | refine eqL_rfl ?_ | refine eqJ_rfl ?_ | refine gE ?_ | refine seS_rfl ?_ | refine lsS_of hup ?_ | refine lsS_rfl ?_ | refine brS_tt ?_ | refine brS_ff ?_ | refine brS_not ?_ | refine gI ?_ | refine gT ?_ | refine gF ?_ | refine brS_intro (fun _ => ?_) (fun _ => ?_) | refine gL ?_ | refine gX ?_ | refine gO ?_ | refine gN ?_ | refine nzS_intro (by rw [e3]; omega) ?_ | intro _)
  all_goals (conv => whnf)
  all_goals refine ⟨?_, by repeat' (first | exact WkM.refl _ | refine WkM.drop ?_), by repeat' (first | exact Nat.le_refl _ | refine Nat.le_succ_of_le ?_)⟩
  all_goals (exact congrArg Value.bool e4)

/-- where a course lies, in the law's numbers -/
def cuU (h : Nat → Int) (N0 D0 : Int) : Int := if N0 < h 0 * D0 then N0 + 3600 * D0 else N0
def cuX (n : Nat) (h dv : Nat → Int) (u D0 : Int) (i : Nat) : Int := u * (nh n h i - h i) + dv i * (nh n h i - h i) * D0 + (nd n dv i - dv i) * (u - h i * D0)
def cuY (n : Nat) (h : Nat → Int) (D0 : Int) (i : Nat) : Int := (nh n h i - h i) * D0
theorem nab_mul {a b : Int} {A B : Nat} (ha : a.natAbs ≤ A) (hb : b.natAbs ≤ B) : (a * b).natAbs ≤ A * B := by rw [Int.natAbs_mul]; exact Nat.mul_le_mul ha hb
theorem mlW {a b : Int} {A B : Nat} (ha : a.natAbs ≤ A) (hb : b.natAbs ≤ B) (h : A * B ≤ 1000000000000000000) : wr .i64 (Int.mul a b) = a * b := smW (n := a * b) (by have := nab_mul ha hb; omega)
theorem c17 (F d : Nat) (hF : 300 < F) (a : Option Addr) (n e c : Nat) (h dv : Nat → Int) (hv : VC n h dv) (N0 D0 u : Int) (hu : u = cuU h N0 D0) (hD : 0 < D0 ∧ D0 ≤ 6000) (hN : 0 ≤ N0 ∧ N0 < 3600 * D0) (i : Nat) (hi : i < n) (hin : u < nh n h i * D0) (hbe : ∀ k, k < i → nh n h k * D0 ≤ u) : ReadC (CL F (d + 2)) 17 [.sl 1000 a n c, .agg [.int .i64 N0, .int .i64 D0]] [(1000, .ro a n e 2 fun j => [.int .i64 (h j), .int .i64 (dv j)])] (20000 + 900) (.tup [.agg [.int .i64 (cuX n h dv u D0 i), .int .i64 (cuY n h D0 i)], .int .i64 (Int.ofNat i)]) := by
  have hn0 := hv.n0
  have hn1 := hv.n1
  have h0 := hv.hb 0 hn0
  have hu2 : 0 ≤ u ∧ u < 7200 * D0 := by rw [hu]; unfold cuU; split <;> omega
  have e0 : wr .i64 (Int.mul (h 0) D0) = h 0 * D0 := mlW (A := 3600) (B := 6000) (by omega) (by omega) (by decide)
  have e1 : wr .i64 (Int.mul 3600 D0) = 3600 * D0 := smW (n := 3600 * D0) (by omega)
  have e2 : wr .i64 (Int.add N0 (3600 * D0)) = N0 + 3600 * D0 := smW (n := N0 + 3600 * D0) (by omega)
  intro R
  rw [show 20000 + 900 = (20000) + 900 from rfl, addL_eq, ← Nat.add_assoc, ← addL_eq _ 900, Nat.add_comm R (20000)]
  have main : ∀ (b3 b4 : Nat) (K : SV → Mem → Nat → Nat → Prop), True := fun _ _ _ => trivial
  by_cases hs : N0 < h 0 * D0
  · have t0 : iLt N0 (wr .i64 (Int.mul (h 0) D0)) = true := by rw [e0]; exact ltT hs
    have huv : wr .i64 (Int.add N0 (wr .i64 (Int.mul 3600 D0))) = u := by rw [e1, e2, hu]; unfold cuU; rw [if_pos hs]
    refine call_in (n := 86) Try.func17 rfl rfl rfl rfl rfl rfl rfl ?_
    repeat' ((conv => whnf); first | refine eqS_rfl ?_ | refine eqA_rfl ?_ | refine eqA_of (by assumption) ?_ | refine eqS_of (by rfl) ?_ | refine eqL_rfl ?_ | refine eqJ_rfl ?_ | refine gE ?_ | refine seS_rfl ?_ | refine lsS_of hup ?_ | refine lsS_rfl ?_ | refine brS_tt ?_ | refine brS_ff ?_ | refine brS_not ?_ | refine gI ?_ | refine gT ?_ | refine gF ?_ | refine brS_intro (fun _ => ?_) (fun _ => ?_) | refine gL ?_ | refine gX ?_ | refine gO ?_ | refine gN ?_ | refine gM ?_ | refine gY ?_ | intro _)
    conv => whnf
    rw [huv]
    rename_i b3 b4 _ _ _
    conv => whnf
    refine loS_i (fun jj f mm R' ni => ∃ k : Nat, k ≤ i ∧ jj = n - k + 1 ∧ f = [(0, .sl 1000 a n c), (3, .ptr 0 b3 0), (4, .ptr 1 b4 0), (27, .sl 1000 a n c), (28, .int .i64 (Int.ofNat n)), (29, .int .i64 (Int.ofNat k))] ∧ mm = [(1, .own b4 42 [.int .i64 0, .int .i64 0]), (0, .own b3 42 [.int .i64 u, .int .i64 D0]), (1000, .ro a n e 2 fun j => [.int .i64 (h j), .int .i64 (dv j)])] ∧ R' = (addL (400 * (n - k) + R) 500) ∧ ni = 10) (n + 1) (by omega)
      ⟨[(0, .sl 1000 a n c), (3, .ptr 0 b3 0), (4, .ptr 1 b4 0), (27, .sl 1000 a n c), (28, .int .i64 (Int.ofNat n)), (29, .int .i64 (Int.ofNat 0))], [(1, .own b4 42 [.int .i64 0, .int .i64 0]), (0, .own b3 42 [.int .i64 u, .int .i64 D0]), (1000, .ro a n e 2 fun j => [.int .i64 (h j), .int .i64 (dv j)])], (addL (400 * (n - 0) + R) 500), 10, ⟨eqF_rfl _, eqF_rfl _, eqF_rfl _, eqF_rfl _, eqF_rfl _, eqF_rfl _, trivial⟩, by exact WS, nM1, 0, by omega, by omega, rfl, rfl, rfl, rfl⟩ ?_
    rintro _ _ _ _ _ ⟨k, hki, rfl, rfl, rfl, rfl, rfl⟩
    have hlt : k < n := by omega
    have t1 := iLt_t hlt
    have hh := hv.hb k hlt
    have hd := hv.db k hlt
    have hl := nh_gt hv hlt
    have hd2 := nd_bd hv k
    have g1 : wr .i64 (Int.mul (nh n h k) D0) = nh n h k * D0 := mlW (A := 7200) (B := 6000) (by omega) (by omega) (by decide)
    by_cases eki : k = i
    · subst eki
      have t2 : iLt u (wr .i64 (Int.mul (nh n h k) D0)) = true := by rw [g1]; exact ltT hin
      obtain ⟨l, hl9⟩ : ∃ l, l = nh n h k - h k := ⟨_, rfl⟩
      have g2 : wr .i64 (Int.sub (nh n h k) (h k)) = l := (smW (n := nh n h k - h k) (by omega)).trans hl9.symm
      have g3 : wr .i64 (Int.mul u l) = u * l := mlW (A := 43200000) (B := 3600) (by omega) (by omega) (by decide)
      have g4 : wr .i64 (Int.mul (dv k) l) = dv k * l := mlW (A := 900) (B := 3600) (by omega) (by omega) (by decide)
      have n4 : (dv k * l).natAbs ≤ 900 * 3600 := nab_mul (by omega) (by omega)
      have g5 : wr .i64 (Int.mul (dv k * l) D0) = dv k * l * D0 := mlW (B := 6000) n4 (by omega) (by decide)
      have n5 : (dv k * l * D0).natAbs ≤ 900 * 3600 * 6000 := nab_mul n4 (by omega)
      have n3 : (u * l).natAbs ≤ 43200000 * 3600 := nab_mul (by omega) (by omega)
      have g6 : wr .i64 (Int.add (u * l) (dv k * l * D0)) = u * l + dv k * l * D0 := smW (n := u * l + dv k * l * D0) (by omega)
      have g7 : wr .i64 (Int.sub (nd n dv k) (dv k)) = nd n dv k - dv k := smW (n := nd n dv k - dv k) (by omega)
      have n8 : (h k * D0).natAbs ≤ 3600 * 6000 := nab_mul (by omega) (by omega)
      have g8 : wr .i64 (Int.mul (h k) D0) = h k * D0 := mlW (A := 3600) (B := 6000) (by omega) (by omega) (by decide)
      have g9 : wr .i64 (Int.sub u (h k * D0)) = u - h k * D0 := smW (n := u - h k * D0) (by omega)
      have n10 : ((nd n dv k - dv k) * (u - h k * D0)).natAbs ≤ 1800 * 64800000 := nab_mul (by omega) (by omega)
      have g10 : wr .i64 (Int.mul (nd n dv k - dv k) (u - h k * D0)) = (nd n dv k - dv k) * (u - h k * D0) := mlW (A := 1800) (B := 64800000) (by omega) (by omega) (by decide)
      have g11 : wr .i64 (Int.add (u * l + dv k * l * D0) ((nd n dv k - dv k) * (u - h k * D0))) = cuX n h dv u D0 k := (smW (n := u * l + dv k * l * D0 + (nd n dv k - dv k) * (u - h k * D0)) (by omega)).trans (by rw [hl9]; rfl)
      have g12 : wr .i64 (Int.mul l D0) = cuY n h D0 k := (mlW (A := 3600) (B := 6000) (by omega) (by omega) (by decide)).trans (by rw [hl9]; rfl)
      repeat' ((conv => whnf); first | refine eqS_rfl ?_ | refine eqA_rfl ?_ | refine eqA_of (by assumption) ?_ | refine eqS_of (by rfl) ?_ | refine eqL_rfl ?_ | refine eqJ_rfl ?_ | refine gE ?_ | refine seS_rfl ?_ | refine lsS_of hup ?_ | refine lsS_rfl ?_ | refine brS_tt ?_ | refine brS_ff ?_ | refine brS_not ?_ | refine gI ?_ | refine gT ?_ | refine gF ?_ | refine brS_intro (fun _ => ?_) (fun _ => ?_) | refine gL ?_ | refine gX ?_ | refine gO ?_ | refine gN ?_ | refine gM ?_ | refine gY ?_ | refine call_readL (c14 F (d + 0) a n e c h dv hv k hlt) (addL (400 * (n - (k + 1)) + R) 600) (by rfl) (by exact SeesM.cons 1000 (sees_ro (i := 1000) (by rfl)) (SeesM.nil _) (fun _ _ _ _ _ _ x hx => by cases hx)) (nM1) ?_ | refine call_pure (c25 F _ _ _) ?_ | intro _)
      conv => whnf
      exact ⟨cg2 (fun x y => Value.tuple ⟨[.agg ⟨[.int .i64 x, .int .i64 y]⟩, .int .i64 (Int.ofNat k)]⟩) (by rw [g2, g3, g4, g5, g6, g7, g8, g9, g10, g11]) (by rw [g2, g12]), nM1⟩
    · have t2 : iLt u (wr .i64 (Int.mul (nh n h k) D0)) = false := by rw [g1]; exact ltF (hbe k (by omega))
      repeat' ((conv => whnf); first | refine eqS_rfl ?_ | refine eqA_rfl ?_ | refine eqA_of (by assumption) ?_ | refine eqS_of (by rfl) ?_ | refine eqL_rfl ?_ | refine eqJ_rfl ?_ | refine gE ?_ | refine seS_rfl ?_ | refine lsS_of hup ?_ | refine lsS_rfl ?_ | refine brS_tt ?_ | refine brS_ff ?_ | refine brS_not ?_ | refine gI ?_ | refine gT ?_ | refine gF ?_ | refine brS_intro (fun _ => ?_) (fun _ => ?_) | refine gL ?_ | refine gX ?_ | refine gO ?_ | refine gN ?_ | refine gM ?_ | refine gY ?_ | refine call_readL (c14 F (d + 0) a n e c h dv hv k hlt) (addL (400 * (n - (k + 1)) + R) 600) (by rfl) (by exact SeesM.cons 1000 (sees_ro (i := 1000) (by rfl)) (SeesM.nil _) (fun _ _ _ _ _ _ x hx => by cases hx)) (nM1) ?_ | intro _)
      conv => whnf
      exact ⟨n - (k + 1) + 1, [(0, .sl 1000 a n c), (3, .ptr 0 b3 0), (4, .ptr 1 b4 0), (27, .sl 1000 a n c), (28, .int .i64 (Int.ofNat n)), (29, .int .i64 (Int.ofNat (k + 1)))], [(1, .own b4 42 [.int .i64 0, .int .i64 0]), (0, .own b3 42 [.int .i64 u, .int .i64 D0]), (1000, .ro a n e 2 fun j => [.int .i64 (h j), .int .i64 (dv j)])], (addL (400 * (n - (k + 1)) + R) 500), 10, by omega, ⟨eqF_rfl _, eqF_rfl _, eqF_rfl _, eqF_rfl _, eqF_rfl _, ⟨congrArg (Value.int .i64) (smn (i := k + 1) (by omega)), rfl⟩, trivial⟩, by exact WS, nM1, k + 1, by omega, rfl, rfl, rfl, rfl, rfl⟩
  · have t0 : iLt N0 (wr .i64 (Int.mul (h 0) D0)) = false := by rw [e0]; exact ltF (by omega)
    have huv : N0 = u := by rw [hu]; unfold cuU; rw [if_neg hs]
    rw [huv] at t0 ⊢
    refine call_in (n := 86) Try.func17 rfl rfl rfl rfl rfl rfl rfl ?_
    repeat' ((conv => whnf); first | refine eqS_rfl ?_ | refine eqA_rfl ?_ | refine eqA_of (by assumption) ?_ | refine eqS_of (by rfl) ?_ | refine eqL_rfl ?_ | refine eqJ_rfl ?_ | refine gE ?_ | refine seS_rfl ?_ | refine lsS_of hup ?_ | refine lsS_rfl ?_ | refine brS_tt ?_ | refine brS_ff ?_ | refine brS_not ?_ | refine gI ?_ | refine gT ?_ | refine gF ?_ | refine brS_intro (fun _ => ?_) (fun _ => ?_) | refine gL ?_ | refine gX ?_ | refine gO ?_ | refine gN ?_ | refine gM ?_ | refine gY ?_ | intro _)
    rename_i b3 b4 _ _ _
    conv => whnf
    refine loS_i (fun jj f mm R' ni => ∃ k : Nat, k ≤ i ∧ jj = n - k + 1 ∧ f = [(0, .sl 1000 a n c), (3, .ptr 0 b3 0), (4, .ptr 1 b4 0), (27, .sl 1000 a n c), (28, .int .i64 (Int.ofNat n)), (29, .int .i64 (Int.ofNat k))] ∧ mm = [(1, .own b4 42 [.int .i64 0, .int .i64 0]), (0, .own b3 42 [.int .i64 u, .int .i64 D0]), (1000, .ro a n e 2 fun j => [.int .i64 (h j), .int .i64 (dv j)])] ∧ R' = (addL (400 * (n - k) + R) 500) ∧ ni = 10) (n + 1) (by omega)
      ⟨[(0, .sl 1000 a n c), (3, .ptr 0 b3 0), (4, .ptr 1 b4 0), (27, .sl 1000 a n c), (28, .int .i64 (Int.ofNat n)), (29, .int .i64 (Int.ofNat 0))], [(1, .own b4 42 [.int .i64 0, .int .i64 0]), (0, .own b3 42 [.int .i64 u, .int .i64 D0]), (1000, .ro a n e 2 fun j => [.int .i64 (h j), .int .i64 (dv j)])], (addL (400 * (n - 0) + R) 500), 10, ⟨eqF_rfl _, eqF_rfl _, eqF_rfl _, eqF_rfl _, eqF_rfl _, eqF_rfl _, trivial⟩, by exact WS, nM1, 0, by omega, by omega, rfl, rfl, rfl, rfl⟩ ?_
    rintro _ _ _ _ _ ⟨k, hki, rfl, rfl, rfl, rfl, rfl⟩
    have hlt : k < n := by omega
    have t1 := iLt_t hlt
    have hh := hv.hb k hlt
    have hd := hv.db k hlt
    have hl := nh_gt hv hlt
    have hd2 := nd_bd hv k
    have g1 : wr .i64 (Int.mul (nh n h k) D0) = nh n h k * D0 := mlW (A := 7200) (B := 6000) (by omega) (by omega) (by decide)
    by_cases eki : k = i
    · subst eki
      have t2 : iLt u (wr .i64 (Int.mul (nh n h k) D0)) = true := by rw [g1]; exact ltT hin
      obtain ⟨l, hl9⟩ : ∃ l, l = nh n h k - h k := ⟨_, rfl⟩
      have g2 : wr .i64 (Int.sub (nh n h k) (h k)) = l := (smW (n := nh n h k - h k) (by omega)).trans hl9.symm
      have g3 : wr .i64 (Int.mul u l) = u * l := mlW (A := 43200000) (B := 3600) (by omega) (by omega) (by decide)
      have g4 : wr .i64 (Int.mul (dv k) l) = dv k * l := mlW (A := 900) (B := 3600) (by omega) (by omega) (by decide)
      have n4 : (dv k * l).natAbs ≤ 900 * 3600 := nab_mul (by omega) (by omega)
      have g5 : wr .i64 (Int.mul (dv k * l) D0) = dv k * l * D0 := mlW (B := 6000) n4 (by omega) (by decide)
      have n5 : (dv k * l * D0).natAbs ≤ 900 * 3600 * 6000 := nab_mul n4 (by omega)
      have n3 : (u * l).natAbs ≤ 43200000 * 3600 := nab_mul (by omega) (by omega)
      have g6 : wr .i64 (Int.add (u * l) (dv k * l * D0)) = u * l + dv k * l * D0 := smW (n := u * l + dv k * l * D0) (by omega)
      have g7 : wr .i64 (Int.sub (nd n dv k) (dv k)) = nd n dv k - dv k := smW (n := nd n dv k - dv k) (by omega)
      have n8 : (h k * D0).natAbs ≤ 3600 * 6000 := nab_mul (by omega) (by omega)
      have g8 : wr .i64 (Int.mul (h k) D0) = h k * D0 := mlW (A := 3600) (B := 6000) (by omega) (by omega) (by decide)
      have g9 : wr .i64 (Int.sub u (h k * D0)) = u - h k * D0 := smW (n := u - h k * D0) (by omega)
      have n10 : ((nd n dv k - dv k) * (u - h k * D0)).natAbs ≤ 1800 * 64800000 := nab_mul (by omega) (by omega)
      have g10 : wr .i64 (Int.mul (nd n dv k - dv k) (u - h k * D0)) = (nd n dv k - dv k) * (u - h k * D0) := mlW (A := 1800) (B := 64800000) (by omega) (by omega) (by decide)
      have g11 : wr .i64 (Int.add (u * l + dv k * l * D0) ((nd n dv k - dv k) * (u - h k * D0))) = cuX n h dv u D0 k := (smW (n := u * l + dv k * l * D0 + (nd n dv k - dv k) * (u - h k * D0)) (by omega)).trans (by rw [hl9]; rfl)
      have g12 : wr .i64 (Int.mul l D0) = cuY n h D0 k := (mlW (A := 3600) (B := 6000) (by omega) (by omega) (by decide)).trans (by rw [hl9]; rfl)
      repeat' ((conv => whnf); first | refine eqS_rfl ?_ | refine eqA_rfl ?_ | refine eqA_of (by assumption) ?_ | refine eqS_of (by rfl) ?_ | refine eqL_rfl ?_ | refine eqJ_rfl ?_ | refine gE ?_ | refine seS_rfl ?_ | refine lsS_of hup ?_ | refine lsS_rfl ?_ | refine brS_tt ?_ | refine brS_ff ?_ | refine brS_not ?_ | refine gI ?_ | refine gT ?_ | refine gF ?_ | refine brS_intro (fun _ => ?_) (fun _ => ?_) | refine gL ?_ | refine gX ?_ | refine gO ?_ | refine gN ?_ | refine gM ?_ | refine gY ?_ | refine call_readL (c14 F (d + 0) a n e c h dv hv k hlt) (addL (400 * (n - (k + 1)) + R) 600) (by rfl) (by exact SeesM.cons 1000 (sees_ro (i := 1000) (by rfl)) (SeesM.nil _) (fun _ _ _ _ _ _ x hx => by cases hx)) (nM1) ?_ | refine call_pure (c25 F _ _ _) ?_ | intro _)
      conv => whnf
      exact ⟨cg2 (fun x y => Value.tuple ⟨[.agg ⟨[.int .i64 x, .int .i64 y]⟩, .int .i64 (Int.ofNat k)]⟩) (by rw [g2, g3, g4, g5, g6, g7, g8, g9, g10, g11]) (by rw [g2, g12]), nM1⟩
    · have t2 : iLt u (wr .i64 (Int.mul (nh n h k) D0)) = false := by rw [g1]; exact ltF (hbe k (by omega))
      repeat' ((conv => whnf); first | refine eqS_rfl ?_ | refine eqA_rfl ?_ | refine eqA_of (by assumption) ?_ | refine eqS_of (by rfl) ?_ | refine eqL_rfl ?_ | refine eqJ_rfl ?_ | refine gE ?_ | refine seS_rfl ?_ | refine lsS_of hup ?_ | refine lsS_rfl ?_ | refine brS_tt ?_ | refine brS_ff ?_ | refine brS_not ?_ | refine gI ?_ | refine gT ?_ | refine gF ?_ | refine brS_intro (fun _ => ?_) (fun _ => ?_) | refine gL ?_ | refine gX ?_ | refine gO ?_ | refine gN ?_ | refine gM ?_ | refine gY ?_ | refine call_readL (c14 F (d + 0) a n e c h dv hv k hlt) (addL (400 * (n - (k + 1)) + R) 600) (by rfl) (by exact SeesM.cons 1000 (sees_ro (i := 1000) (by rfl)) (SeesM.nil _) (fun _ _ _ _ _ _ x hx => by cases hx)) (nM1) ?_ | intro _)
      conv => whnf
      exact ⟨n - (k + 1) + 1, [(0, .sl 1000 a n c), (3, .ptr 0 b3 0), (4, .ptr 1 b4 0), (27, .sl 1000 a n c), (28, .int .i64 (Int.ofNat n)), (29, .int .i64 (Int.ofNat (k + 1)))], [(1, .own b4 42 [.int .i64 0, .int .i64 0]), (0, .own b3 42 [.int .i64 u, .int .i64 D0]), (1000, .ro a n e 2 fun j => [.int .i64 (h j), .int .i64 (dv j)])], (addL (400 * (n - (k + 1)) + R) 500), 10, by omega, ⟨eqF_rfl _, eqF_rfl _, eqF_rfl _, eqF_rfl _, eqF_rfl _, ⟨congrArg (Value.int .i64) (smn (i := k + 1) (by omega)), rfl⟩, trivial⟩, by exact WS, nM1, k + 1, by omega, rfl, rfl, rfl, rfl, rfl⟩
end Go.Proofs.Ytogncjicndbahaa
namespace Go.Proofs.Ytogncjicndbahaa
open Go.Ab
attribute [local irreducible] aggOk drwOK
set_option maxRecDepth 100000
set_option maxHeartbeats 4000000
set_option linter.unusedVariables false
set_option linter.unusedSimpArgs false
theorem csW_mod {bh bd eh ed m : Int} (hB : SgB bh bd eh ed) (hm : 0 ≤ m ∧ m < 3600) : csW bh bd eh ed m = csW0 bh bd eh ed m % 3600 := by
  obtain ⟨_, _, w3, w4, _, _⟩ := csW_bd hB hm
  unfold csW bkI
  generalize csW0 bh bd eh ed m = x at *
  split
  · omega
  · split
    · omega
    · split <;> omega
/-- how many -/
theorem csL_n {bh bd eh ed m : Int} (hB : SgB bh bd eh ed) (hm : 0 ≤ m ∧ m < 3600) : ((csL bh bd eh ed m).length : Int) = if csR bh bd eh ed ≤ csW bh bd eh ed m then 0 else if csR bh bd eh ed ≤ csW bh bd eh ed m + 3600 then 1 else 2 := by
  unfold csL
  split
  · rfl
  · split <;> rfl
def Fc (m x : Int) : Int := -((m - x) / 3600)
theorem cnt_pos {bh bd eh ed m : Int} (hB : SgB bh bd eh ed) (hm : 0 ≤ m ∧ m < 3600) (hr : 0 < eh + ed - (bh + bd)) : ((csL bh bd eh ed m).length : Int) = Fc m (eh + ed) - Fc m (bh + bd) := by
  obtain ⟨_, _, _, _, _, w6⟩ := csW_bd hB hm
  have e1 : csR bh bd eh ed = eh + ed - (bh + bd) := by unfold csR; rw [if_neg (by omega)]
  have e2 : csW0 bh bd eh ed m = m - (bh + bd) := by unfold csW0; rw [if_neg (by omega)]
  rw [csL_n hB hm, csW_mod hB hm, e1, e2]
  rw [e1] at w6
  unfold Fc
  split
  · omega
  · split <;> omega
theorem cnt_zero {bh bd eh ed m : Int} (hB : SgB bh bd eh ed) (hm : 0 ≤ m ∧ m < 3600) (hr : eh + ed - (bh + bd) = 0) : ((csL bh bd eh ed m).length : Int) = 0 := by
  obtain ⟨w1, _, _, _, _, w6⟩ := csW_bd hB hm
  rw [csL_n hB hm]
  have : csR bh bd eh ed = 0 := by unfold csR; split <;> omega
  rw [this, if_pos w1]
theorem cnt_neg {bh bd eh ed m : Int} (hB : SgB bh bd eh ed) (hm : 0 ≤ m ∧ m < 3600) (hr : eh + ed - (bh + bd) < 0) : ((csL bh bd eh ed m).length : Int) = (bh + bd - m) / 3600 - (eh + ed - m) / 3600 := by
  obtain ⟨_, _, _, _, _, w6⟩ := csW_bd hB hm
  have e1 : csR bh bd eh ed = -(eh + ed - (bh + bd)) := by unfold csR; rw [if_pos hr]
  have e2 : csW0 bh bd eh ed m = -(m - (bh + bd)) := by unfold csW0; rw [if_pos hr]
  rw [csL_n hB hm, csW_mod hB hm, e1, e2]
  rw [e1] at w6
  split
  · omega
  · split <;> omega
/-- the course at a point, on and on -/
def mS (n : Nat) (h dv : Nat → Int) (k : Nat) : Int := if k < n then h k + dv k else h 0 + dv 0 + 3600
theorem mS_lt {n : Nat} {h dv : Nat → Int} {k : Nat} (hk : k < n) : mS n h dv k = h k + dv k := by unfold mS; rw [if_pos hk]
theorem mS_nx {n : Nat} {h dv : Nat → Int} {k : Nat} (hk : k < n) : nh n h k + nd n dv k = mS n h dv (k + 1) := by
  unfold mS nh nd
  split
  · rfl
  · omega
theorem rs_mS {n : Nat} {h dv : Nat → Int} {k : Nat} (hk : k < n) : rs n h dv k = mS n h dv (k + 1) - mS n h dv k := by
  rw [← mS_nx hk, mS_lt hk]; rfl
theorem csA_ge {n : Nat} {h dv : Nat → Int} (hv : VC n h dv) {m : Int} (hm : 0 ≤ m ∧ m < 3600) : ∀ k, k ≤ n → Fc m (mS n h dv k) - Fc m (mS n h dv 0) ≤ ((csA n h dv m k).length : Int)
  | 0, _ => by rw [Int.sub_self]; exact Int.natCast_nonneg _
  | k + 1, hk => by
    have ih := csA_ge hv hm k (by omega)
    have hB := hv.sg (show k < n by omega)
    have e1 : ((csA n h dv m (k + 1)).length : Int) = ((csA n h dv m k).length : Int) + ((csL (h k) (dv k) (nh n h k) (nd n dv k) m).length : Int) := by
      show ((csA n h dv m k ++ csK n h dv m k).length : Int) = _
      rw [List.length_append]; push_cast; rfl
    have e2 : Fc m (nh n h k + nd n dv k) - Fc m (h k + dv k) ≤ ((csL (h k) (dv k) (nh n h k) (nd n dv k) m).length : Int) := by
      rcases Int.lt_trichotomy (nh n h k + nd n dv k - (h k + dv k)) 0 with h0 | h0 | h0
      · unfold Fc; omega
      · unfold Fc; omega
      · rw [cnt_pos hB hm h0]; exact Int.le_refl _
    rw [e1, ← mS_nx (by omega)]
    rw [mS_lt (show k < n by omega)] at ih
    omega
theorem csA_ge1 {n : Nat} {h dv : Nat → Int} (hv : VC n h dv) {m : Int} (hm : 0 ≤ m ∧ m < 3600) {i : Nat} (hi : i < n) (hr : rs n h dv i < 0) (hc : (m - (h i + dv i)) % 3600 = 0) : ∀ k, i < k → k ≤ n → Fc m (mS n h dv k) - Fc m (mS n h dv 0) + 1 ≤ ((csA n h dv m k).length : Int)
  | 0, h0, _ => by omega
  | k + 1, hik, hk => by
    have hB := hv.sg (show k < n by omega)
    have e1 : ((csA n h dv m (k + 1)).length : Int) = ((csA n h dv m k).length : Int) + ((csL (h k) (dv k) (nh n h k) (nd n dv k) m).length : Int) := by
      show ((csA n h dv m k ++ csK n h dv m k).length : Int) = _
      rw [List.length_append]; push_cast; rfl
    by_cases e : i = k
    · subst e
      have ih := csA_ge hv hm i (by omega)
      rw [e1, ← mS_nx (by omega), cnt_neg hB hm hr]
      rw [mS_lt hi] at ih
      unfold rs at hr
      unfold Fc at *
      omega
    · have ih := csA_ge1 hv hm hi hr hc k (by omega) (by omega)
      have e2 : Fc m (nh n h k + nd n dv k) - Fc m (h k + dv k) ≤ ((csL (h k) (dv k) (nh n h k) (nd n dv k) m).length : Int) := by
        rcases Int.lt_trichotomy (nh n h k + nd n dv k - (h k + dv k)) 0 with h0 | h0 | h0
        · unfold Fc; omega
        · unfold Fc; omega
        · rw [cnt_pos hB hm h0]; exact Int.le_refl _
      rw [e1, ← mS_nx (by omega)]
      rw [mS_lt (show k < n by omega)] at ih
      omega
/-- a fold's beginning has another course -/
theorem csA_two {n : Nat} {h dv : Nat → Int} (hv : VC n h dv) {m : Int} (hm : 0 ≤ m ∧ m < 3600) {i : Nat} (hi : i < n) (hr : rs n h dv i < 0) (hc : (m - (h i + dv i)) % 3600 = 0) : 2 ≤ (csA n h dv m n).length := by
  have h1 := csA_ge1 hv hm hi hr hc n hi (Nat.le_refl n)
  rw [mS_lt hv.n0, show mS n h dv n = h 0 + dv 0 + 3600 from if_neg (Nat.lt_irrefl n)] at h1
  unfold Fc at h1
  omega
/-- a sound card has one course -/
theorem csA_one {n : Nat} {h dv : Nat → Int} (hv : VC n h dv) {m : Int} (hm : 0 ≤ m ∧ m < 3600) (hs : ∀ k, k < n → 0 < rs n h dv k) : (csA n h dv m n).length = 1 := by
  have key : ∀ k, k ≤ n → ((csA n h dv m k).length : Int) = Fc m (mS n h dv k) - Fc m (mS n h dv 0) := by
    intro k
    induction k with
    | zero => intro _; rw [Int.sub_self]; rfl
    | succ k ih =>
      intro hk
      have ih := ih (by omega)
      have hB := hv.sg (show k < n by omega)
      have e1 : ((csA n h dv m (k + 1)).length : Int) = ((csA n h dv m k).length : Int) + ((csL (h k) (dv k) (nh n h k) (nd n dv k) m).length : Int) := by
        show ((csA n h dv m k ++ csK n h dv m k).length : Int) = _
        rw [List.length_append]; push_cast; rfl
      rw [e1, ih, cnt_pos hB hm (hs k (by omega)), ← mS_nx (by omega), mS_lt (show k < n by omega)]
      omega
  have h1 := key n (Nat.le_refl n)
  rw [mS_lt hv.n0, show mS n h dv n = h 0 + dv 0 + 3600 from if_neg (Nat.lt_irrefl n)] at h1
  unfold Fc at h1
  omega
theorem foL_app {n : Nat} {h dv : Nat → Int} : ∀ {k : Nat} (j : Nat), ∃ r, foL n h dv (k + j) = foL n h dv k ++ r
  | k, 0 => ⟨[], by rw [List.append_nil]; rfl⟩
  | k, j + 1 => by
    obtain ⟨r, hr⟩ := foL_app (n := n) (h := h) (dv := dv) (k := k) j
    by_cases hk : rs n h dv (k + j) ≤ 0
    · exact ⟨r ++ [k + j], by rw [show k + (j + 1) = k + j + 1 from rfl, foL_t hk, hr, List.append_assoc]⟩
    · exact ⟨r, by rw [show k + (j + 1) = k + j + 1 from rfl, foL_f hk, hr]⟩
theorem foL_at {n : Nat} {h dv : Nat → Int} {i : Nat} (hi : i < n) (hr : rs n h dv i ≤ 0) : (foL n h dv i).length < (foL n h dv n).length ∧ (foL n h dv n).getD (foL n h dv i).length 0 = i := by
  obtain ⟨r, h1⟩ := foL_app (n := n) (h := h) (dv := dv) (k := i + 1) (n - (i + 1))
  rw [show i + 1 + (n - (i + 1)) = n by omega, foL_t hr, List.append_assoc] at h1
  rw [h1]
  constructor
  · rw [List.length_append]; simp
  · rw [List.getD_eq_getElem?_getD, List.getElem?_append_right (Nat.le_refl _), Nat.sub_self]; rfl
theorem foL_nil {n : Nat} {h dv : Nat → Int} (h0 : (foL n h dv n).length = 0) : ∀ k, k < n → 0 < rs n h dv k := fun k hk => by
  have h1 := List.eq_nil_of_length_eq_zero h0
  unfold foL at h1
  have h2 := List.filter_eq_nil_iff.1 h1 k (List.mem_range.2 hk)
  simpa using h2
end Go.Proofs.Ytogncjicndbahaa
namespace Go.Proofs.Ytogncjicndbahaa
open Go.Ab
attribute [local irreducible] aggOk drwOK
set_option maxRecDepth 100000
set_option maxHeartbeats 4000000
set_option linter.unusedVariables false
set_option linter.unusedSimpArgs false
/-- a course of a segment, in numbers -/
structure CsI (n : Nat) (h dv : Nat → Int) (m : Int) (k : Nat) (x : Rat) (w : Int) : Prop where
  w0 : 0 ≤ w ∧ w < csR (h k) (dv k) (nh n h k) (nd n dv k)
  wm : w = csW (h k) (dv k) (nh n h k) (nd n dv k) m ∨ w = csW (h k) (dv k) (nh n h k) (nd n dv k) m + 3600
  x : x = csV (h k) (nh n h k) (csR (h k) (dv k) (nh n h k) (nd n dv k)) w
theorem csI_of {n : Nat} {h dv : Nat → Int} (hv : VC n h dv) {m : Int} (hm : 0 ≤ m ∧ m < 3600) {k : Nat} (hk : k < n) {x : Rat} (hx : x ∈ csK n h dv m k) : ∃ w, CsI n h dv m k x w := by
  obtain ⟨w1, w2, _, _, w5, w6⟩ := csW_bd (hv.sg hk) hm
  unfold csK csL at hx
  split at hx
  · cases hx
  · split at hx
    · exact ⟨_, ⟨w1, by omega⟩, .inl rfl, List.mem_singleton.1 hx⟩
    · rcases List.mem_cons.1 hx with h | h
      · exact ⟨_, ⟨w1, by omega⟩, .inl rfl, h⟩
      · exact ⟨_, ⟨by omega, by omega⟩, .inr rfl, List.mem_singleton.1 h⟩
/-- what it says of the course -/
structure CsU (n : Nat) (h dv : Nat → Int) (k : Nat) (x : Rat) (w : Int) : Prop where
  lo : h k * x.den ≤ cuU h x.num x.den
  hi : cuU h x.num x.den < nh n h k * x.den
  be : ∀ j, j < k → nh n h j * x.den ≤ cuU h x.num x.den
  eq : (cuU h x.num x.den - h k * x.den) * csR (h k) (dv k) (nh n h k) (nd n dv k) = (nh n h k - h k) * w * x.den
theorem rat_num (t : Rat) : (t.num : Rat) = t * (t.den : Rat) := by
  have h := num_div t
  have hd : (t.den : Rat) ≠ 0 := by intro h; rw [Rat.natCast_eq_zero_iff] at h; exact t.den_nz h
  conv => rhs; arg 1; rw [← h]
  rw [Rat.div_mul_cancel hd]
theorem csU_of {n : Nat} {h dv : Nat → Int} (hv : VC n h dv) {m : Int} (hm : 0 ≤ m ∧ m < 3600) {k : Nat} (hk : k < n) {x : Rat} {w : Int} (hx : CsI n h dv m k x w) : CsU n h dv k x w := by
  obtain ⟨w1, w2, _, _, w5, w6⟩ := csW_bd (hv.sg hk) hm
  have hB := hv.sg hk
  have b1 := hB.h
  have b2 := hB.l
  have hw := hx.w0
  have hxx := hx.x
  have h00 := hv.hb 0 hv.n0
  generalize hR : csR (h k) (dv k) (nh n h k) (nd n dv k) = R at *
  have hR0 : 0 < R := by omega
  obtain ⟨p, t, q, c⟩ := csP (h k) (nh n h k) R w b1 b2 hw w6
  have hxq : x = q := by rw [hxx, c.e]
  have hxt : x = bkR t := by rw [hxq, c.hq]
  obtain ⟨n1, n2⟩ := bkR_eq t
  rw [← hxt] at n1 n2
  have hD : (0 : Int) < x.den := by have := x.den_pos; omega
  have hRr : (R : Rat) ≠ 0 := by intro h; rw [Rat.intCast_eq_zero_iff] at h; omega
  -- T R = (h R + l w) D
  have cross : t.num * R = (h k * R + (nh n h k - h k) * w) * t.den := by
    have e1 : t * (R : Rat) = ((h k * R + (nh n h k - h k) * w : Int) : Rat) := by
      rw [c.ht, c.hp, Rat.add_mul, Rat.div_mul_cancel hRr]
      push_cast; rfl
    have e2 : (t.num : Rat) * (R : Rat) = ((h k * R + (nh n h k - h k) * w : Int) : Rat) * (t.den : Rat) := by
      rw [rat_num t, ← e1]
      rw [Rat.mul_assoc, Rat.mul_assoc, Rat.mul_comm (t.den : Rat)]
    exact_mod_cast e2
  rw [← n2] at cross
  rw [← n2] at n1
  have lw : 0 ≤ (nh n h k - h k) * w := Int.mul_nonneg (by omega) (by omega)
  have lo : h k * x.den ≤ t.num := by
    refine Int.le_of_mul_le_mul_right ?_ hR0
    rw [cross, Int.add_mul]
    have : 0 ≤ (nh n h k - h k) * w * x.den := Int.mul_nonneg lw (by omega)
    rw [Int.mul_right_comm]
    omega
  have hi : t.num < nh n h k * x.den := by
    refine Int.lt_of_mul_lt_mul_right (a := R) ?_ (by omega)
    rw [cross]
    have h1 : (nh n h k - h k) * w < (nh n h k - h k) * R := Int.mul_lt_mul_of_pos_left hw.2 (by omega)
    have h2 : h k * R + (nh n h k - h k) * w < nh n h k * R := by
      have e1 := Int.sub_mul (nh n h k) (h k) R
      omega
    have h3 := Int.mul_lt_mul_of_pos_right h2 hD
    rw [Int.mul_right_comm (nh n h k)] at h3
    exact h3
  have h0k : h 0 ≤ h k := by
    by_cases e : k = 0
    · rw [e]; exact Int.le_refl _
    · exact Int.le_of_lt (hv.up 0 k (by omega) hk)
  have hu : cuU h x.num x.den = t.num := by
    unfold cuU
    have hle : h 0 * x.den ≤ h k * x.den := Int.mul_le_mul_of_nonneg_right h0k (by omega)
    by_cases ht : t.num < 3600 * x.den
    · have : x.num = t.num := by rw [n1]; unfold bkI; rw [if_neg (by have : 0 ≤ h k * x.den := Int.mul_nonneg b1.1 (by omega); omega), if_neg (by have : 0 ≤ h k * x.den := Int.mul_nonneg b1.1 (by omega); omega), if_neg (by omega)]
      rw [this, if_neg (by omega)]
    · have hnl : nh n h k = h 0 + 3600 := by
        unfold nh
        split
        · rename_i hl
          have h4 := hv.hb (k + 1) hl
          have e5 : nh n h k = h (k + 1) := by unfold nh; rw [if_pos hl]
          rw [e5] at hi
          have h5 : h (k + 1) * x.den ≤ 3600 * x.den := Int.mul_le_mul_of_nonneg_right (by omega) (by omega)
          omega
        · rfl
      have : x.num = t.num - 3600 * x.den := by rw [n1]; unfold bkI; rw [if_neg (by omega), if_neg (by omega), if_pos (by omega)]
      rw [hnl, Int.add_mul] at hi
      rw [this, if_pos (by omega)]
      omega
  rw [← hu] at lo hi cross
  refine ⟨lo, hi, fun j hj => ?_, ?_⟩
  · have hjl : j + 1 < n := by omega
    have e5 : nh n h j = h (j + 1) := by unfold nh; rw [if_pos hjl]
    rw [e5]
    have h6 : h (j + 1) ≤ h k := by
      by_cases e : j + 1 = k
      · rw [e]; exact Int.le_refl _
      · exact Int.le_of_lt (hv.up (j + 1) k (by omega) hk)
    have h7 : h (j + 1) * x.den ≤ h k * x.den := Int.mul_le_mul_of_nonneg_right h6 (by omega)
    omega
  · rw [hR, Int.sub_mul, cross, Int.add_mul, Int.mul_right_comm (h k)]
    omega
/-- it leads to the heading -/
theorem csU_leads {n : Nat} {h dv : Nat → Int} (hv : VC n h dv) {m : Int} (hm : 0 ≤ m ∧ m < 3600) {k : Nat} (hk : k < n) {x : Rat} {w : Int} (hx : CsI n h dv m k x w) (hu : CsU n h dv k x w) : 3600 * cuY n h x.den k ∣ cuX n h dv (cuU h x.num x.den) x.den k - m * cuY n h x.den k := by
  have hB := hv.sg hk
  have hW := csW_mod hB hm
  have he := hu.eq
  have hwm := hx.wm
  obtain ⟨s, z, hs1, hs2⟩ : ∃ s z : Int, rs n h dv k = s * csR (h k) (dv k) (nh n h k) (nd n dv k) ∧ h k + dv k + s * w = m + 3600 * z := by
    unfold csW0 at hW
    unfold rs csR at *
    by_cases hr : nh n h k + nd n dv k - (h k + dv k) < 0
    · rw [if_pos hr] at *
      rcases hwm with e | e
      · exact ⟨-1, (h k + dv k - w - m) / 3600, by omega, by omega⟩
      · exact ⟨-1, (h k + dv k - w - m) / 3600, by omega, by omega⟩
    · rw [if_neg hr] at *
      rcases hwm with e | e
      · exact ⟨1, (h k + dv k + w - m) / 3600, by omega, by omega⟩
      · exact ⟨1, (h k + dv k + w - m) / 3600, by omega, by omega⟩
  generalize csR (h k) (dv k) (nh n h k) (nd n dv k) = R at *
  generalize cuU h x.num x.den = u at *
  unfold rs at hs1
  unfold cuX cuY
  generalize (x.den : Int) = D at *
  generalize nh n h k = H at *
  generalize nd n dv k = E at *
  generalize h k = b at *
  generalize dv k = d at *
  refine ⟨z, ?_⟩
  have key : u * (H - b) + d * (H - b) * D + (E - d) * (u - b * D) - (b + d + s * w) * ((H - b) * D) = s * ((u - b * D) * R - (H - b) * w * D) := by
    have : E = s * R + (b + d) - H := by omega
    subst this
    grind
  rw [he, Int.sub_self, Int.mul_zero, hs2] at key
  grind
end Go.Proofs.Ytogncjicndbahaa
namespace Go.Proofs.Ytogncjicndbahaa
open Go.Ab
attribute [local irreducible] aggOk drwOK
set_option maxRecDepth 100000
set_option maxHeartbeats 4000000
set_option linter.unusedVariables false
set_option linter.unusedSimpArgs false
theorem csU_same {n : Nat} {h dv : Nat → Int} {k j : Nat} {x : Rat} {w v : Int} (h1 : CsU n h dv k x w) (h2 : CsU n h dv j x v) : k = j := by
  rcases Nat.lt_trichotomy k j with e | e | e
  · have := h2.be k e; have := h1.hi; omega
  · exact e
  · have := h1.be j e; have := h2.hi; omega
theorem csU_w {n : Nat} {h dv : Nat → Int} (hv : VC n h dv) {k : Nat} (hk : k < n) {x : Rat} {w v : Int} (h1 : CsU n h dv k x w) (h2 : CsU n h dv k x v) : w = v := by
  have e : (nh n h k - h k) * w * x.den = (nh n h k - h k) * v * x.den := by rw [← h1.eq, h2.eq]
  have hl := nh_gt hv hk
  have hd := x.den_pos
  have e2 := Int.eq_of_mul_eq_mul_right (by omega) e
  exact Int.eq_of_mul_eq_mul_left (by omega) e2
theorem csK_nodup {n : Nat} {h dv : Nat → Int} (hv : VC n h dv) {m : Int} (hm : 0 ≤ m ∧ m < 3600) {k : Nat} (hk : k < n) : (csK n h dv m k).Nodup := by
  obtain ⟨w1, w2, _, _, w5, w6⟩ := csW_bd (hv.sg hk) hm
  unfold csK csL
  split
  · exact List.nodup_nil
  · split
    · exact List.nodup_cons.2 ⟨by simp, List.nodup_nil⟩
    · refine List.nodup_cons.2 ⟨fun hmem => ?_, List.nodup_cons.2 ⟨by simp, List.nodup_nil⟩⟩
      have e := List.mem_singleton.1 hmem
      have c1 : CsI n h dv m k _ _ := ⟨⟨w1, by omega⟩, .inl rfl, rfl⟩
      have c2 : CsI n h dv m k _ _ := ⟨⟨by omega, by omega⟩, .inr rfl, e⟩
      have := csU_w hv hk (csU_of hv hm hk c1) (csU_of hv hm hk c2)
      omega
theorem csA_nodup {n : Nat} {h dv : Nat → Int} (hv : VC n h dv) {m : Int} (hm : 0 ≤ m ∧ m < 3600) : ∀ {k : Nat}, k ≤ n → (csA n h dv m k).Nodup
  | 0, _ => List.nodup_nil
  | k + 1, hk => by
    refine List.nodup_append.2 ⟨csA_nodup hv hm (by omega), csK_nodup hv hm (by omega), fun x hx y hy hxy => ?_⟩
    subst hxy
    obtain ⟨j, hj, hx⟩ := csA_mem.1 hx
    obtain ⟨w, c1⟩ := csI_of hv hm (show j < n by omega) hx
    obtain ⟨v, c2⟩ := csI_of hv hm (show k < n by omega) hy
    have := csU_same (csU_of hv hm (by omega) c1) (csU_of hv hm (by omega) c2)
    omega
theorem nodup_get {l : List Rat} (h : l.Nodup) {a b : Nat} (ha : a < l.length) (hb : b < l.length) (hab : a ≠ b) : l.getD a 0 ≠ l.getD b 0 := by
  rw [List.getD_eq_getElem?_getD, List.getD_eq_getElem?_getD, List.getElem?_eq_getElem ha, List.getElem?_eq_getElem hb]
  intro e
  exact hab ((List.getElem_inj h).1 (by simpa using e))
theorem srt_lt {n : Nat} {h dv : Nat → Int} (hv : VC n h dv) {m : Int} (hm : 0 ≤ m ∧ m < 3600) {L : List Rat} (hp : L.Perm (csA n h dv m n)) (hS : Srt L L.length) {a b : Nat} (hab : a < b) (hb : b < L.length) : L.getD a 0 < L.getD b 0 :=
  Rat.lt_of_le_of_ne (hS a b hab hb) (nodup_get (hp.nodup_iff.2 (csA_nodup hv hm (Nat.le_refl n))) (by omega) hb (by omega))
/-- of each course: its segment -/
theorem at_seg {n : Nat} {h dv : Nat → Int} (hv : VC n h dv) {m : Int} (hm : 0 ≤ m ∧ m < 3600) {L : List Rat} (hp : L.Perm (csA n h dv m n)) {a : Nat} (ha : a < L.length) : ∃ k w, k < n ∧ L.getD a 0 ∈ csK n h dv m k ∧ CsI n h dv m k (L.getD a 0) w ∧ CsU n h dv k (L.getD a 0) w := by
  obtain ⟨k, hk, h1⟩ := csA_mem.1 (hp.mem_iff.1 (getD_memR ha))
  obtain ⟨w, c1⟩ := csI_of hv hm hk h1
  exact ⟨k, w, hk, h1, c1, csU_of hv hm hk c1⟩
theorem at_bd {n : Nat} {h dv : Nat → Int} (hv : VC n h dv) {m : Int} (hm : 0 ≤ m ∧ m < 3600) {L : List Rat} (hp : L.Perm (csA n h dv m n)) {a : Nat} (ha : a < L.length) : Vb (L.getD a 0) 3600 6000 ∧ 0 ≤ L.getD a 0 ∧ L.getD a 0 < 3600 := by
  obtain ⟨k, hk, h1⟩ := csA_mem.1 (hp.mem_iff.1 (getD_memR ha))
  exact csL_vb (hv.sg hk) hm h1
end Go.Proofs.Ytogncjicndbahaa
namespace Go.Proofs.Ytogncjicndbahaa
open Go.Ab
attribute [local irreducible] aggOk drwOK
set_option maxRecDepth 100000
set_option maxHeartbeats 4000000
set_option linter.unusedVariables false
set_option linter.unusedSimpArgs false
theorem c11g (F d : Nat) (hF : 300 < F) (i : Nat) (a : Option Addr) (N e c : Nat) (p0 p1 : Nat → Nat) (w : Nat) (hp0 : ∀ j, p0 j < 65536) (hp1 : ∀ j, p1 j < 65536) (hw : w < 256) (n : Nat) (h dv : Nat → Int) (en : n = rN N) (eh : h = rH N p0) (ed : dv = rD N p1 w) (R : Nat) :
    callS (CL F (d + 1)) (.fn 11 [] []) [.agg [.sl 1000 a N c, .int .u8 (Int.ofNat w)]] [(1000, .ro a N e 2 fun j => [.int .u16 (Int.ofNat (p0 j)), .int .u16 (Int.ofNat (p1 j))])] (addL R (3000 + 900)) 0 fun w1 m' R' _ => (∃ w0 mf, Q11 i n (fun j => [.int .i64 (h j), .int .i64 (dv j)]) w0 mf ∧ den w1 = den w0 ∧ WkM m' mf) ∧ R ≤ R' := by
  subst en eh ed
  exact c11 F d hF i a N e c p0 p1 w hp0 hp1 hw R
theorem call11 (F d : Nat) (hF : 300 < F) (i : Nat) (a : Option Addr) (N e c : Nat) (p0 p1 : Nat → Nat) (w : Nat) (hp0 : ∀ j, p0 j < 65536) (hp1 : ∀ j, p1 j < 65536) (hw : w < 256) (n : Nat) (h dv : Nat → Int) (en : n = rN N) (eh : h = rH N p0) (ed : dv = rD N p1 w) (R2 : Nat) {args : List SV} {mm : Mem} {R ni : Nat} {K : SV → Mem → Nat → Nat → Prop} (ha : dens args = dens [.agg [.sl 1000 a N c, .int .u8 (Int.ofNat w)]]) (hs : SeesM mm [(1000, .ro a N e 2 fun j => [.int .u16 (Int.ofNat (p0 j)), .int .u16 (Int.ofNat (p1 j))])]) (hN : R2 + (3000 + 900) ≤ R)
    (hK : ∀ a1, K (.sl i a1 n n) ((i, .gr a1 n 37 2 (fun j => [.int .i64 (h j), .int .i64 (dv j)])) :: mm) R2 ni) : callS (CL F (d + 1)) (.fn 11 [] []) args mm R ni K :=
  call_freshL (Q11 i n (fun j => [.int .i64 (h j), .int .i64 (dv j)])) (c11g F d hF i a N e c p0 p1 w hp0 hp1 hw n h dv en eh ed) (fun w0 mf hq x hx => by
    obtain ⟨a1, _, rfl⟩ := hq
    rw [List.mem_singleton.1 hx]
    exact ⟨_, _, _, _, _, rfl⟩) R2 ha hs hN fun w0 mf hq => by
    obtain ⟨a1, rfl, rfl⟩ := hq
    exact hK a1
/-- a turn's heading meets a segment -/
def nT (m : Int) (t : Nat) : Int := m + ((t : Int) - 2) * 3600
def hitB (a b m : Int) (t : Nat) : Bool := (!iLt (nT m t) a && iLt (nT m t) b) || (!iLt a (nT m t) && iLt b (nT m t))
def cT (a b m : Int) : Nat → Nat
  | 0 => 0
  | t + 1 => cT a b m t + (bif hitB a b m t then 1 else 0)
def fT (a b m : Int) : Nat → Bool
  | 0 => false
  | t + 1 => fT a b m t || (iEq a b && iEq (nT m t) a)
theorem cT_le (a b m : Int) : ∀ t, cT a b m t ≤ t
  | 0 => Nat.le_refl 0
  | t + 1 => by have := cT_le a b m t; unfold cT; cases hitB a b m t <;> simp <;> omega
theorem hitB_eq (a b m : Int) (t : Nat) : hitB a b m t = decide ((a ≤ nT m t ∧ nT m t < b) ∨ (nT m t ≤ a ∧ b < nT m t)) := by
  unfold hitB
  simp only [iLt_eq]
  rw [Bool.eq_iff_iff]
  simp
theorem nT0 (m : Int) : nT m 0 = m - 7200 := by unfold nT; omega
theorem nT1 (m : Int) : nT m 1 = m - 3600 := by unfold nT; omega
theorem nT2 (m : Int) : nT m 2 = m := by unfold nT; omega
theorem nT3 (m : Int) : nT m 3 = m + 3600 := by unfold nT; omega
theorem nT4 (m : Int) : nT m 4 = m + 7200 := by unfold nT; omega
theorem cdI (p : Prop) [Decidable p] : (bif decide p then (1 : Int) else 0) = if p then 1 else 0 := by by_cases h : p <;> simp [h]
theorem cT5 {bh bd eh ed m : Int} (hB : SgB bh bd eh ed) (hm : 0 ≤ m ∧ m < 3600) : cT (bh + bd) (eh + ed) m 5 = (csL bh bd eh ed m).length := by
  have b1 := hB.h
  have b2 := hB.l
  have b3 := hB.d
  have b4 := hB.e
  have key : ((cT (bh + bd) (eh + ed) m 5 : Nat) : Int) = ((csL bh bd eh ed m).length : Int) := by
    have h5 : ((cT (bh + bd) (eh + ed) m 5 : Nat) : Int) = (bif hitB (bh + bd) (eh + ed) m 0 then 1 else 0) + (bif hitB (bh + bd) (eh + ed) m 1 then 1 else 0) + (bif hitB (bh + bd) (eh + ed) m 2 then 1 else 0) + (bif hitB (bh + bd) (eh + ed) m 3 then 1 else 0) + (bif hitB (bh + bd) (eh + ed) m 4 then 1 else 0) := by
      simp only [cT]
      cases hitB (bh + bd) (eh + ed) m 0 <;> cases hitB (bh + bd) (eh + ed) m 1 <;> cases hitB (bh + bd) (eh + ed) m 2 <;> cases hitB (bh + bd) (eh + ed) m 3 <;> cases hitB (bh + bd) (eh + ed) m 4 <;> rfl
    rw [h5]
    simp only [hitB_eq, nT0, nT1, nT2, nT3, nT4, cdI]
    rcases Int.lt_trichotomy (eh + ed - (bh + bd)) 0 with h0 | h0 | h0
    · rw [cnt_neg hB hm h0]
      split <;> split <;> split <;> split <;> split <;> omega
    · rw [cnt_zero hB hm h0]
      split <;> split <;> split <;> split <;> split <;> omega
    · rw [cnt_pos hB hm h0]
      unfold Fc
      split <;> split <;> split <;> split <;> split <;> omega
  omega
theorem fT5 {bh bd eh ed m : Int} (hB : SgB bh bd eh ed) (hm : 0 ≤ m ∧ m < 3600) : fT (bh + bd) (eh + ed) m 5 = decide (eh + ed - (bh + bd) = 0 ∧ bkI (bh + bd) 3600 = m) := by
  have b1 := hB.h
  have b3 := hB.d
  simp only [fT, iEq_eq, nT0, nT1, nT2, nT3, nT4]
  rw [Bool.eq_iff_iff]
  simp only [Bool.or_eq_true, Bool.and_eq_true, decide_eq_true_eq, Bool.false_eq_true, false_or, beq_iff_eq]
  unfold bkI
  constructor
  · intro h
    refine ⟨by omega, ?_⟩
    split
    · omega
    · split
      · omega
      · split <;> omega
  · rintro ⟨h1, h2⟩
    split at h2
    · omega
    · split at h2
      · omega
      · split at h2 <;> omega
end Go.Proofs.Ytogncjicndbahaa
