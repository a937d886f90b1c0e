/- Fractions: PeriodSimplest's run: contracts of all functions that it calls. -/
import Derived.Test.YtildnbpdhkdddaaProg
import Derived.Test.YtildnbpdhkdddaaEngSx
import Derived.KernelRfl
namespace Go.Proofs.Ytildnbpdhkdddaa
open Go.Ab
attribute [local irreducible] aggOk drwOK
set_option maxRecDepth 100000
set_option maxHeartbeats 4000000
noncomputable abbrev CL (F d : Nat) : CallT := callF Try.prog F (extB [] 12) d
abbrev i64 (n : Int) : SV := .int .i64 n
abbrev pt (x y : Int) : SV := .agg [i64 x, i64 y]
abbrev nb (a b c d : Int) : SV := .agg [i64 a, i64 b, i64 c, i64 d]
def cmpI (x y : Int) : Int := if x < y then -1 else if y < x then 1 else 0
theorem cmpI_lt {x y : Int} (h : iLt x y = true) : cmpI x y = -1 := by rw [iLt_eq] at h; simp at h; unfold cmpI; rw [if_pos h]
theorem cmpI_gt {x y : Int} (_ : iLt x y = false) (h : iLt y x = true) : cmpI x y = 1 := by rw [iLt_eq] at h; simp at h; unfold cmpI; rw [if_neg (by omega), if_pos h]
theorem cmpI_eq {x y : Int} (h1 : iLt x y = false) (h2 : iLt y x = false) : cmpI x y = 0 := by rw [iLt_eq] at h1 h2; simp at h1 h2; unfold cmpI; rw [if_neg (by omega), if_neg (by omega)]
theorem c85 (F d : Nat) (x : Int) : PureC (CL F (d + 1)) 85 [i64 x] 0 (.bool false) := by
  intro m R
  refine call_in (n := 6) Try.func85 rfl rfl rfl rfl rfl rfl rfl ?_
  repeat' ((conv => whnf); first
           | refine eqS_rfl ?_
           | refine eqA_rfl ?_
           | refine eqA_of (by assumption) ?_
           | refine eqS_of (by rfl) ?_
           | refine seS_rfl ?_
           | refine brS_tt ?_
           | refine brS_ff ?_
           | refine brS_not ?_
           | refine brS_t (iEq_self _) ?_
           | refine brS_t (by assumption) ?_
           | refine brS_f (by assumption) ?_
           | refine brS_intro (fun _ => ?_) (fun _ => ?_)
           | refine ltS_intro (by first | assumption | decide | exact Nat.le_of_ble_eq_true rfl | omega) ?_
           | refine ixS_of rfl (by first | assumption | decide | omega) ?_
           | refine okS_intro (by first | assumption | kernel_rfl) ?_
           | intro _)
  all_goals (conv => whnf)
  all_goals refine ⟨?_, by repeat' (first | exact WkM.refl _ | refine WkM.drop ?_), by repeat' (first | exact Nat.le_refl _ | refine Nat.le_succ_of_le ?_)⟩
  all_goals ((show Value.bool (!iEq x x) = _; rw [iEq_self]; rfl))

theorem c64 (F d : Nat) (x y : Int) : PureC (CL F (d + 2)) 64 [i64 x, i64 y] 0 (i64 (cmpI x y)) := by
  intro m R
  refine call_in (n := 20) Try.func64 rfl rfl rfl rfl rfl rfl rfl ?_
  repeat' ((conv => whnf); first
           | refine eqS_rfl ?_
           | refine eqA_rfl ?_
           | refine eqA_of (by assumption) ?_
           | refine eqS_of (by rfl) ?_
           | refine seS_rfl ?_
           | refine brS_tt ?_
           | refine brS_ff ?_
           | refine brS_not ?_
           | refine brS_t (iEq_self _) ?_
           | refine brS_t (by assumption) ?_
           | refine brS_f (by assumption) ?_
           | refine brS_intro (fun _ => ?_) (fun _ => ?_)
           | refine ltS_intro (by first | assumption | decide | exact Nat.le_of_ble_eq_true rfl | omega) ?_
           | refine ixS_of rfl (by first | assumption | decide | omega) ?_
           | refine okS_intro (by first | assumption | kernel_rfl) ?_
           | refine call_pure (c85 F d _) ?_
           | intro _)
  all_goals (conv => whnf)
  all_goals refine ⟨?_, by repeat' (first | exact WkM.refl _ | refine WkM.drop ?_), by repeat' (first | exact Nat.le_refl _ | refine Nat.le_succ_of_le ?_)⟩
  all_goals ((first | rw [cmpI_lt ‹iLt x y = true›] | rw [cmpI_gt ‹iLt x y = false› ‹iLt y x = true›] | rw [cmpI_eq ‹iLt x y = false› ‹iLt y x = false›]))

/-- (f : a / b, o : c / e) -/
theorem c34 (F d : Nat) (a b c e : Int) (h1 : wr .i64 (Int.mul a e) = a * e) (h2 : wr .i64 (Int.mul c b) = c * b) : PureC (CL F (d + 3)) 34 [pt a b, pt c e] 2 (i64 (cmpI (a * e) (c * b))) := by
  intro m R
  refine call_in (n := 16) Try.func34 rfl rfl rfl rfl rfl rfl rfl ?_
  repeat' ((conv => whnf); first
           | refine eqS_rfl ?_
           | refine eqA_rfl ?_
           | refine eqA_of (by assumption) ?_
           | refine eqS_of (by rfl) ?_
           | refine seS_rfl ?_
           | refine brS_tt ?_
           | refine brS_ff ?_
           | refine brS_not ?_
           | refine brS_t (iEq_self _) ?_
           | refine brS_t (by assumption) ?_
           | refine brS_f (by assumption) ?_
           | refine brS_intro (fun _ => ?_) (fun _ => ?_)
           | refine ltS_intro (by first | assumption | decide | exact Nat.le_of_ble_eq_true rfl | omega) ?_
           | refine ixS_of rfl (by first | assumption | decide | omega) ?_
           | refine okS_intro (by first | assumption | kernel_rfl) ?_
           | refine call_pure (c64 F _ _ _) ?_
           | intro _)
  all_goals (conv => whnf)
  all_goals refine ⟨?_, by repeat' (first | exact WkM.refl _ | refine WkM.drop ?_), by repeat' (first | exact Nat.le_refl _ | refine Nat.le_succ_of_le ?_)⟩
  all_goals ((rw [← h1, ← h2]))

theorem c27 (F d : Nat) (a b c e : Int) (h1 : wr .i64 (Int.mul a e) = a * e) (h2 : wr .i64 (Int.mul c b) = c * b) : PureC (CL F (d + 1)) 27 [pt a b, pt c e] 2 (.bool (iLt (a * e) (c * b))) := by
  intro m R
  refine call_in (n := 16) Try.func27 rfl rfl rfl rfl rfl rfl rfl ?_
  repeat' ((conv => whnf); first
           | refine eqS_rfl ?_
           | refine eqA_rfl ?_
           | refine eqA_of (by assumption) ?_
           | refine eqS_of (by rfl) ?_
           | refine seS_rfl ?_
           | refine brS_tt ?_
           | refine brS_ff ?_
           | refine brS_not ?_
           | refine brS_t (iEq_self _) ?_
           | refine brS_t (by assumption) ?_
           | refine brS_f (by assumption) ?_
           | refine brS_intro (fun _ => ?_) (fun _ => ?_)
           | refine ltS_intro (by first | assumption | decide | exact Nat.le_of_ble_eq_true rfl | omega) ?_
           | refine ixS_of rfl (by first | assumption | decide | omega) ?_
           | refine okS_intro (by first | assumption | kernel_rfl) ?_
           | intro _)
  all_goals (conv => whnf)
  all_goals refine ⟨?_, by repeat' (first | exact WkM.refl _ | refine WkM.drop ?_), by repeat' (first | exact Nat.le_refl _ | refine Nat.le_succ_of_le ?_)⟩
  all_goals (first | (rw [← h1, ← h2]; done) | (rw [← h1, ← h2]; rfl))

theorem c28 (F d : Nat) (a b : Int) : PureC (CL F (d + 1)) 28 [i64 a, i64 b] 1 (pt a b) := by
  intro m R
  refine call_in (n := 8) Try.func28 rfl rfl rfl rfl rfl rfl rfl ?_
  repeat' ((conv => whnf); first
           | refine eqS_rfl ?_
           | refine eqA_rfl ?_
           | refine eqA_of (by assumption) ?_
           | refine eqS_of (by rfl) ?_
           | refine seS_rfl ?_
           | refine brS_tt ?_
           | refine brS_ff ?_
           | refine brS_not ?_
           | refine brS_t (iEq_self _) ?_
           | refine brS_t (by assumption) ?_
           | refine brS_f (by assumption) ?_
           | refine brS_intro (fun _ => ?_) (fun _ => ?_)
           | refine ltS_intro (by first | assumption | decide | exact Nat.le_of_ble_eq_true rfl | omega) ?_
           | refine ixS_of rfl (by first | assumption | decide | omega) ?_
           | refine okS_intro (by first | assumption | kernel_rfl) ?_
           | intro _)
  all_goals (conv => whnf)
  all_goals refine ⟨?_, by repeat' (first | exact WkM.refl _ | refine WkM.drop ?_), by repeat' (first | exact Nat.le_refl _ | refine Nat.le_succ_of_le ?_)⟩
  all_goals (rfl)

theorem c33 (F d : Nat) (a b : Int) : PureC (CL F (d + 1)) 33 [pt a b] 1 (.bool (decide ((0 ≤ a ∧ a ≤ 1000000) ∧ 1 ≤ b ∧ b ≤ 1000000))) := by
  intro m R
  refine call_in (n := 21) Try.func33 rfl rfl rfl rfl rfl rfl rfl ?_
  repeat' ((conv => whnf); first
           | refine eqS_rfl ?_
           | refine eqA_rfl ?_
           | refine eqA_of (by assumption) ?_
           | refine eqS_of (by rfl) ?_
           | refine seS_rfl ?_
           | refine brS_tt ?_
           | refine brS_ff ?_
           | refine brS_not ?_
           | refine brS_t (iEq_self _) ?_
           | refine brS_t (by assumption) ?_
           | refine brS_f (by assumption) ?_
           | refine brS_intro (fun _ => ?_) (fun _ => ?_)
           | refine ltS_intro (by first | assumption | decide | exact Nat.le_of_ble_eq_true rfl | omega) ?_
           | refine ixS_of rfl (by first | assumption | decide | omega) ?_
           | refine okS_intro (by first | assumption | kernel_rfl) ?_
           | intro _)
  all_goals (conv => whnf)
  all_goals refine ⟨?_, by repeat' (first | exact WkM.refl _ | refine WkM.drop ?_), by repeat' (first | exact Nat.le_refl _ | refine Nat.le_succ_of_le ?_)⟩
  all_goals ((simp only [iLt_eq, decide_eq_true_eq, decide_eq_false_iff_not] at *; refine congrArg Value.bool (Bool.eq_iff_iff.2 ?_); simp only [Bool.not_eq_true', decide_eq_true_eq, decide_eq_false_iff_not, Bool.false_eq_true, false_iff]; omega))

theorem c41 (F d : Nat) : PureC (CL F (d + 1)) 41 [] 1 (nb 0 1 1 0) := by
  intro m R
  refine call_in (n := 4) Try.func41 rfl rfl rfl rfl rfl rfl rfl ?_
  repeat' ((conv => whnf); first
           | refine eqS_rfl ?_
           | refine eqA_rfl ?_
           | refine eqA_of (by assumption) ?_
           | refine eqS_of (by rfl) ?_
           | refine seS_rfl ?_
           | refine brS_tt ?_
           | refine brS_ff ?_
           | refine brS_not ?_
           | refine brS_t (iEq_self _) ?_
           | refine brS_t (by assumption) ?_
           | refine brS_f (by assumption) ?_
           | refine brS_intro (fun _ => ?_) (fun _ => ?_)
           | refine ltS_intro (by first | assumption | decide | exact Nat.le_of_ble_eq_true rfl | omega) ?_
           | refine ixS_of rfl (by first | assumption | decide | omega) ?_
           | refine okS_intro (by first | assumption | kernel_rfl) ?_
           | intro _)
  all_goals (conv => whnf)
  all_goals refine ⟨?_, by repeat' (first | exact WkM.refl _ | refine WkM.drop ?_), by repeat' (first | exact Nat.le_refl _ | refine Nat.le_succ_of_le ?_)⟩
  all_goals (rfl)

theorem c67 (F d : Nat) (a b c e k : Int) (h1 : wr .i64 (Int.add a (wr .i64 (Int.mul k c))) = a + k * c) (h2 : wr .i64 (Int.add b (wr .i64 (Int.mul k e))) = b + k * e) : PureC (CL F (d + 1)) 67 [nb a b c e, i64 k] 2 (pt (a + k * c) (b + k * e)) := by
  intro m R
  refine call_in (n := 24) Try.func67 rfl rfl rfl rfl rfl rfl rfl ?_
  repeat' ((conv => whnf); first
           | refine eqS_rfl ?_
           | refine eqA_rfl ?_
           | refine eqA_of (by assumption) ?_
           | refine eqS_of (by rfl) ?_
           | refine seS_rfl ?_
           | refine brS_tt ?_
           | refine brS_ff ?_
           | refine brS_not ?_
           | refine brS_t (iEq_self _) ?_
           | refine brS_t (by assumption) ?_
           | refine brS_f (by assumption) ?_
           | refine brS_intro (fun _ => ?_) (fun _ => ?_)
           | refine ltS_intro (by first | assumption | decide | exact Nat.le_of_ble_eq_true rfl | omega) ?_
           | refine ixS_of rfl (by first | assumption | decide | omega) ?_
           | refine okS_intro (by first | assumption | kernel_rfl) ?_
           | intro _)
  all_goals (conv => whnf)
  all_goals refine ⟨?_, by repeat' (first | exact WkM.refl _ | refine WkM.drop ?_), by repeat' (first | exact Nat.le_refl _ | refine Nat.le_succ_of_le ?_)⟩
  all_goals (first | (rw [← h1, ← h2]; done) | (rw [← h1, ← h2]; rfl))

theorem c43 (F d : Nat) (a b c e : Int) (h1 : wr .i64 (Int.add a (wr .i64 (Int.mul 1 c))) = a + 1 * c) (h2 : wr .i64 (Int.add b (wr .i64 (Int.mul 1 e))) = b + 1 * e) : PureC (CL F (d + 2)) 43 [nb a b c e] 4 (pt (a + c) (b + e)) := by
  intro m R
  refine call_in (n := 5) Try.func43 rfl rfl rfl rfl rfl rfl rfl ?_
  repeat' ((conv => whnf); first
           | refine eqS_rfl ?_
           | refine eqA_rfl ?_
           | refine eqA_of (by assumption) ?_
           | refine eqS_of (by rfl) ?_
           | refine seS_rfl ?_
           | refine brS_tt ?_
           | refine brS_ff ?_
           | refine brS_not ?_
           | refine brS_t (iEq_self _) ?_
           | refine brS_t (by assumption) ?_
           | refine brS_f (by assumption) ?_
           | refine brS_intro (fun _ => ?_) (fun _ => ?_)
           | refine ltS_intro (by first | assumption | decide | exact Nat.le_of_ble_eq_true rfl | omega) ?_
           | refine ixS_of rfl (by first | assumption | decide | omega) ?_
           | refine okS_intro (by first | assumption | kernel_rfl) ?_
           | refine call_pure (c67 F _ _ _ _ _ _ h1 h2) ?_
           | intro _)
  all_goals (conv => whnf)
  all_goals refine ⟨?_, by repeat' (first | exact WkM.refl _ | refine WkM.drop ?_), by repeat' (first | exact Nat.le_refl _ | refine Nat.le_succ_of_le ?_)⟩
  all_goals ((rw [Int.one_mul, Int.one_mul]))

theorem c42 (F d : Nat) (a b c e k : Int) (h1 : wr .i64 (Int.add a (wr .i64 (Int.mul k c))) = a + k * c) (h2 : wr .i64 (Int.add b (wr .i64 (Int.mul k e))) = b + k * e) : PureC (CL F (d + 2)) 42 [nb a b c e, i64 k] 11 (nb c e (a + k * c) (b + k * e)) := by
  intro m R
  refine call_in (n := 11) Try.func42 rfl rfl rfl rfl rfl rfl rfl ?_
  repeat' ((conv => whnf); first
           | refine eqS_rfl ?_
           | refine eqA_rfl ?_
           | refine eqA_of (by assumption) ?_
           | refine eqS_of (by rfl) ?_
           | refine seS_rfl ?_
           | refine brS_tt ?_
           | refine brS_ff ?_
           | refine brS_not ?_
           | refine brS_t (iEq_self _) ?_
           | refine brS_t (by assumption) ?_
           | refine brS_f (by assumption) ?_
           | refine brS_intro (fun _ => ?_) (fun _ => ?_)
           | refine ltS_intro (by first | assumption | decide | exact Nat.le_of_ble_eq_true rfl | omega) ?_
           | refine ixS_of rfl (by first | assumption | decide | omega) ?_
           | refine okS_intro (by first | assumption | kernel_rfl) ?_
           | refine call_pure (c67 F _ _ _ _ _ _ h1 h2) ?_
           | intro _)
  all_goals (conv => whnf)
  all_goals refine ⟨?_, by repeat' (first | exact WkM.refl _ | refine WkM.drop ?_), by repeat' (first | exact Nat.le_refl _ | refine Nat.le_succ_of_le ?_)⟩
  all_goals (rfl)

end Go.Proofs.Ytildnbpdhkdddaa
namespace Go.Proofs.Ytildnbpdhkdddaa
open Go.Ab
attribute [local irreducible] aggOk drwOK
set_option maxRecDepth 100000
set_option maxHeartbeats 4000000
theorem lt_of_iLt {a b : Nat} (h : iLt (Int.ofNat a) (Int.ofNat b) = true) : a < b := by rw [iLt_eq] at h; simpa using h
theorem ge_of_iLt {a b : Nat} (h : iLt (Int.ofNat a) (Int.ofNat b) = false) : b ≤ a := by rw [iLt_eq] at h; simpa using h
theorem ilt_t {a b : Int} (h : iLt a b = true) : a < b := by rw [iLt_eq] at h; simpa using h
theorem ilt_f {a b : Int} (h : iLt a b = false) : b ≤ a := by rw [iLt_eq] at h; simpa using h
theorem ieq_t {a b : Int} (h : iEq a b = true) : a = b := by rw [iEq_eq] at h; simpa using h
theorem ieq_f {a b : Int} (h : iEq a b = false) : a ≠ b := by rw [iEq_eq] at h; simpa using h
theorem half_eq {a b : Nat} (h : a + b ≤ 4000000) : wr .i64 (shrV .u64 (wr .u64 (wr .i64 (Int.add (Int.ofNat a) (Int.ofNat b)))) 1) = Int.ofNat ((a + b) / 2) := by
  have e1 : wr .i64 (Int.add (Int.ofNat a) (Int.ofNat b)) = ((a + b : Nat) : Int) := wr_nat (i := a + b) (by omega)
  rw [e1, wr_u64 (by omega) (by omega)]
  have e2 : shrV .u64 ((a + b : Nat) : Int) 1 = (((a + b) / 2 : Nat) : Int) := by
    unfold shrV
    have : min 1 IntKind.u64.bits = 1 := rfl
    rw [this, Int.fdiv_eq_ediv_of_nonneg _ (by decide)]
    omega
  rw [e2]
  exact wr_nat (i := (a + b) / 2) (by omega)
/-- a function of a number below n that answers yes or no over some memory, and leaves it -/
def AskC (call : CallT) (fv : SV) (m : Mem) (N n : Nat) (p : Nat → Bool) : Prop := ∀ h, h < n → ValC call fv [.int .i64 (Int.ofNat h)] m N (.bool (p h))
theorem c65 (F d : Nat) (hF : 30 < F) (g : FuncId) (fs cs : List SV) (m : Mem) (p : Nat → Bool) (hf : AskC (CL F d) (.fn g fs cs) m 40 1000000 p) (R : Nat) :
    callS (CL F (d + 1)) (.fn 65 [] []) [i64 1000000, .fn g fs cs] m (addL R 900) 0 fun w m' R' _ => (∃ k : Nat, k ≤ 1000000 ∧ den w = .int .i64 (Int.ofNat k) ∧ (k = 0 ∨ p (k - 1) = false) ∧ (k = 1000000 ∨ p k = true)) ∧ WkM m' m ∧ R ≤ R' := by
  refine call_in (n := 26) Try.func65 rfl rfl rfl rfl rfl rfl rfl ?_
  repeat' ((conv => whnf); first
           | refine eqS_rfl ?_
           | refine eqA_rfl ?_
           | refine eqA_of (by assumption) ?_
           | refine eqS_of (by rfl) ?_
           | refine seS_rfl ?_
           | refine brS_tt ?_
           | refine brS_ff ?_
           | refine brS_not ?_
           | refine brS_t (iEq_self _) ?_
           | refine brS_t (by assumption) ?_
           | refine brS_f (by assumption) ?_
           | refine brS_intro (fun _ => ?_) (fun _ => ?_)
           | refine ltS_intro (by first | assumption | decide | exact Nat.le_of_ble_eq_true rfl | omega) ?_
           | refine ixS_of rfl (by first | assumption | decide | omega) ?_
           | refine okS_intro (by first | assumption | kernel_rfl) ?_
           | intro _)
  conv => whnf
  refine loS_i (fun j f m' R' ni => ∃ a b u : Nat, j = u + 1 ∧ a ≤ b ∧ b ≤ 1000000 ∧ b - a < 2 ^ u ∧ (a = 0 ∨ p (a - 1) = false) ∧ (b = 1000000 ∨ p b = true) ∧ f = [(1, .fn g fs cs), (5, .int .i64 (Int.ofNat a)), (6, .int .i64 (Int.ofNat b))] ∧ m' = m ∧ R' = addL (R + 40 * u) 40 ∧ ni = 0) 21 (by omega)
    ⟨[(1, .fn g fs cs), (5, .int .i64 (Int.ofNat 0)), (6, .int .i64 (Int.ofNat 1000000))], m, addL (R + 40 * 20) 40, 0, ⟨eqF_rfl _, eqF_rfl _, eqF_rfl _, trivial⟩, WkM.refl _, ?_, 0, 1000000, 20, rfl, by omega, by omega, by decide, .inl rfl, .inl rfl, rfl, rfl, rfl, rfl⟩ ?_
  · show addL _ _ ≤ addL R 900
    rw [addL_eq, addL_eq]; omega
  · rintro j _ _ _ _ ⟨a, b, u, rfl, hab, hb, hu, ha0, hb0, rfl, rfl, rfl, rfl⟩
    repeat' ((conv => whnf); first
             | refine eqS_rfl ?_
             | refine eqA_rfl ?_
             | refine eqA_of (by assumption) ?_
             | refine eqS_of (by rfl) ?_
             | refine seS_rfl ?_
             | refine brS_tt ?_
             | refine brS_ff ?_
             | refine brS_not ?_
             | refine brS_t (iEq_self _) ?_
             | refine brS_t (by assumption) ?_
             | refine brS_f (by assumption) ?_
             | refine brS_intro (fun _ => ?_) (fun _ => ?_)
             | refine ltS_intro (by first | assumption | decide | exact Nat.le_of_ble_eq_true rfl | omega) ?_
             | refine ixS_of rfl (by first | assumption | decide | omega) ?_
             | refine okS_intro (by first | assumption | kernel_rfl) ?_
             | intro _)
    · conv => whnf
      have hlt := lt_of_iLt ‹iLt (Int.ofNat a) (Int.ofNat b) = true›
      have hu1 : ∃ v, u = v + 1 := by
        cases u with
        | zero => simp at hu; omega
        | succ v => exact ⟨v, rfl⟩
      obtain ⟨v, rfl⟩ := hu1
      have h2 : (2 : Nat) ^ (v + 1) = 2 * 2 ^ v := by rw [Nat.pow_succ, Nat.mul_comm]
      refine callS.cast (fv' := .fn g fs cs) (args' := [.int .i64 (Int.ofNat ((a + b) / 2))]) rfl (congrArg (fun x => [Value.int .i64 x]) (half_eq (by omega))) ?_
      refine call_val (hf _ (by omega)) (takeR_add (N := 40) ?_)
      repeat' ((conv => whnf); first
               | refine eqS_rfl ?_
               | refine eqA_rfl ?_
               | refine eqA_of (by assumption) ?_
               | refine eqS_of (by rfl) ?_
               | refine seS_rfl ?_
               | refine brS_tt ?_
               | refine brS_ff ?_
               | refine brS_not ?_
               | refine brS_t (iEq_self _) ?_
               | refine brS_t (by assumption) ?_
               | refine brS_f (by assumption) ?_
               | refine brS_intro (fun _ => ?_) (fun _ => ?_)
               | refine ltS_intro (by first | assumption | decide | exact Nat.le_of_ble_eq_true rfl | omega) ?_
               | refine ixS_of rfl (by first | assumption | decide | omega) ?_
               | refine okS_intro (by first | assumption | kernel_rfl) ?_
               | intro _)
      all_goals conv => whnf
      · refine ⟨v + 1, [(1, .fn g fs cs), (5, .int .i64 (Int.ofNat a)), (6, .int .i64 (wr .i64 (shrV .u64 (wr .u64 (wr .i64 (Int.add (Int.ofNat a) (Int.ofNat b)))) 1)))], _, addL (R + 40 * v) 40, 0, by omega, ⟨eqF_rfl _, eqF_rfl _, eqF_rfl _, trivial⟩, WkM.refl _, Nat.le_refl _, a, (a + b) / 2, v, rfl, by omega, by omega, by omega, ha0, .inr (by assumption), ?_, rfl, rfl, rfl⟩
        rw [half_eq (by omega)]
      · refine ⟨v + 1, [(1, .fn g fs cs), (5, .int .i64 (wr .i64 (Int.add (wr .i64 (shrV .u64 (wr .u64 (wr .i64 (Int.add (Int.ofNat a) (Int.ofNat b)))) 1)) 1))), (6, .int .i64 (Int.ofNat b))], _, addL (R + 40 * v) 40, 0, by omega, ⟨eqF_rfl _, eqF_rfl _, eqF_rfl _, trivial⟩, WkM.refl _, Nat.le_refl _, (a + b) / 2 + 1, b, v, rfl, by omega, hb, by omega, .inr (by rw [Nat.add_sub_cancel]; assumption), hb0, ?_, rfl, rfl, rfl⟩
        rw [half_eq (by omega), show wr .i64 (Int.add (Int.ofNat ((a + b) / 2)) 1) = Int.ofNat ((a + b) / 2 + 1) from wr_nat (i := (a + b) / 2 + 1) (by omega)]
    · conv => whnf
      have hge := ge_of_iLt ‹iLt (Int.ofNat a) (Int.ofNat b) = false›
      have e : a = b := by omega
      exact ⟨⟨a, by omega, rfl, ha0, by rw [e]; exact hb0⟩, WkM.refl _, by show R ≤ addL _ _; rw [addL_eq]; omega⟩
end Go.Proofs.Ytildnbpdhkdddaa
namespace Go.Proofs.Ytildnbpdhkdddaa
open Go.Ab
attribute [local irreducible] aggOk drwOK
set_option maxRecDepth 100000
set_option maxHeartbeats 4000000
theorem sb_gt {a b c d p q : Int} (h : c * b - a * d = 1) (hb : 0 ≤ b) (hd : 0 ≤ d) (ha : 0 ≤ a) (hc : 0 ≤ c) (h1 : a * q < p * b) (h2 : p * d < c * q) : b + d ≤ q ∧ a + c ≤ p := by
  have e1 : b * (c * q - p * d) + d * (p * b - a * q) = q * (c * b - a * d) := by grind
  have e2 : a * (c * q - p * d) + c * (p * b - a * q) = p * (c * b - a * d) := by grind
  rw [h, Int.mul_one] at e1 e2
  have g1 : b * 1 ≤ b * (c * q - p * d) := Int.mul_le_mul_of_nonneg_left (by omega) hb
  have g2 : d * 1 ≤ d * (p * b - a * q) := Int.mul_le_mul_of_nonneg_left (by omega) hd
  have g3 : a * 1 ≤ a * (c * q - p * d) := Int.mul_le_mul_of_nonneg_left (by omega) ha
  have g4 : c * 1 ≤ c * (p * b - a * q) := Int.mul_le_mul_of_nonneg_left (by omega) hc
  omega
/-- neighbours, with p / q strictly between them: the one that moves, the other one; side 1: the lower one moves -/
structure Geo (mn md sn sd side p q : Int) : Prop where
  a : 0 ≤ mn
  b : 0 ≤ md
  c : 0 ≤ sn
  d : 0 ≤ sd
  s : (side = 1 ∧ sn * md - mn * sd = 1 ∧ mn * q < p * md ∧ p * sd < sn * q) ∨ (side = -1 ∧ mn * sd - sn * md = 1 ∧ sn * q < p * sd ∧ p * md < mn * q)
theorem Geo.le {mn md sn sd side p q : Int} (h : Geo mn md sn sd side p q) : md + sd ≤ q ∧ mn + sn ≤ p := by
  obtain ⟨a, b, c, d, s⟩ := h
  rcases s with ⟨_, e, h1, h2⟩ | ⟨_, e, h1, h2⟩
  · exact sb_gt e b d a c h1 h2
  · have := sb_gt e d b c a h1 h2
    omega
theorem Geo.pos {mn md sn sd side p q : Int} (h : Geo mn md sn sd side p q) : 1 ≤ sn + sd := by
  obtain ⟨a, b, c, d, s⟩ := h
  by_cases h0 : sn = 0 ∧ sd = 0
  · obtain ⟨rfl, rfl⟩ := h0
    simp at s
  · omega
theorem Geo.start {p q : Int} (hp : 1 ≤ p) (hq : 1 ≤ q) : Geo 0 1 1 0 1 p q := ⟨by omega, by omega, by omega, by omega, .inl ⟨rfl, by decide, by omega, by omega⟩⟩
/-- the end of a run -/
theorem Geo.step {tw : Int → Int → Int} {p q : Int} (H1 : ∀ a b, 0 ≤ a → 0 ≤ b → tw a b = 1 → a * q < p * b) (H2 : ∀ a b, 0 ≤ a → 0 ≤ b → tw a b = -1 → p * b < a * q) {mn md sn sd side : Int} (h : Geo mn md sn sd side p q) {k : Nat} (hk : k = 0 ∨ tw (mn + k * sn) (md + k * sd) = side) :
    Geo sn sd (mn + k * sn) (md + k * sd) (-side) p q := by
  have g1 : 0 ≤ (k : Int) * sn := Int.mul_nonneg (by omega) h.c
  have g2 : 0 ≤ (k : Int) * sd := Int.mul_nonneg (by omega) h.d
  have ha := h.a
  have hb := h.b
  refine ⟨h.c, h.d, by omega, by omega, ?_⟩
  rcases h.s with ⟨rfl, e, h1, h2⟩ | ⟨rfl, e, h1, h2⟩
  · refine .inr ⟨rfl, by grind, ?_, h2⟩
    rcases hk with rfl | hk
    · simpa using h1
    · exact H1 _ _ (by omega) (by omega) hk
  · refine .inl ⟨rfl, by grind, h1, ?_⟩
    rcases hk with rfl | hk
    · simpa using h2
    · exact H2 _ _ (by omega) (by omega) hk
/-- how a walk has come to its neighbours: its runs -/
inductive Rch (tw : Int → Int → Int) : List Int → Int → Int → Int → Int → Int → Prop
  | start : Rch tw [] 0 1 1 0 1
  | step {rs : List Int} {mn md sn sd side : Int} (k : Nat) : Rch tw rs mn md sn sd side → tw (mn + sn) (md + sd) ≠ 0 → (k = 0 ∨ tw (mn + k * sn) (md + k * sd) = side) → tw (mn + (k + 1) * sn) (md + (k + 1) * sd) ≠ side → Rch tw (rs ++ [(k : Int)]) sn sd (mn + k * sn) (md + k * sd) (-side)
theorem Rch.geo {tw : Int → Int → Int} {p q : Int} (H1 : ∀ a b, 0 ≤ a → 0 ≤ b → tw a b = 1 → a * q < p * b) (H2 : ∀ a b, 0 ≤ a → 0 ≤ b → tw a b = -1 → p * b < a * q) (hp : 1 ≤ p) (hq : 1 ≤ q) {rs : List Int} {mn md sn sd side : Int} (h : Rch tw rs mn md sn sd side) : Geo mn md sn sd side p q := by
  induction h with
  | start => exact .start hp hq
  | step k _ _ h1 _ ih => exact ih.step H1 H2 h1
theorem W_step {T S T' S' : Int} (hT : 0 ≤ T) (hS : 0 ≤ S) (h1 : T + S ≤ T') (h2 : T ≤ S') : 2 * (T * (T + S)) ≤ T' * (T' + S') := by
  have a1 : (T + S) * (2 * T + S) ≤ T' * (T' + S') := Int.mul_le_mul h1 (by omega) (by omega) (by omega)
  have a2 : 0 ≤ (T + S) * S := Int.mul_nonneg (by omega) hS
  have a3 : (T + S) * (2 * T + S) = 2 * (T * (T + S)) + (T + S) * S := by grind
  omega
theorem mv_wr {a k c : Int} (ha : 0 ≤ a ∧ a ≤ 1000000) (hk : 0 ≤ k ∧ k ≤ 1000001) (hc : 0 ≤ c ∧ c ≤ 1000000) : wr .i64 (Int.add a (wr .i64 (Int.mul k c))) = a + k * c := by
  have ba : Bd a 1000000 := Bd.of (by omega) (by omega)
  have bk : Bd k 1000001 := Bd.of (by omega) (by omega)
  have bc : Bd c 1000000 := Bd.of (by omega) (by omega)
  exact wr_add rfl (wr_mul rfl rfl bk bc (by decide)) ba (bk.mul bc) (by decide)
theorem mul_le_big {k c : Int} (hk : 0 ≤ k ∧ k ≤ 1000001) (hc : 0 ≤ c ∧ c ≤ 1000000) : 0 ≤ k * c ∧ k * c ≤ 1000001000000 :=
  ⟨Int.mul_nonneg hk.1 hc.1, Int.le_trans (Int.mul_le_mul hk.2 hc.2 hc.1 (by decide)) (by decide)⟩
abbrev BB : Int := 1000002000000
/-- a function value that tells which way a fraction leads, over some memory -/
def TowC (call : CallT) (fv : SV) (m0 : Mem) (tw : Int → Int → Int) : Prop := ∀ a b, 0 ≤ a → a ≤ BB → 0 ≤ b → b ≤ BB → ∀ m, SeesM m m0 → ValC call fv [pt a b] m 6 (i64 (tw a b))
theorem wr_succ {h : Nat} (hh : h < 1000000) : wr .i64 (Int.add (Int.ofNat h) 1) = (h : Int) + 1 := wr_nat (i := h + 1) (by omega)
theorem grow_get {n : Nat} {gf : Nat → List SV} {rs : List Int} (hn : n = rs.length) (h : ∀ j, j < n → gf j = [i64 (rs.getD j 0)]) (k : Int) : ∀ j, j < n + 1 → grow n 1 gf [i64 k] j = [i64 ((rs ++ [k]).getD j 0)] := by
  intro j hj
  unfold grow
  by_cases hlt : j < n
  · rw [blt_of hlt]
    simp only [cond_true]
    rw [h j hlt]
    simp [List.getD_eq_getElem?_getD, List.getElem?_append_left (show j < rs.length by omega)]
  · have e : j = n := by omega
    subst e
    have : Nat.blt j j = false := by
      cases hb : Nat.blt j j with
      | false => rfl
      | true => have := blt_true hb; omega
    rw [this]
    simp only [cond_false]
    rw [show Nat.mul (Nat.sub j j) 1 = 0 by rw [show Nat.sub j j = 0 from Nat.sub_self j]]
    simp [List.getD_eq_getElem?_getD, hn]
end Go.Proofs.Ytildnbpdhkdddaa
namespace Go.Proofs.Ytildnbpdhkdddaa
open Go.Ab
attribute [local irreducible] aggOk drwOK
set_option maxRecDepth 100000
set_option maxHeartbeats 4000000
section
variable (F d : Nat) (g : FuncId) (fs cs : List SV) (m0 mt : Mem) (tw : Int → Int → Int)
abbrev wm (g : FuncId) (fs cs : List SV) (b1 b2 b3 : Nat) (e2 e3 : Ent) (mn md sn sd side : Int) (mt : Mem) : Mem := (5, .own b3 3 [i64 side]) :: (2, e2) :: (4, .own b2 79 [i64 mn, i64 md, i64 sn, i64 sd]) :: (3, e3) :: (1, .own b1 74 [.fn g fs cs]) :: mt
theorem c66 (hv : vqS (.fn g fs cs) = true) (HT : ∀ e, TowC (CL F (e + 4)) (.fn g fs cs) m0 tw) (hs : SeesM mt m0) (mn md sn sd side : Int) (hmn : 0 ≤ mn ∧ mn ≤ 1000000) (hmd : 0 ≤ md ∧ md ≤ 1000000) (hsn : 0 ≤ sn ∧ sn ≤ 1000000) (hsd : 0 ≤ sd ∧ sd ≤ 1000000) (b1 b2 b3 : Nat) (e2 e3 : Ent) :
    AskC (CL F (d + 6)) (.fn 66 [] [.ptr 1 b1 0, .ptr 4 b2 0, .ptr 5 b3 0]) (wm g fs cs b1 b2 b3 e2 e3 mn md sn sd side mt) 40 1000000 (fun h => !iEq (tw (mn + ((h : Int) + 1) * sn) (md + ((h : Int) + 1) * sd)) side) := by
  intro h hh R
  have hk : 0 ≤ (h : Int) + 1 ∧ (h : Int) + 1 ≤ 1000001 := by omega
  have p1 := mul_le_big hk hsn
  have p2 := mul_le_big hk hsd
  have q1 : 0 ≤ mn + ((h : Int) + 1) * sn := by omega
  have q2 : mn + ((h : Int) + 1) * sn ≤ BB := by show _ ≤ (1000002000000 : Int); omega
  have q3 : 0 ≤ md + ((h : Int) + 1) * sd := by omega
  have q4 : md + ((h : Int) + 1) * sd ≤ BB := by show _ ≤ (1000002000000 : Int); omega
  refine call_in (n := 14) Try.func66 rfl rfl rfl rfl rfl rfl rfl ?_
  repeat' ((conv => whnf); first
           | refine eqS_rfl ?_
           | refine eqA_rfl ?_
           | refine eqA_of (by assumption) ?_
           | refine eqS_of (by rfl) ?_
           | refine seS_rfl ?_
           | refine brS_tt ?_
           | refine brS_ff ?_
           | refine brS_not ?_
           | refine brS_t (iEq_self _) ?_
           | refine brS_t (by assumption) ?_
           | refine brS_f (by assumption) ?_
           | refine brS_intro (fun _ => ?_) (fun _ => ?_)
           | refine ltS_intro (by first | assumption | decide | exact Nat.le_of_ble_eq_true rfl | omega) ?_
           | refine ixS_of rfl (by first | assumption | decide | omega) ?_
           | refine okS_intro (by first | assumption | kernel_rfl) ?_
           | refine (callS.cast (args' := [nb mn md sn sd, i64 ((h : Int) + 1)]) rfl (congrArg (fun x => [Value.agg ⟨[.int .i64 mn, .int .i64 md, .int .i64 sn, .int .i64 sd]⟩, Value.int .i64 x]) (wr_succ hh)) (call_pure (c67 F _ _ _ _ _ _ (mv_wr hmn hk hsn) (mv_wr hmd hk hsd)) ?_))
           | refine call_val (HT _ _ _ (by assumption) (by assumption) (by assumption) (by assumption) _ (by repeat' (first | assumption | refine SeesM.push _ ?_))) ?_
           | intro _)
  all_goals (conv => whnf)
  exact ⟨rfl, WkM.refl _, by repeat' (first | exact Nat.le_refl _ | refine Nat.le_succ_of_le ?_)⟩
end
end Go.Proofs.Ytildnbpdhkdddaa
namespace Go.Proofs.Ytildnbpdhkdddaa
open Go.Ab
attribute [local irreducible] aggOk drwOK
set_option maxRecDepth 100000
set_option maxHeartbeats 4000000
section
variable (F d : Nat) (g : FuncId) (fs cs : List SV) (m0 mt : Mem) (tw : Int → Int → Int) (P Q : Int)
/-- what holds when so many rounds may follow -/
structure WI (tw : Int → Int → Int) (P Q : Int) (j : Nat) (rs : List Int) (mn md sn sd side : Int) : Prop where
  rch : Rch tw rs mn md sn sd side
  geo : Geo mn md sn sd side P Q
  ex : ∃ u fl : Nat, j = (45 - u) + fl ∧ u ≤ 44 ∧ fl ≤ 1 ∧ (2 : Int) ^ u ≤ (mn + sn + md + sd) * (mn + sn + md + sd + (sn + sd)) ∧ ((fl = 1 ∧ mn = 0 ∧ md = 1 ∧ sn = 1 ∧ sd = 0) ∨ (fl = 0 ∧ tw (mn + sn) (md + sd) ≠ -side))
  len : rs.length + j ≤ 60
theorem WI.start (hP : 1 ≤ P) (hQ : 1 ≤ Q) : WI tw P Q 45 [] 0 1 1 0 1 := ⟨.start, .start hP hQ, ⟨1, 1, rfl, by omega, by omega, by decide, .inl ⟨rfl, rfl, rfl, rfl, rfl⟩⟩, by decide⟩
theorem WI.bd {tw : Int → Int → Int} {P Q : Int} {j : Nat} {rs : List Int} {mn md sn sd side : Int} (hP : P ≤ 1000000) (hQ : Q ≤ 1000000) (h : WI tw P Q j rs mn md sn sd side) :
    (0 ≤ mn ∧ mn ≤ 1000000) ∧ (0 ≤ md ∧ md ≤ 1000000) ∧ (0 ≤ sn ∧ sn ≤ 1000000) ∧ (0 ≤ sd ∧ sd ≤ 1000000) ∧ mn + sn ≤ 1000000 ∧ md + sd ≤ 1000000 := by
  have h1 := h.geo.le
  have ha := h.geo.a
  have hb := h.geo.b
  have hc := h.geo.c
  have hd := h.geo.d
  omega
theorem pow_gap {u : Nat} (h : (2 : Int) ^ u ≤ 2000000 * 4000000) : u ≤ 42 := by
  by_cases hu : u ≤ 42
  · exact hu
  · exfalso
    have h1 : (2 : Int) ^ 43 ≤ 2 ^ u := by
      obtain ⟨v, rfl⟩ : ∃ v, u = 43 + v := ⟨u - 43, by omega⟩
      rw [Int.pow_add]
      have : (1 : Int) ≤ 2 ^ v := Int.pow_pos (by decide)
      have := Int.mul_le_mul_of_nonneg_left this (show (0 : Int) ≤ 2 ^ 43 by decide)
      omega
    have : (2 : Int) ^ 43 ≤ 2000000 * 4000000 := Int.le_trans h1 h
    exact absurd this (by decide)
/-- one run -/
theorem WI.step {tw : Int → Int → Int} {P Q : Int} (H1 : ∀ a b, 0 ≤ a → 0 ≤ b → tw a b = 1 → a * Q < P * b) (H2 : ∀ a b, 0 ≤ a → 0 ≤ b → tw a b = -1 → P * b < a * Q) (H3 : ∀ a b, tw a b = 1 ∨ tw a b = -1 ∨ tw a b = 0) (hP : P ≤ 1000000) (hQ : Q ≤ 1000000)
    {j : Nat} {rs : List Int} {mn md sn sd side : Int} (h : WI tw P Q j rs mn md sn sd side) (h0 : tw (mn + sn) (md + sd) ≠ 0) {k : Nat} (hk : k ≤ 1000000) (hk1 : k = 0 ∨ tw (mn + k * sn) (md + k * sd) = side) (hk2 : k = 1000000 ∨ tw (mn + (k + 1) * sn) (md + (k + 1) * sd) ≠ side) :
    k < 1000000 ∧ ∃ j', j' < j ∧ WI tw P Q j' (rs ++ [(k : Int)]) sn sd (mn + k * sn) (md + k * sd) (-side) := by
  have hb := h.bd hP hQ
  have hpos := h.geo.pos
  have g2 := h.geo.step H1 H2 hk1
  have hl := g2.le
  have k1 : 0 ≤ (k : Int) * sn := Int.mul_nonneg (by omega) h.geo.c
  have k2 : 0 ≤ (k : Int) * sd := Int.mul_nonneg (by omega) h.geo.d
  have hklt : k < 1000000 := by
    rcases Nat.lt_or_ge k 1000000 with h | h
    · exact h
    · exfalso
      have e : k = 1000000 := by omega
      subst e
      have : (1000000 : Int) * sn = ((1000000 : Nat) : Int) * sn := rfl
      omega
  have hk2 : tw (mn + (k + 1) * sn) (md + (k + 1) * sd) ≠ side := hk2.resolve_left (by omega)
  refine ⟨hklt, ?_⟩
  obtain ⟨u, fl, rfl, hu, hfl, hw, hf⟩ := h.ex
  have hT : mn + sn + md + sd ≤ 2000000 := by omega
  have hS : sn + sd ≤ 2000000 := by omega
  have hu2 : u ≤ 42 := pow_gap (Int.le_trans hw (Int.mul_le_mul hT (by omega) (by omega) (by decide)))
  have e1 : (sn + (mn + (k : Int) * sn)) = mn + (k + 1) * sn := by grind
  have e2 : (sd + (md + (k : Int) * sd)) = md + (k + 1) * sd := by grind
  have hf' : tw (sn + (mn + (k : Int) * sn)) (sd + (md + (k : Int) * sd)) ≠ -(-side) := by rw [e1, e2, Int.neg_neg]; exact hk2
  by_cases hk0 : k = 0
  · subst hk0
    have hfl1 : fl = 1 ∧ mn = 0 ∧ md = 1 ∧ sn = 1 ∧ sd = 0 := by
      rcases hf with hf | ⟨_, hf⟩
      · exact hf
      · exfalso
        have e3 : mn + (((0 : Nat) : Int) + 1) * sn = mn + sn := by grind
        have e4 : md + (((0 : Nat) : Int) + 1) * sd = md + sd := by grind
        rw [e3, e4] at hk2
        have hs : side = 1 ∨ side = -1 := h.geo.s.imp (fun h => h.1) (fun h => h.1)
        rcases H3 (mn + sn) (md + sd) with h | h | h <;> rcases hs with rfl | rfl <;> simp_all
    obtain ⟨rfl, rfl, rfl, rfl, rfl⟩ := hfl1
    exact ⟨(45 - u) + 0, by omega, .step 0 h.rch h0 hk1 hk2, g2, ⟨u, 0, rfl, hu, by omega, hw, .inr ⟨rfl, hf'⟩⟩, by have := h.len; rw [List.length_append, List.length_singleton]; omega⟩
  · have k3 : 1 * sn ≤ (k : Int) * sn := Int.mul_le_mul_of_nonneg_right (by omega) h.geo.c
    have k4 : 1 * sd ≤ (k : Int) * sd := Int.mul_le_mul_of_nonneg_right (by omega) h.geo.d
    refine ⟨(45 - (u + 1)) + 0, by omega, .step k h.rch h0 hk1 hk2, g2, ⟨u + 1, 0, rfl, by omega, by omega, ?_, .inr ⟨rfl, hf'⟩⟩, by have := h.len; rw [List.length_append, List.length_singleton]; omega⟩
    have := W_step (T := mn + sn + md + sd) (S := sn + sd) (T' := sn + (mn + (k : Int) * sn) + sd + (md + (k : Int) * sd)) (S' := (mn + (k : Int) * sn) + (md + (k : Int) * sd)) (by omega) (by omega) (by omega) (by omega)
    rw [Int.pow_succ]
    omega
end
end Go.Proofs.Ytildnbpdhkdddaa
namespace Go.Proofs.Ytildnbpdhkdddaa
open Go.Ab
attribute [local irreducible] aggOk drwOK
set_option maxRecDepth 100000
set_option maxHeartbeats 4000000
theorem call_search {F d : Nat} (hF : 30 < F) {g : FuncId} {fs cs : List SV} {m : Mem} {p : Nat → Bool} (hf : AskC (CL F d) (.fn g fs cs) m 40 1000000 p) {R ni : Nat} {K : SV → Mem → Nat → Nat → Prop}
    (hK : takeR 900 R fun R => ∀ k : Nat, k ≤ 1000000 → (k = 0 ∨ p (k - 1) = false) → (k = 1000000 ∨ p k = true) → K (.int .i64 (k : Int)) m R ni) : callS (CL F (d + 1)) (.fn 65 [] []) [i64 1000000, .fn g fs cs] m R ni K := by
  obtain ⟨hR, hK⟩ := takeR_inv hK
  have h1 := c65 F d hF g fs cs m p hf (R - 900)
  rw [addL_eq, Nat.sub_add_cancel hR] at h1
  refine call_post h1 fun w m' R' n' hq => ?_
  obtain ⟨⟨k, h1, h2, h3, h4⟩, h5, h6⟩ := hq
  exact ⟨.int .i64 (k : Int), m, R - 900, ni, h2, h5, h6, hK k h1 h3 h4⟩
theorem c35 (F d : Nat) (hF : 100 < F) (g : FuncId) (fs cs : List SV) (m0 mt : Mem) (tw : Int → Int → Int) (P Q : Int) (hv : vqS (.fn g fs cs) = true) (HT : ∀ e, TowC (CL F (e + 4)) (.fn g fs cs) m0 tw) (hs : SeesM mt m0)
    (H1 : ∀ a b, 0 ≤ a → 0 ≤ b → tw a b = 1 → a * Q < P * b) (H2 : ∀ a b, 0 ≤ a → 0 ≤ b → tw a b = -1 → P * b < a * Q) (H3 : ∀ a b, tw a b = 1 ∨ tw a b = -1 ∨ tw a b = 0) (hP1 : 1 ≤ P) (hP : P ≤ 1000000) (hQ1 : 1 ≤ Q) (hQ : Q ≤ 1000000) (R : Nat) :
    callS (CL F (d + 8)) (.fn 35 [] []) [.fn g fs cs] mt (addL R 48000) 0 fun w m' R' _ => ∃ (rs : List Int) (mn md sn sd side : Int) (a : Option Addr) (n : Nat) (gf : Nat → List SV), n = rs.length ∧ n ≤ 60 ∧ (∀ j, j < n → gf j = [i64 (rs.getD j 0)]) ∧ Rch tw rs mn md sn sd side ∧ Geo mn md sn sd side P Q ∧ tw (mn + sn) (md + sd) = 0 ∧
      den w = .tuple ⟨[.slice a n n, .agg ⟨[.int .i64 (mn + sn), .int .i64 (md + sd)]⟩]⟩ ∧ WkM m' ((100, .gr a n 3 1 gf) :: mt) ∧ R ≤ R' := by
  refine call_in (n := 28) Try.func35 rfl rfl rfl rfl rfl rfl rfl ?_
  repeat' ((conv => whnf); first
           | refine eqS_rfl ?_
           | refine eqA_rfl ?_
           | refine eqA_of (by assumption) ?_
           | refine eqS_of (by rfl) ?_
           | refine seS_rfl ?_
           | refine brS_tt ?_
           | refine brS_ff ?_
           | refine brS_not ?_
           | refine brS_t (iEq_self _) ?_
           | refine brS_t (by assumption) ?_
           | refine brS_f (by assumption) ?_
           | refine brS_intro (fun _ => ?_) (fun _ => ?_)
           | refine ltS_intro (by first | assumption | decide | exact Nat.le_of_ble_eq_true rfl | omega) ?_
           | refine ixS_of rfl (by first | assumption | decide | omega) ?_
           | refine okS_intro (by first | assumption | kernel_rfl) ?_
           | refine call_pure (c41 F _) ?_
           | intro _)
  conv => whnf
  rename_i b1 b3 b4 b5
  refine loS_i (fun j f m' R' ni => ∃ (rs : List Int) (mn md sn sd side : Int) (a : Option Addr) (n : Nat) (gf : Nat → List SV) (b1 b3 b4 b5 : Nat), WI tw P Q j rs mn md sn sd side ∧ n = rs.length ∧ (∀ j, j < n → gf j = [i64 (rs.getD j 0)]) ∧
    f = [(1, .ptr 1 b1 0), (2, .sl 2 a n n), (3, .ptr 3 b3 0), (4, .ptr 4 b4 0), (5, .ptr 5 b5 0)] ∧ m' = wm g fs cs b1 b4 b5 (.gr a n 3 1 gf) (.own b3 73 [i64 0, i64 0]) mn md sn sd side mt ∧ R' = addL (R + 960 * j) 960 ∧ ni = 200) 45 (by omega)
    ⟨[(1, .ptr 1 b1 0), (2, .sl 2 none 0 0), (3, .ptr 3 b3 0), (4, .ptr 4 b4 0), (5, .ptr 5 b5 0)], wm g fs cs b1 b4 b5 (.gr none 0 3 1 fun _ => []) (.own b3 73 [i64 0, i64 0]) 0 1 1 0 1 mt, addL (R + 960 * 45) 960, 200, ⟨⟨rfl, rfl⟩, ⟨rfl, rfl⟩, ⟨rfl, rfl⟩, ⟨rfl, rfl⟩, ⟨rfl, rfl⟩, trivial⟩, WkM.swapR (WkM.gr0 (WkM.sub (.refl _))), ?_,
      [], 0, 1, 1, 0, 1, none, 0, _, b1, b3, b4, b5, WI.start tw P Q hP1 hQ1, rfl, fun j hj => absurd hj (Nat.not_lt_zero _), rfl, rfl, rfl, rfl⟩ ?_
  · show addL _ _ ≤ addL R 47995
    rw [addL_eq, addL_eq]; omega
  · rintro j _ _ _ _ ⟨rs, mn, md, sn, sd, side, a, n, gf, b1, b3, b4, b5, hI, hn, hg, rfl, rfl, rfl, rfl⟩
    obtain ⟨hmn, hmd, hsn, hsd, hs1, hs2⟩ := hI.bd hP hQ
    have hn60 : n ≤ 60 := by have := hI.len; omega
    repeat' ((conv => whnf); first
             | refine eqS_rfl ?_
             | refine eqA_rfl ?_
             | refine eqA_of (by assumption) ?_
             | refine eqS_of (by rfl) ?_
             | refine seS_rfl ?_
             | refine brS_tt ?_
             | refine brS_ff ?_
             | refine brS_not ?_
             | refine brS_t (iEq_self _) ?_
             | refine brS_t (by assumption) ?_
             | refine brS_f (by assumption) ?_
             | refine brS_intro (fun _ => ?_) (fun _ => ?_)
             | refine ltS_intro (by first | assumption | decide | exact Nat.le_of_ble_eq_true rfl | omega) ?_
             | refine ixS_of rfl (by first | assumption | decide | omega) ?_
             | refine okS_intro (by first | assumption | kernel_rfl) ?_
             | refine call_pure (c43 F _ _ _ _ _ (mv_wr (by omega) (by omega) (by omega)) (mv_wr (by omega) (by omega) (by omega))) ?_
             | refine call_val (HT _ _ _ (by omega) (by show _ ≤ (1000002000000 : Int); omega) (by omega) (by show _ ≤ (1000002000000 : Int); omega) _ (by repeat' (first | assumption | refine SeesM.push _ ?_))) ?_
             | refine call_search (by omega) (c66 F _ _ _ _ _ _ _ hv HT hs _ _ _ _ _ hmn hmd hsn hsd _ _ _ _ _) ?_
             | refine ltS_intro (show n * 1 + 1 < 32769 by omega) ?_
             | refine call_pure (c42 F _ _ _ _ _ _ (mv_wr (by omega) (by omega) (by omega)) (mv_wr (by omega) (by omega) (by omega))) ?_
             | intro _)
    · conv => whnf
      have h0 := ieq_t ‹iEq (tw (mn + sn) (md + sd)) 0 = true›
      exact ⟨rs, mn, md, sn, sd, side, a, n, gf, hn, hn60, hg, hI.rch, hI.geo, h0, rfl, WkM.drop (WkM.sub (.cons_cons _ (.cons _ (.cons _ (.cons _ (.refl _)))))), Nat.le_trans (Nat.le_add_right _ _) (addL_le (R + 960 * j) 941)⟩
    · conv => whnf
      rename_i k hk1 hk2 hk3 b6 a2 b7
      have h0 := ieq_f ‹iEq (tw (mn + sn) (md + sd)) 0 = false›
      have e2 : k = 0 ∨ tw (mn + k * sn) (md + k * sd) = side := by
        rcases Nat.eq_zero_or_pos k with h | h
        · exact .inl h
        · right
          have h2 := hk2.resolve_left (by omega)
          have e : ((k - 1 : Nat) : Int) + 1 = k := by omega
          rw [e] at h2
          exact ieq_t (by simpa using h2)
      have e3 : k = 1000000 ∨ tw (mn + (k + 1) * sn) (md + (k + 1) * sd) ≠ side := hk3.imp_right fun h => ieq_f (by simpa using h)
      obtain ⟨hk, j', hj, hW⟩ := hI.step H1 H2 H3 hP hQ h0 hk1 e2 e3
      have es : wr .i64 (Int.sub 0 side) = -side := by
        rcases hI.geo.s with ⟨rfl, _⟩ | ⟨rfl, _⟩ <;> rfl
      refine ⟨j', [(1, .ptr 1 b1 0), (2, .sl 2 a2 (Nat.add n 1) (Nat.add n 1)), (3, .ptr 3 b3 0), (4, .ptr 4 b4 0), (5, .ptr 5 b7 0)], _, addL (R + 960 * j') 960, 200, hj, ⟨⟨rfl, rfl⟩, ⟨rfl, rfl⟩, ⟨rfl, rfl⟩, ⟨rfl, rfl⟩, ⟨rfl, rfl⟩, trivial⟩,
        WkM.sub (m := wm g fs cs b1 b4 b7 (.gr a2 (Nat.add n 1) 3 1 (grow n 1 gf [i64 (k : Int)])) (.own b3 73 [i64 0, i64 0]) sn sd (mn + k * sn) (md + k * sd) (wr .i64 (Int.sub 0 side)) mt) (.cons_cons _ (.cons_cons _ (.cons _ (.cons _ (.refl _))))), ?_,
        rs ++ [(k : Int)], sn, sd, mn + k * sn, md + k * sd, wr .i64 (Int.sub 0 side), a2, Nat.add n 1, grow n 1 gf [i64 (k : Int)], b1, b3, b4, b7, by rw [es]; exact hW, ?_, grow_get hn hg k, rfl, rfl, rfl, rfl⟩
      · show addL (R + 960 * j') 960 ≤ addL (R + 960 * j) 31
        rw [addL_eq, addL_eq]; omega
      · rw [List.length_append, List.length_singleton, ← hn]
end Go.Proofs.Ytildnbpdhkdddaa
namespace Go.Proofs.Ytildnbpdhkdddaa
open Go.Ab
attribute [local irreducible] aggOk drwOK
set_option maxRecDepth 100000
set_option maxHeartbeats 4000000
def tws (xn xd yn yd a b : Int) : Int := if 0 < cmpI (xn * b) (a * xd) then 1 else min (cmpI (yn * b) (a * yd)) 0
theorem cmpI_cases (x y : Int) : (cmpI x y = -1 ∧ x < y) ∨ (cmpI x y = 1 ∧ y < x) ∨ (cmpI x y = 0 ∧ x = y) := by
  unfold cmpI
  split
  · exact .inl ⟨rfl, by assumption⟩
  · split
    · exact .inr (.inl ⟨rfl, by assumption⟩)
    · exact .inr (.inr ⟨rfl, by omega⟩)
theorem tws_cases (xn xd yn yd a b : Int) : (tws xn xd yn yd a b = 1 ∧ a * xd < xn * b) ∨ (tws xn xd yn yd a b = -1 ∧ yn * b < a * yd) ∨ (tws xn xd yn yd a b = 0 ∧ xn * b ≤ a * xd ∧ a * yd ≤ yn * b) := by
  unfold tws
  rcases cmpI_cases (xn * b) (a * xd) with ⟨e, h⟩ | ⟨e, h⟩ | ⟨e, h⟩ <;> rw [e] <;> rcases cmpI_cases (yn * b) (a * yd) with ⟨e2, h2⟩ | ⟨e2, h2⟩ | ⟨e2, h2⟩ <;> rw [e2] <;> simp <;> omega
theorem frac_lt {a b xn xd p q : Int} (h : a * xd < xn * b) (h2 : xn * q ≤ p * xd) (hb : 0 ≤ b) (hq : 1 ≤ q) (hx : 1 ≤ xd) : a * q < p * b := by
  refine Int.not_le.1 fun h3 => ?_
  have e1 : (a * xd) * q < (xn * b) * q := Int.mul_lt_mul_of_pos_right h (by omega)
  have e2 : (xn * q) * b ≤ (p * xd) * b := Int.mul_le_mul_of_nonneg_right h2 hb
  have e3 : (p * b) * xd ≤ (a * q) * xd := Int.mul_le_mul_of_nonneg_right h3 (by omega)
  have f1 : (a * xd) * q = (a * q) * xd := by grind
  have f2 : (xn * b) * q = (xn * q) * b := by grind
  have f3 : (p * xd) * b = (p * b) * xd := by grind
  omega
theorem frac_gt {a b yn yd p q : Int} (h : yn * b < a * yd) (h2 : p * yd ≤ yn * q) (hb : 0 ≤ b) (hq : 1 ≤ q) (hy : 1 ≤ yd) : p * b < a * q := by
  refine Int.not_le.1 fun h3 => ?_
  have e1 : (yn * b) * q < (a * yd) * q := Int.mul_lt_mul_of_pos_right h (by omega)
  have e2 : (p * yd) * b ≤ (yn * q) * b := Int.mul_le_mul_of_nonneg_right h2 hb
  have e3 : (a * q) * yd ≤ (p * b) * yd := Int.mul_le_mul_of_nonneg_right h3 (by omega)
  have f1 : (a * yd) * q = (a * q) * yd := by grind
  have f2 : (yn * b) * q = (yn * q) * b := by grind
  have f3 : (p * yd) * b = (p * b) * yd := by grind
  omega
/-- the simplest fraction from x to y -/
structure Simp (xn xd yn yd rn rd : Int) : Prop where
  n : 0 ≤ rn
  d : 1 ≤ rd
  lo : xn * rd ≤ rn * xd
  hi : rn * yd ≤ yn * rd
  least : ∀ p q, 0 ≤ p → 1 ≤ q → xn * q ≤ p * xd → p * yd ≤ yn * q → rd ≤ q ∧ rn ≤ p
theorem Rch.simp {xn xd yn yd : Int} (hx : 1 ≤ xn) (hxd : 1 ≤ xd) (hyd : 1 ≤ yd) (hxy : xn * yd ≤ yn * xd) {rs : List Int} {mn md sn sd side : Int} (h : Rch (tws xn xd yn yd) rs mn md sn sd side) (h0 : tws xn xd yn yd (mn + sn) (md + sd) = 0) : Simp xn xd yn yd (mn + sn) (md + sd) := by
  have key : ∀ p q, 1 ≤ p → 1 ≤ q → xn * q ≤ p * xd → p * yd ≤ yn * q → Geo mn md sn sd side p q := fun p q hp hq h1 h2 => h.geo (fun a b ha hb e => by
    rcases tws_cases xn xd yn yd a b with ⟨_, h⟩ | ⟨e2, h⟩ | ⟨e2, h⟩
    · exact frac_lt h h1 hb hq hxd
    · rw [e] at e2; omega
    · rw [e] at e2; omega) (fun a b ha hb e => by
    rcases tws_cases xn xd yn yd a b with ⟨e2, h⟩ | ⟨_, h⟩ | ⟨e2, h⟩
    · rw [e] at e2; omega
    · exact frac_gt h h2 hb hq hyd
    · rw [e] at e2; omega) hp hq
  have hg := key xn xd hx hxd (Int.le_refl _) hxy
  have ha := hg.a
  have hb := hg.b
  have hc := hg.c
  have hd := hg.d
  have hz : xn * (md + sd) ≤ (mn + sn) * xd ∧ (mn + sn) * yd ≤ yn * (md + sd) := by
    rcases tws_cases xn xd yn yd (mn + sn) (md + sd) with ⟨e2, h⟩ | ⟨e2, h⟩ | ⟨_, h⟩
    · rw [h0] at e2; omega
    · rw [h0] at e2; omega
    · exact h
  refine ⟨by omega, ?_, hz.1, hz.2, fun p q hp hq h1 h2 => ?_⟩
  · by_cases h1 : md = 0 ∧ sd = 0
    · obtain ⟨rfl, rfl⟩ := h1
      have := hg.s
      simp at this
    · omega
  · have hp1 : 1 ≤ p := by
      refine Int.not_lt.1 fun hlt => ?_
      have : p = 0 := by omega
      subst this
      have : 1 * 1 ≤ xn * q := Int.mul_le_mul hx hq (by decide) (by omega)
      omega
    have := (key p q hp1 hq h1 h2).le
    omega
theorem pr_wr {a b : Int} (ha : 0 ≤ a ∧ a ≤ 1000000) (hb : 0 ≤ b ∧ b ≤ BB) : wr .i64 (Int.mul a b) = a * b := wr_mul rfl rfl (Bd.of (B := 1000000) (by omega) (by omega)) (Bd.of (B := 1000002000000) (by omega) hb.2) (by decide)
theorem pr_wr' {a b : Int} (ha : 0 ≤ a ∧ a ≤ 1000000) (hb : 0 ≤ b ∧ b ≤ BB) : wr .i64 (Int.mul b a) = b * a := wr_mul rfl rfl (Bd.of (B := 1000002000000) (by omega) hb.2) (Bd.of (B := 1000000) (by omega) (by omega)) (by decide)
abbrev r2 (b : Nat) (x y : Int) : Ent := .ro (some ⟨b, 0, none⟩) 1 1 2 (Go.Ab.part [i64 x, i64 y] 0 2)
theorem c36 (F d : Nat) (b1 b2 : Nat) (xn xd yn yd a b : Int) (hxn : 0 ≤ xn ∧ xn ≤ 1000000) (hxd : 0 ≤ xd ∧ xd ≤ 1000000) (hyn : 0 ≤ yn ∧ yn ≤ 1000000) (hyd : 0 ≤ yd ∧ yd ≤ 1000000) (ha : 0 ≤ a ∧ a ≤ BB) (hb : 0 ≤ b ∧ b ≤ BB) :
    ReadC (CL F (d + 4)) 36 [pt a b, .el 1000 b1 0 2 0 0, .el 1001 b2 0 2 0 0] [(1000, r2 b1 xn xd), (1001, r2 b2 yn yd)] 6 (i64 (tws xn xd yn yd a b)) := by
  intro R
  refine call_in (n := 13) Try.func36 rfl rfl rfl rfl rfl rfl rfl ?_
  repeat' ((conv => whnf); first
           | refine eqS_rfl ?_
           | refine eqA_rfl ?_
           | refine eqA_of (by assumption) ?_
           | refine eqS_of (by rfl) ?_
           | refine seS_rfl ?_
           | refine brS_tt ?_
           | refine brS_ff ?_
           | refine brS_not ?_
           | refine brS_t (iEq_self _) ?_
           | refine brS_t (by assumption) ?_
           | refine brS_f (by assumption) ?_
           | refine brS_intro (fun _ => ?_) (fun _ => ?_)
           | refine ltS_intro (by first | assumption | decide | exact Nat.le_of_ble_eq_true rfl | omega) ?_
           | refine ixS_of rfl (by first | assumption | decide | omega) ?_
           | refine okS_intro (by first | assumption | kernel_rfl) ?_
           | refine call_pure (c34 F _ _ _ _ _ (pr_wr hxn hb) (pr_wr' hxd ha)) ?_
           | refine call_pure (c34 F _ _ _ _ _ (pr_wr hyn hb) (pr_wr' hyd ha)) ?_
           | intro _)
  all_goals conv => whnf
  · have h := ilt_t ‹iLt 0 (cmpI (xn * b) (a * xd)) = true›
    exact ⟨by unfold tws; rw [if_pos h], Nat.le_add_right R 3⟩
  · have h := ilt_f ‹iLt 0 (cmpI (xn * b) (a * xd)) = false›
    refine ⟨?_, Nat.le_add_right R 1⟩
    unfold tws
    rw [if_neg (by omega)]
    refine congrArg (Value.int .i64) ?_
    rw [Int.min_def, iLt_eq]
    by_cases h2 : (0 : Int) < cmpI (yn * b) (a * yd)
    · rw [decide_eq_true h2, if_neg (by omega)]; rfl
    · rw [decide_eq_false h2, if_pos (by omega)]; rfl
theorem c36t (F e : Nat) (i j b1 b2 : Nat) (xn xd yn yd : Int) (hxn : 0 ≤ xn ∧ xn ≤ 1000000) (hxd : 0 ≤ xd ∧ xd ≤ 1000000) (hyn : 0 ≤ yn ∧ yn ≤ 1000000) (hyd : 0 ≤ yd ∧ yd ≤ 1000000) :
    TowC (CL F (e + 4)) (.fn 36 [] [.ptr i b1 0, .ptr j b2 0]) [(1000, r2 b1 xn xd), (1001, r2 b2 yn yd)] (tws xn xd yn yd) := fun a b ha1 ha2 hb1 hb2 _ hs =>
  ValC.fs rfl rfl (l := [pt a b, .ptr i b1 0, .ptr j b2 0]) rfl (ReadC.val (c36 F e b1 b2 xn xd yn yd a b hxn hxd hyn hyd ⟨ha1, ha2⟩ ⟨hb1, hb2⟩) rfl hs)
theorem call_walk {F d : Nat} (hF : 100 < F) {g : FuncId} {fs cs : List SV} (m0 : Mem) {mt : Mem} {tw : Int → Int → Int} (P Q : Int) (hv : vqS (.fn g fs cs) = true) (HT : ∀ e, TowC (CL F (e + 4)) (.fn g fs cs) m0 tw) (hs : SeesM mt m0)
    (H1 : ∀ a b, 0 ≤ a → 0 ≤ b → tw a b = 1 → a * Q < P * b) (H2 : ∀ a b, 0 ≤ a → 0 ≤ b → tw a b = -1 → P * b < a * Q) (H3 : ∀ a b, tw a b = 1 ∨ tw a b = -1 ∨ tw a b = 0) (hP1 : 1 ≤ P) (hP : P ≤ 1000000) (hQ1 : 1 ≤ Q) (hQ : Q ≤ 1000000) {R ni : Nat} {K : SV → Mem → Nat → Nat → Prop}
    (hK : ∀ (rs : List Int) (mn md sn sd side : Int) (a : Option Addr) (n : Nat) (gf : Nat → List SV), n = rs.length → n ≤ 60 → (∀ j, j < n → gf j = [i64 (rs.getD j 0)]) → Rch tw rs mn md sn sd side → Geo mn md sn sd side P Q → tw (mn + sn) (md + sd) = 0 →
      K (.tup [.sl ni a n n, pt (mn + sn) (md + sd)]) ((ni, .gr a n 3 1 gf) :: mt) R (ni + 1)) : callS (CL F (d + 8)) (.fn 35 [] []) [.fn g fs cs] mt (addL R 48000) ni K := by
  refine call_post (c35 F d hF g fs cs m0 mt tw P Q hv HT hs H1 H2 H3 hP1 hP hQ1 hQ R) fun w m' R' n' hq => ?_
  obtain ⟨rs, mn, md, sn, sd, side, a, n, gf, h1, h2, h3, h4, h5, h6, h7, h8, h9⟩ := hq
  exact ⟨.tup [.sl ni a n n, pt (mn + sn) (md + sd)], (ni, .gr a n 3 1 gf) :: mt, R, ni + 1, h7, h8.trans (WkM.sub (.refl _)), h9, hK rs mn md sn sd side a n gf h1 h2 h3 h4 h5 h6⟩
theorem c33t (F d : Nat) (a b : Int) (h : (0 ≤ a ∧ a ≤ 1000000) ∧ 1 ≤ b ∧ b ≤ 1000000) : PureC (CL F (d + 1)) 33 [pt a b] 1 (.bool true) := by
  have := c33 F d a b
  rw [decide_eq_true h] at this
  exact this
end Go.Proofs.Ytildnbpdhkdddaa
namespace Go.Proofs.Ytildnbpdhkdddaa
open Go.Ab
attribute [local irreducible] aggOk drwOK
set_option maxRecDepth 100000
set_option maxHeartbeats 4000000
theorem c13 (F d : Nat) (hF : 100 < F) (xn xd yn yd : Int) (hx : (0 ≤ xn ∧ xn ≤ 1000000) ∧ 1 ≤ xd ∧ xd ≤ 1000000) (hy : (0 ≤ yn ∧ yn ≤ 1000000) ∧ 1 ≤ yd ∧ yd ≤ 1000000) (hxy : xn * yd ≤ yn * xd) (m : Mem) (R : Nat) :
    callS (CL F (d + 9)) (.fn 13 [] []) [pt xn xd, pt yn yd] m (addL (addL R 10) 48013) 0 fun w m' R' _ => (∃ rn rd, den w = .tuple ⟨[.agg ⟨[.int .i64 rn, .int .i64 rd]⟩, .int .i64 0]⟩ ∧ Simp xn xd yn yd rn rd) ∧ WkM m' m ∧ R ≤ R' := by
  have hc : iLt 0 (cmpI (xn * yd) (yn * xd)) = false := by
    rw [iLt_eq]
    rcases cmpI_cases (xn * yd) (yn * xd) with ⟨e, h⟩ | ⟨e, h⟩ | ⟨e, h⟩
    · rw [e]; rfl
    · omega
    · rw [e]; rfl
  refine call_in (n := 36) Try.func13 rfl rfl rfl rfl rfl rfl rfl ?_
  repeat' ((conv => whnf); first
           | refine eqS_rfl ?_
           | refine eqA_rfl ?_
           | refine eqA_of (by assumption) ?_
           | refine eqS_of (by rfl) ?_
           | refine seS_rfl ?_
           | refine brS_tt ?_
           | refine brS_ff ?_
           | refine brS_not ?_
           | refine brS_t (iEq_self _) ?_
           | refine brS_t (by assumption) ?_
           | refine brS_f (by assumption) ?_
           | refine brS_intro (fun _ => ?_) (fun _ => ?_)
           | refine ltS_intro (by first | assumption | decide | exact Nat.le_of_ble_eq_true rfl | omega) ?_
           | refine ixS_of rfl (by first | assumption | decide | omega) ?_
           | refine okS_intro (by first | assumption | kernel_rfl) ?_
           | refine call_pure (c33t F _ _ _ hx) ?_
           | refine call_pure (c33t F _ _ _ hy) ?_
           | refine call_pure (c34 F _ _ _ _ _ (pr_wr hx.1 ⟨by omega, by show _ ≤ (1000002000000 : Int); omega⟩) (pr_wr hy.1 ⟨by omega, by show _ ≤ (1000002000000 : Int); omega⟩)) ?_
           | intro _)
  · conv => whnf
    have h0 := ieq_t ‹iEq xn 0 = true›
    subst h0
    refine ⟨⟨0, 1, rfl, by omega, by omega, by omega, by omega, fun p q hp hq _ _ => ⟨hq, hp⟩⟩, by repeat' (first | exact WkM.refl _ | refine WkM.drop ?_), ?_⟩
    exact Nat.le_trans (addL_le R 10) (addL_le (addL R 10) 48000)
  · conv => whnf
    have h0 := ieq_f ‹iEq xn 0 = false›
    rename_i b1 b2 b3 b4 b5 _
    refine call_walk hF [(1000, r2 b4 xn xd), (1001, r2 b5 yn yd)] xn xd rfl (fun e => c36t F e _ _ b4 b5 xn xd yn yd hx.1 ⟨by omega, hx.2.2⟩ hy.1 ⟨by omega, hy.2.2⟩) (.cons 1000 (sees_own (i := 3) rfl (Nat.le_refl 2)) (.cons 1001 (sees_own (i := 4) rfl (Nat.le_refl 2)) (.nil _) (fun _ _ _ _ _ _ x hx => by cases hx)) (fun _ _ _ _ _ _ x hx b => by
      rcases List.mem_cons.1 hx with rfl | hx
      · exact fun h => h
      · cases hx)) (fun a b ha hb e => ?_) (fun a b ha hb e => ?_) (fun a b => ?_) (by omega) hx.1.2 hx.2.1 hx.2.2 ?_
    · rcases tws_cases xn xd yn yd a b with ⟨_, h⟩ | ⟨e2, h⟩ | ⟨e2, h⟩
      · exact h
      · rw [e] at e2; omega
      · rw [e] at e2; omega
    · rcases tws_cases xn xd yn yd a b with ⟨e2, h⟩ | ⟨_, h⟩ | ⟨e2, h⟩
      · rw [e] at e2; omega
      · exact frac_gt h hxy hb (by omega) (by omega)
      · rw [e] at e2; omega
    · rcases tws_cases xn xd yn yd a b with ⟨e2, h⟩ | ⟨e2, h⟩ | ⟨e2, h⟩
      · exact .inl e2
      · exact .inr (.inl e2)
      · exact .inr (.inr e2)
    · intro rs mn md sn sd side a n gf hn hn60 hg hr hgeo hz
      repeat' ((conv => whnf); first
               | refine eqS_rfl ?_
               | refine eqA_rfl ?_
               | refine eqA_of (by assumption) ?_
               | refine eqS_of (by rfl) ?_
               | refine seS_rfl ?_
               | refine brS_tt ?_
               | refine brS_ff ?_
               | refine brS_not ?_
               | refine brS_t (iEq_self _) ?_
               | refine brS_t (by assumption) ?_
               | refine brS_f (by assumption) ?_
               | refine brS_intro (fun _ => ?_) (fun _ => ?_)
               | refine ltS_intro (by first | assumption | decide | exact Nat.le_of_ble_eq_true rfl | omega) ?_
               | refine ixS_of rfl (by first | assumption | decide | omega) ?_
               | refine okS_intro (by first | assumption | kernel_rfl) ?_
               | intro _)
      conv => whnf
      exact ⟨⟨mn + sn, md + sd, rfl, hr.simp (by omega) (by omega) (by omega) hxy hz⟩, by repeat' (first | exact WkM.refl _ | refine WkM.drop ?_), addL_le R 9⟩
end Go.Proofs.Ytildnbpdhkdddaa
namespace Go.Proofs.Ytildnbpdhkdddaa
open Go.Ab
attribute [local irreducible] aggOk drwOK
set_option maxRecDepth 100000
set_option maxHeartbeats 4000000
theorem call_simplest {F d : Nat} (hF : 100 < F) {xn xd yn yd : Int} (hx : (0 ≤ xn ∧ xn ≤ 1000000) ∧ 1 ≤ xd ∧ xd ≤ 1000000) (hy : (0 ≤ yn ∧ yn ≤ 1000000) ∧ 1 ≤ yd ∧ yd ≤ 1000000) (hxy : xn * yd ≤ yn * xd) {m : Mem} {R ni : Nat} {K : SV → Mem → Nat → Nat → Prop}
    (hK : ∀ rn rd, Simp xn xd yn yd rn rd → K (.tup [pt rn rd, i64 0]) m R ni) : callS (CL F (d + 9)) (.fn 13 [] []) [pt xn xd, pt yn yd] m (addL (addL R 10) 48013) ni K := by
  refine call_post (c13 F d hF xn xd yn yd hx hy hxy m R) fun w m' R' n' hq => ?_
  obtain ⟨⟨rn, rd, h1, h2⟩, h3, h4⟩ := hq
  exact ⟨.tup [pt rn rd, i64 0], m, R, ni, h1, h3, h4, hK rn rd h2⟩
abbrev u8 (n : Int) : SV := .int .u8 n
theorem eq23 (a b c e : Int) : eqV Try.prog 40 23 (.agg ⟨[.int .i64 a, .int .i64 b]⟩) (.agg ⟨[.int .i64 c, .int .i64 e]⟩) = some (iEq a c && (iEq b e && true)) := by kernel_rfl
theorem u8_wr {x : Int} (h : 0 ≤ x ∧ x < 256) : wr .i64 x = x := wr_id (by omega) (by omega)
theorem den_wr {x : Int} (h : 0 ≤ x ∧ x < 256) : wr .i64 (Int.add 1 (Int.tmod (wr .i64 x) 60)) = 1 + x % 60 := by
  rw [u8_wr h, Int.tmod_eq_emod_of_nonneg h.1]
  exact wr_id (n := 1 + x % 60) (by omega) (by omega)
theorem law9 (F d : Nat) (hF : 400 < F) (x0 x1 x2 x3 : Int) (h0 : 0 ≤ x0 ∧ x0 < 256) (h1 : 0 ≤ x1 ∧ x1 < 256) (h2 : 0 ≤ x2 ∧ x2 < 256) (h3 : 0 ≤ x3 ∧ x3 < 256) : PureC (CL F (d + 10)) 9 [.agg [u8 x0, u8 x1], .agg [u8 x2, u8 x3]] 200000 (.bool true) := by
  have e0 := u8_wr h0
  have e1 := den_wr h1
  have e2 := u8_wr h2
  have e3 := den_wr h3
  have hF : 100 < F := by omega
  have m1 : 0 ≤ x1 % 60 ∧ x1 % 60 < 60 := by omega
  have m3 : 0 ≤ x3 % 60 ∧ x3 % 60 < 60 := by omega
  intro m R
  have eR : addL R 200000 = addL (addL (addL (R + 151949) 10) 48013) 28 := by rw [addL_eq, addL_eq, addL_eq, addL_eq]
  rw [eR]
  refine call_in (n := 102) Try.func9 rfl rfl rfl rfl rfl rfl rfl ?_
  repeat' ((conv => whnf); first
           | refine eqS_rfl ?_
           | refine eqA_rfl ?_
           | refine eqA_of (by assumption) ?_
           | refine eqS_of (by rfl) ?_
           | refine seS_rfl ?_
           | refine brS_tt ?_
           | refine brS_ff ?_
           | refine brS_not ?_
           | refine brS_t (iEq_self _) ?_
           | refine brS_t (by assumption) ?_
           | refine brS_f (by assumption) ?_
           | refine brS_intro (fun _ => ?_) (fun _ => ?_)
           | refine ltS_intro (by first | assumption | decide | exact Nat.le_of_ble_eq_true rfl | omega) ?_
           | refine ixS_of rfl (by first | assumption | decide | omega) ?_
           | refine okS_intro (by first | assumption | kernel_rfl) ?_
           | refine nzS_intro (by first | decide | assumption | omega) ?_
           | refine callS.cast (args' := [i64 x0, i64 (1 + x1 % 60)]) rfl (by show [Value.int .i64 _, Value.int .i64 _] = [Value.int .i64 x0, Value.int .i64 (1 + x1 % 60)]; rw [e0, e1]) (call_pure (c28 F _ _ _) ?_)
           | refine callS.cast (args' := [i64 x2, i64 (1 + x3 % 60)]) rfl (by show [Value.int .i64 _, Value.int .i64 _] = [Value.int .i64 x2, Value.int .i64 (1 + x3 % 60)]; rw [e2, e3]) (call_pure (c28 F _ _ _) ?_)
           | refine call_pure (c27 F _ _ _ _ _ (pr_wr (by omega) ⟨by omega, by show _ ≤ (1000002000000 : Int); omega⟩) (pr_wr (by omega) ⟨by omega, by show _ ≤ (1000002000000 : Int); omega⟩)) ?_
           | intro _)
  · conv => whnf
    have hpq : x2 * (1 + x1 % 60) ≤ x0 * (1 + x3 % 60) := by first | exact Int.le_of_lt (ilt_t ‹_›) | exact ilt_f ‹_›
    refine call_simplest (R := R + 151949) hF ⟨by omega, by omega⟩ ⟨by omega, by omega⟩ hpq fun rn rd hS => ?_
    have hS1 := hS.least x2 (1 + x3 % 60) (by omega) (by omega) (Int.le_refl _) hpq
    have hrn := hS.n
    have hrd := hS.d
    have g1 : iLt rd 1 = false := by rw [iLt_eq]; simp; omega
    have g2 : iLt 60 rd = false := by rw [iLt_eq]; simp; omega
    have g3 : iLt rn 0 = false := by rw [iLt_eq]; simp; omega
    have g4 : iLt 300 rn = false := by rw [iLt_eq]; simp; omega
    have g5 : iLt (rn * (1 + x3 % 60)) (x2 * rd) = false := by rw [iLt_eq]; have := hS.lo; simp; omega
    have g6 : iLt (x0 * rd) (rn * (1 + x1 % 60)) = false := by rw [iLt_eq]; have := hS.hi; simp; omega
    repeat' ((conv => whnf); first
             | refine eqS_rfl ?_
             | refine eqA_rfl ?_
             | refine eqA_of (by assumption) ?_
             | refine eqS_of (by rfl) ?_
             | refine seS_rfl ?_
             | refine brS_tt ?_
             | refine brS_ff ?_
             | refine brS_not ?_
             | refine brS_t (iEq_self _) ?_
             | refine brS_t (by assumption) ?_
             | refine brS_f (by assumption) ?_
             | refine brS_intro (fun _ => ?_) (fun _ => ?_)
             | refine ltS_intro (by first | assumption | decide | exact Nat.le_of_ble_eq_true rfl | omega) ?_
             | refine ixS_of rfl (by first | assumption | decide | omega) ?_
             | refine okS_intro (by first | assumption | kernel_rfl) ?_
             | refine call_pure (c27 F _ _ _ _ _ (pr_wr (by omega) ⟨by omega, by show _ ≤ (1000002000000 : Int); omega⟩) (pr_wr (by omega) ⟨by omega, by show _ ≤ (1000002000000 : Int); omega⟩)) ?_
             | intro _)
    conv => whnf
    rename_i b5 b6 _ b7
    have hrd60 : rd ≤ 60 := by omega
    have hrn255 : rn ≤ 255 := by omega
    refine loS_i (fun j f m' R' ni => ∃ den : Nat, 1 ≤ den ∧ (den : Int) ≤ rd ∧ j = 61 - den ∧ f = [(5, .ptr 5 b5 0), (6, .ptr 6 b6 0), (7, .ptr 7 b7 0), (9, i64 (den : Int))] ∧ m' = (7, .own b7 23 [i64 rn, i64 rd]) :: (6, .own b6 23 [i64 x0, i64 (1 + x1 % 60)]) :: (5, .own b5 23 [i64 x2, i64 (1 + x3 % 60)]) :: m ∧ R' = R + 1812 * (61 - den) ∧ ni = 200) 60 (by omega)
      ⟨[(5, .ptr 5 b5 0), (6, .ptr 6 b6 0), (7, .ptr 7 b7 0), (9, i64 ((1 : Nat) : Int))], (7, .own b7 23 [i64 rn, i64 rd]) :: (6, .own b6 23 [i64 x0, i64 (1 + x1 % 60)]) :: (5, .own b5 23 [i64 x2, i64 (1 + x3 % 60)]) :: m, R + 1812 * (61 - 1), 200, ⟨⟨rfl, rfl⟩, ⟨rfl, rfl⟩, ⟨rfl, rfl⟩, ⟨rfl, rfl⟩, trivial⟩, WkM.sub (.cons_cons _ (.cons_cons _ (.cons_cons _ (.cons _ (.cons _ (.refl _)))))), ?_, 1, by omega, by omega, rfl, rfl, rfl, rfl, rfl⟩ ?_
    · show R + _ ≤ R + _
      omega
    · rintro j _ _ _ _ ⟨den, hd1, hd2, rfl, rfl, rfl, rfl, rfl⟩
      have g7 : iLt rd (den : Int) = false := by rw [iLt_eq]; simp; omega
      have hden : den ≤ 60 := by omega
      repeat' ((conv => whnf); first
               | refine eqS_rfl ?_
               | refine eqA_rfl ?_
               | refine eqA_of (by assumption) ?_
               | refine eqS_of (by rfl) ?_
               | refine seS_rfl ?_
               | refine brS_tt ?_
               | refine brS_ff ?_
               | refine brS_not ?_
               | refine brS_t (iEq_self _) ?_
               | refine brS_t (by assumption) ?_
               | refine brS_f (by assumption) ?_
               | refine brS_intro (fun _ => ?_) (fun _ => ?_)
               | refine ltS_intro (by first | assumption | decide | exact Nat.le_of_ble_eq_true rfl | omega) ?_
               | refine ixS_of rfl (by first | assumption | decide | omega) ?_
               | refine okS_intro (by first | assumption | kernel_rfl) ?_
               | intro _)
      conv => whnf
      refine loS_i (fun j f m' R' ni => ∃ num : Nat, num ≤ 301 ∧ ((den : Int) < rd ∨ (num : Int) ≤ rn) ∧ j = 302 - num ∧ f = [(5, .ptr 5 b5 0), (6, .ptr 6 b6 0), (7, .ptr 7 b7 0), (9, i64 (den : Int)), (10, i64 (num : Int))] ∧ m' = (7, .own b7 23 [i64 rn, i64 rd]) :: (6, .own b6 23 [i64 x0, i64 (1 + x1 % 60)]) :: (5, .own b5 23 [i64 x2, i64 (1 + x3 % 60)]) :: m ∧ R' = addL (R + 1812 * (60 - den) + 6 * (301 - num)) 6 ∧ ni = 200) 302 (by omega)
        ⟨[(5, .ptr 5 b5 0), (6, .ptr 6 b6 0), (7, .ptr 7 b7 0), (9, i64 (den : Int)), (10, i64 ((0 : Nat) : Int))], (7, .own b7 23 [i64 rn, i64 rd]) :: (6, .own b6 23 [i64 x0, i64 (1 + x1 % 60)]) :: (5, .own b5 23 [i64 x2, i64 (1 + x3 % 60)]) :: m, addL (R + 1812 * (60 - den) + 6 * (301 - 0)) 6, 200, ⟨⟨rfl, rfl⟩, ⟨rfl, rfl⟩, ⟨rfl, rfl⟩, ⟨rfl, rfl⟩, ⟨rfl, rfl⟩, trivial⟩, WkM.refl _, ?_, 0, by omega, .inr (by omega), rfl, rfl, rfl, rfl, rfl⟩ ?_
      · rw [addL_eq]; omega
      · rintro j _ _ _ _ ⟨num, hn1, hn2, rfl, rfl, rfl, rfl, rfl⟩
        repeat' ((conv => whnf); first
                 | refine eqS_rfl ?_
                 | refine eqA_rfl ?_
                 | refine eqA_of (by assumption) ?_
                 | refine eqS_of (by rfl) ?_
                 | refine seS_rfl ?_
                 | refine brS_tt ?_
                 | refine brS_ff ?_
                 | refine brS_not ?_
                 | refine brS_t (iEq_self _) ?_
                 | refine brS_t (by assumption) ?_
                 | refine brS_f (by assumption) ?_
                 | refine brS_intro (fun _ => ?_) (fun _ => ?_)
                 | refine ltS_intro (by first | assumption | decide | exact Nat.le_of_ble_eq_true rfl | omega) ?_
                 | refine ixS_of rfl (by first | assumption | decide | omega) ?_
                 | refine okS_intro (by first | assumption | kernel_rfl) ?_
                 | refine call_pure (c27 F _ _ _ _ _ (pr_wr (by omega) ⟨by omega, by show _ ≤ (1000002000000 : Int); omega⟩) (pr_wr (by omega) ⟨by omega, by show _ ≤ (1000002000000 : Int); omega⟩)) ?_
                 | refine call_pure (c28 F _ _ _) ?_
                 | refine agS.mk (by kernel_rfl) ?_
                 | refine eqvS_of (eq23 _ _ _ _) ?_
                 | refine call_w rfl ?_
                 | intro _)
        all_goals conv => whnf
        · have hx := ilt_t ‹iLt 300 (num : Int) = true›
          refine ⟨61 - (den + 1), [(5, .ptr 5 b5 0), (6, .ptr 6 b6 0), (7, .ptr 7 b7 0), (9, i64 ((den + 1 : Nat) : Int))], _, R + 1812 * (61 - (den + 1)), 200, by omega, ⟨⟨rfl, rfl⟩, ⟨rfl, rfl⟩, ⟨rfl, rfl⟩, ⟨congrArg (Value.int .i64) (wr_nat (i := den + 1) (by omega)), rfl⟩, trivial⟩, WkM.refl _, ?_, den + 1, by omega, by omega, rfl, rfl, rfl, rfl, rfl⟩
          rw [addL_eq]; omega
        · have hx := ilt_t ‹iLt ((num : Int) * (1 + x3 % 60)) (x2 * (den : Int)) = true›
          have hy := ilt_f ‹iLt 300 (num : Int) = false›
          refine ⟨302 - (num + 1), [(5, .ptr 5 b5 0), (6, .ptr 6 b6 0), (7, .ptr 7 b7 0), (9, i64 (den : Int)), (10, i64 ((num + 1 : Nat) : Int))], _, addL (R + 1812 * (60 - den) + 6 * (301 - (num + 1))) 6, 200, by omega, ⟨⟨rfl, rfl⟩, ⟨rfl, rfl⟩, ⟨rfl, rfl⟩, ⟨rfl, rfl⟩, ⟨congrArg (Value.int .i64) (wr_nat (i := num + 1) (by omega)), rfl⟩, trivial⟩, WkM.drop (WkM.refl _), ?_, num + 1, by omega, ?_, rfl, rfl, rfl, rfl, rfl⟩
          · refine Nat.le_trans ?_ (addL_le' (R + 1812 * (60 - den) + 6 * (301 - num)) 2)
            rw [addL_eq]; omega
          · rcases Int.lt_or_le (den : Int) rd with h | h
            · exact .inl h
            · right
              have ed : (den : Int) = rd := by omega
              have := hS.lo
              rw [ed] at hx
              have hne : (num : Int) ≠ rn := fun e => by rw [e] at hx; omega
              omega
        · have hx := ilt_t ‹iLt (x0 * (den : Int)) ((num : Int) * (1 + x1 % 60)) = true›
          have hy := ilt_f ‹iLt 300 (num : Int) = false›
          refine ⟨302 - (num + 1), [(5, .ptr 5 b5 0), (6, .ptr 6 b6 0), (7, .ptr 7 b7 0), (9, i64 (den : Int)), (10, i64 ((num + 1 : Nat) : Int))], _, addL (R + 1812 * (60 - den) + 6 * (301 - (num + 1))) 6, 200, by omega, ⟨⟨rfl, rfl⟩, ⟨rfl, rfl⟩, ⟨rfl, rfl⟩, ⟨rfl, rfl⟩, ⟨congrArg (Value.int .i64) (wr_nat (i := num + 1) (by omega)), rfl⟩, trivial⟩, WkM.drop (WkM.refl _), ?_, num + 1, by omega, ?_, rfl, rfl, rfl, rfl, rfl⟩
          · refine Nat.le_trans ?_ (addL_le' (R + 1812 * (60 - den) + 6 * (301 - num)) 0)
            rw [addL_eq]; omega
          · rcases Int.lt_or_le (den : Int) rd with h | h
            · exact .inl h
            · right
              have ed : (den : Int) = rd := by omega
              have := hS.hi
              rw [ed] at hx
              have hne : (num : Int) ≠ rn := fun e => by rw [e] at hx; omega
              omega
        · refine ⟨rfl, by repeat' (first | exact WkM.refl _ | refine WkM.drop ?_), ?_⟩
          refine Nat.le_trans ?_ (addL_le' (R + 1812 * (60 - den) + 6 * (301 - num)) 0)
          omega
        · exfalso
          have hx := ilt_f ‹iLt ((num : Int) * (1 + x3 % 60)) (x2 * (den : Int)) = false›
          have hy := ilt_f ‹iLt (x0 * (den : Int)) ((num : Int) * (1 + x1 % 60)) = false›
          have hl := hS.least (num : Int) (den : Int) (by omega) (by omega) hx hy
          have ed : (den : Int) = rd := by omega
          have en : (num : Int) = rn := by omega
          have hz := ‹_ = false›
          rw [ed, en, iEq_self, iEq_self] at hz
          cases hz

  · conv => whnf
    have hpq : x0 * (1 + x3 % 60) ≤ x2 * (1 + x1 % 60) := by first | exact Int.le_of_lt (ilt_t ‹_›) | exact ilt_f ‹_›
    refine call_simplest (R := R + 151949) hF ⟨by omega, by omega⟩ ⟨by omega, by omega⟩ hpq fun rn rd hS => ?_
    have hS1 := hS.least x0 (1 + x1 % 60) (by omega) (by omega) (Int.le_refl _) hpq
    have hrn := hS.n
    have hrd := hS.d
    have g1 : iLt rd 1 = false := by rw [iLt_eq]; simp; omega
    have g2 : iLt 60 rd = false := by rw [iLt_eq]; simp; omega
    have g3 : iLt rn 0 = false := by rw [iLt_eq]; simp; omega
    have g4 : iLt 300 rn = false := by rw [iLt_eq]; simp; omega
    have g5 : iLt (rn * (1 + x1 % 60)) (x0 * rd) = false := by rw [iLt_eq]; have := hS.lo; simp; omega
    have g6 : iLt (x2 * rd) (rn * (1 + x3 % 60)) = false := by rw [iLt_eq]; have := hS.hi; simp; omega
    repeat' ((conv => whnf); first
             | refine eqS_rfl ?_
             | refine eqA_rfl ?_
             | refine eqA_of (by assumption) ?_
             | refine eqS_of (by rfl) ?_
             | refine seS_rfl ?_
             | refine brS_tt ?_
             | refine brS_ff ?_
             | refine brS_not ?_
             | refine brS_t (iEq_self _) ?_
             | refine brS_t (by assumption) ?_
             | refine brS_f (by assumption) ?_
             | refine brS_intro (fun _ => ?_) (fun _ => ?_)
             | refine ltS_intro (by first | assumption | decide | exact Nat.le_of_ble_eq_true rfl | omega) ?_
             | refine ixS_of rfl (by first | assumption | decide | omega) ?_
             | refine okS_intro (by first | assumption | kernel_rfl) ?_
             | refine call_pure (c27 F _ _ _ _ _ (pr_wr (by omega) ⟨by omega, by show _ ≤ (1000002000000 : Int); omega⟩) (pr_wr (by omega) ⟨by omega, by show _ ≤ (1000002000000 : Int); omega⟩)) ?_
             | intro _)
    conv => whnf
    rename_i b5 b6 _ b7
    have hrd60 : rd ≤ 60 := by omega
    have hrn255 : rn ≤ 255 := by omega
    refine loS_i (fun j f m' R' ni => ∃ den : Nat, 1 ≤ den ∧ (den : Int) ≤ rd ∧ j = 61 - den ∧ f = [(5, .ptr 5 b5 0), (6, .ptr 6 b6 0), (7, .ptr 7 b7 0), (9, i64 (den : Int))] ∧ m' = (7, .own b7 23 [i64 rn, i64 rd]) :: (6, .own b6 23 [i64 x2, i64 (1 + x3 % 60)]) :: (5, .own b5 23 [i64 x0, i64 (1 + x1 % 60)]) :: m ∧ R' = R + 1812 * (61 - den) ∧ ni = 200) 60 (by omega)
      ⟨[(5, .ptr 5 b5 0), (6, .ptr 6 b6 0), (7, .ptr 7 b7 0), (9, i64 ((1 : Nat) : Int))], (7, .own b7 23 [i64 rn, i64 rd]) :: (6, .own b6 23 [i64 x2, i64 (1 + x3 % 60)]) :: (5, .own b5 23 [i64 x0, i64 (1 + x1 % 60)]) :: m, R + 1812 * (61 - 1), 200, ⟨⟨rfl, rfl⟩, ⟨rfl, rfl⟩, ⟨rfl, rfl⟩, ⟨rfl, rfl⟩, trivial⟩, WkM.sub (.cons_cons _ (.cons_cons _ (.cons_cons _ (.cons _ (.cons _ (.refl _)))))), ?_, 1, by omega, by omega, rfl, rfl, rfl, rfl, rfl⟩ ?_
    · show R + _ ≤ R + _
      omega
    · rintro j _ _ _ _ ⟨den, hd1, hd2, rfl, rfl, rfl, rfl, rfl⟩
      have g7 : iLt rd (den : Int) = false := by rw [iLt_eq]; simp; omega
      have hden : den ≤ 60 := by omega
      repeat' ((conv => whnf); first
               | refine eqS_rfl ?_
               | refine eqA_rfl ?_
               | refine eqA_of (by assumption) ?_
               | refine eqS_of (by rfl) ?_
               | refine seS_rfl ?_
               | refine brS_tt ?_
               | refine brS_ff ?_
               | refine brS_not ?_
               | refine brS_t (iEq_self _) ?_
               | refine brS_t (by assumption) ?_
               | refine brS_f (by assumption) ?_
               | refine brS_intro (fun _ => ?_) (fun _ => ?_)
               | refine ltS_intro (by first | assumption | decide | exact Nat.le_of_ble_eq_true rfl | omega) ?_
               | refine ixS_of rfl (by first | assumption | decide | omega) ?_
               | refine okS_intro (by first | assumption | kernel_rfl) ?_
               | intro _)
      conv => whnf
      refine loS_i (fun j f m' R' ni => ∃ num : Nat, num ≤ 301 ∧ ((den : Int) < rd ∨ (num : Int) ≤ rn) ∧ j = 302 - num ∧ f = [(5, .ptr 5 b5 0), (6, .ptr 6 b6 0), (7, .ptr 7 b7 0), (9, i64 (den : Int)), (10, i64 (num : Int))] ∧ m' = (7, .own b7 23 [i64 rn, i64 rd]) :: (6, .own b6 23 [i64 x2, i64 (1 + x3 % 60)]) :: (5, .own b5 23 [i64 x0, i64 (1 + x1 % 60)]) :: m ∧ R' = addL (R + 1812 * (60 - den) + 6 * (301 - num)) 6 ∧ ni = 200) 302 (by omega)
        ⟨[(5, .ptr 5 b5 0), (6, .ptr 6 b6 0), (7, .ptr 7 b7 0), (9, i64 (den : Int)), (10, i64 ((0 : Nat) : Int))], (7, .own b7 23 [i64 rn, i64 rd]) :: (6, .own b6 23 [i64 x2, i64 (1 + x3 % 60)]) :: (5, .own b5 23 [i64 x0, i64 (1 + x1 % 60)]) :: m, addL (R + 1812 * (60 - den) + 6 * (301 - 0)) 6, 200, ⟨⟨rfl, rfl⟩, ⟨rfl, rfl⟩, ⟨rfl, rfl⟩, ⟨rfl, rfl⟩, ⟨rfl, rfl⟩, trivial⟩, WkM.refl _, ?_, 0, by omega, .inr (by omega), rfl, rfl, rfl, rfl, rfl⟩ ?_
      · rw [addL_eq]; omega
      · rintro j _ _ _ _ ⟨num, hn1, hn2, rfl, rfl, rfl, rfl, rfl⟩
        repeat' ((conv => whnf); first
                 | refine eqS_rfl ?_
                 | refine eqA_rfl ?_
                 | refine eqA_of (by assumption) ?_
                 | refine eqS_of (by rfl) ?_
                 | refine seS_rfl ?_
                 | refine brS_tt ?_
                 | refine brS_ff ?_
                 | refine brS_not ?_
                 | refine brS_t (iEq_self _) ?_
                 | refine brS_t (by assumption) ?_
                 | refine brS_f (by assumption) ?_
                 | refine brS_intro (fun _ => ?_) (fun _ => ?_)
                 | refine ltS_intro (by first | assumption | decide | exact Nat.le_of_ble_eq_true rfl | omega) ?_
                 | refine ixS_of rfl (by first | assumption | decide | omega) ?_
                 | refine okS_intro (by first | assumption | kernel_rfl) ?_
                 | refine call_pure (c27 F _ _ _ _ _ (pr_wr (by omega) ⟨by omega, by show _ ≤ (1000002000000 : Int); omega⟩) (pr_wr (by omega) ⟨by omega, by show _ ≤ (1000002000000 : Int); omega⟩)) ?_
                 | refine call_pure (c28 F _ _ _) ?_
                 | refine agS.mk (by kernel_rfl) ?_
                 | refine eqvS_of (eq23 _ _ _ _) ?_
                 | refine call_w rfl ?_
                 | intro _)
        all_goals conv => whnf
        · have hx := ilt_t ‹iLt 300 (num : Int) = true›
          refine ⟨61 - (den + 1), [(5, .ptr 5 b5 0), (6, .ptr 6 b6 0), (7, .ptr 7 b7 0), (9, i64 ((den + 1 : Nat) : Int))], _, R + 1812 * (61 - (den + 1)), 200, by omega, ⟨⟨rfl, rfl⟩, ⟨rfl, rfl⟩, ⟨rfl, rfl⟩, ⟨congrArg (Value.int .i64) (wr_nat (i := den + 1) (by omega)), rfl⟩, trivial⟩, WkM.refl _, ?_, den + 1, by omega, by omega, rfl, rfl, rfl, rfl, rfl⟩
          rw [addL_eq]; omega
        · have hx := ilt_t ‹iLt ((num : Int) * (1 + x1 % 60)) (x0 * (den : Int)) = true›
          have hy := ilt_f ‹iLt 300 (num : Int) = false›
          refine ⟨302 - (num + 1), [(5, .ptr 5 b5 0), (6, .ptr 6 b6 0), (7, .ptr 7 b7 0), (9, i64 (den : Int)), (10, i64 ((num + 1 : Nat) : Int))], _, addL (R + 1812 * (60 - den) + 6 * (301 - (num + 1))) 6, 200, by omega, ⟨⟨rfl, rfl⟩, ⟨rfl, rfl⟩, ⟨rfl, rfl⟩, ⟨rfl, rfl⟩, ⟨congrArg (Value.int .i64) (wr_nat (i := num + 1) (by omega)), rfl⟩, trivial⟩, WkM.drop (WkM.refl _), ?_, num + 1, by omega, ?_, rfl, rfl, rfl, rfl, rfl⟩
          · refine Nat.le_trans ?_ (addL_le' (R + 1812 * (60 - den) + 6 * (301 - num)) 2)
            rw [addL_eq]; omega
          · rcases Int.lt_or_le (den : Int) rd with h | h
            · exact .inl h
            · right
              have ed : (den : Int) = rd := by omega
              have := hS.lo
              rw [ed] at hx
              have hne : (num : Int) ≠ rn := fun e => by rw [e] at hx; omega
              omega
        · have hx := ilt_t ‹iLt (x2 * (den : Int)) ((num : Int) * (1 + x3 % 60)) = true›
          have hy := ilt_f ‹iLt 300 (num : Int) = false›
          refine ⟨302 - (num + 1), [(5, .ptr 5 b5 0), (6, .ptr 6 b6 0), (7, .ptr 7 b7 0), (9, i64 (den : Int)), (10, i64 ((num + 1 : Nat) : Int))], _, addL (R + 1812 * (60 - den) + 6 * (301 - (num + 1))) 6, 200, by omega, ⟨⟨rfl, rfl⟩, ⟨rfl, rfl⟩, ⟨rfl, rfl⟩, ⟨rfl, rfl⟩, ⟨congrArg (Value.int .i64) (wr_nat (i := num + 1) (by omega)), rfl⟩, trivial⟩, WkM.drop (WkM.refl _), ?_, num + 1, by omega, ?_, rfl, rfl, rfl, rfl, rfl⟩
          · refine Nat.le_trans ?_ (addL_le' (R + 1812 * (60 - den) + 6 * (301 - num)) 0)
            rw [addL_eq]; omega
          · rcases Int.lt_or_le (den : Int) rd with h | h
            · exact .inl h
            · right
              have ed : (den : Int) = rd := by omega
              have := hS.hi
              rw [ed] at hx
              have hne : (num : Int) ≠ rn := fun e => by rw [e] at hx; omega
              omega
        · refine ⟨rfl, by repeat' (first | exact WkM.refl _ | refine WkM.drop ?_), ?_⟩
          refine Nat.le_trans ?_ (addL_le' (R + 1812 * (60 - den) + 6 * (301 - num)) 0)
          omega
        · exfalso
          have hx := ilt_f ‹iLt ((num : Int) * (1 + x1 % 60)) (x0 * (den : Int)) = false›
          have hy := ilt_f ‹iLt (x2 * (den : Int)) ((num : Int) * (1 + x3 % 60)) = false›
          have hl := hS.least (num : Int) (den : Int) (by omega) (by omega) hx hy
          have ed : (den : Int) = rd := by omega
          have en : (num : Int) = rn := by omega
          have hz := ‹_ = false›
          rw [ed, en, iEq_self, iEq_self] at hz
          cases hz

end Go.Proofs.Ytildnbpdhkdddaa
