/- Fractions: PeriodPaths' run: contracts of all functions that it calls. -/
import Derived.Test.YtildnbpdhkdddaaProg
import Derived.Test.YtildnbpdhkdddaaEngSx
import Derived.KernelRfl
namespace Go.Proofs.Ytildnbpdhkdddaa
open Go.Ab
attribute [local irreducible] aggOk drwOK
set_option maxRecDepth 100000
set_option maxHeartbeats 4000000
noncomputable abbrev CL (F d : Nat) : CallT := callF Try.prog F (extB [] 12) d
abbrev i64 (n : Int) : SV := .int .i64 n
abbrev pt (x y : Int) : SV := .agg [i64 x, i64 y]
abbrev nb (a b c d : Int) : SV := .agg [i64 a, i64 b, i64 c, i64 d]
def cmpI (x y : Int) : Int := if x < y then -1 else if y < x then 1 else 0
theorem cmpI_lt {x y : Int} (h : iLt x y = true) : cmpI x y = -1 := by rw [iLt_eq] at h; simp at h; unfold cmpI; rw [if_pos h]
theorem cmpI_gt {x y : Int} (_ : iLt x y = false) (h : iLt y x = true) : cmpI x y = 1 := by rw [iLt_eq] at h; simp at h; unfold cmpI; rw [if_neg (by omega), if_pos h]
theorem cmpI_eq {x y : Int} (h1 : iLt x y = false) (h2 : iLt y x = false) : cmpI x y = 0 := by rw [iLt_eq] at h1 h2; simp at h1 h2; unfold cmpI; rw [if_neg (by omega), if_neg (by omega)]
theorem c85 (F d : Nat) (x : Int) : PureC (CL F (d + 1)) 85 [i64 x] 0 (.bool false) := by
  intro m R
  refine call_in (n := 6) Try.func85 rfl rfl rfl rfl rfl rfl rfl ?_
  repeat' ((conv => whnf); first
           | refine eqS_rfl ?_
           | refine eqA_rfl ?_
           | refine eqA_of (by assumption) ?_
           | refine eqS_of (by rfl) ?_
           | refine seS_rfl ?_
           | refine brS_tt ?_
           | refine brS_ff ?_
           | refine brS_not ?_
           | refine brS_t (iEq_self _) ?_
           | refine brS_t (by assumption) ?_
           | refine brS_f (by assumption) ?_
           | refine brS_intro (fun _ => ?_) (fun _ => ?_)
           | refine ltS_intro (by first | assumption | decide | exact Nat.le_of_ble_eq_true rfl | omega) ?_
           | refine ixS_of rfl (by first | assumption | decide | omega) ?_
           | refine okS_intro (by first | assumption | kernel_rfl) ?_
           | intro _)
  all_goals (conv => whnf)
  all_goals refine ⟨?_, by repeat' (first | exact WkM.refl _ | refine WkM.drop ?_), by repeat' (first | exact Nat.le_refl _ | refine Nat.le_succ_of_le ?_)⟩
  all_goals ((show Value.bool (!iEq x x) = _; rw [iEq_self]; rfl))

theorem c64 (F d : Nat) (x y : Int) : PureC (CL F (d + 2)) 64 [i64 x, i64 y] 0 (i64 (cmpI x y)) := by
  intro m R
  refine call_in (n := 20) Try.func64 rfl rfl rfl rfl rfl rfl rfl ?_
  repeat' ((conv => whnf); first
           | refine eqS_rfl ?_
           | refine eqA_rfl ?_
           | refine eqA_of (by assumption) ?_
           | refine eqS_of (by rfl) ?_
           | refine seS_rfl ?_
           | refine brS_tt ?_
           | refine brS_ff ?_
           | refine brS_not ?_
           | refine brS_t (iEq_self _) ?_
           | refine brS_t (by assumption) ?_
           | refine brS_f (by assumption) ?_
           | refine brS_intro (fun _ => ?_) (fun _ => ?_)
           | refine ltS_intro (by first | assumption | decide | exact Nat.le_of_ble_eq_true rfl | omega) ?_
           | refine ixS_of rfl (by first | assumption | decide | omega) ?_
           | refine okS_intro (by first | assumption | kernel_rfl) ?_
           | refine call_pure (c85 F d _) ?_
           | intro _)
  all_goals (conv => whnf)
  all_goals refine ⟨?_, by repeat' (first | exact WkM.refl _ | refine WkM.drop ?_), by repeat' (first | exact Nat.le_refl _ | refine Nat.le_succ_of_le ?_)⟩
  all_goals ((first | rw [cmpI_lt ‹iLt x y = true›] | rw [cmpI_gt ‹iLt x y = false› ‹iLt y x = true›] | rw [cmpI_eq ‹iLt x y = false› ‹iLt y x = false›]))

/-- (f : a / b, o : c / e) -/
theorem c34 (F d : Nat) (a b c e : Int) (h1 : wr .i64 (Int.mul a e) = a * e) (h2 : wr .i64 (Int.mul c b) = c * b) : PureC (CL F (d + 3)) 34 [pt a b, pt c e] 2 (i64 (cmpI (a * e) (c * b))) := by
  intro m R
  refine call_in (n := 16) Try.func34 rfl rfl rfl rfl rfl rfl rfl ?_
  repeat' ((conv => whnf); first
           | refine eqS_rfl ?_
           | refine eqA_rfl ?_
           | refine eqA_of (by assumption) ?_
           | refine eqS_of (by rfl) ?_
           | refine seS_rfl ?_
           | refine brS_tt ?_
           | refine brS_ff ?_
           | refine brS_not ?_
           | refine brS_t (iEq_self _) ?_
           | refine brS_t (by assumption) ?_
           | refine brS_f (by assumption) ?_
           | refine brS_intro (fun _ => ?_) (fun _ => ?_)
           | refine ltS_intro (by first | assumption | decide | exact Nat.le_of_ble_eq_true rfl | omega) ?_
           | refine ixS_of rfl (by first | assumption | decide | omega) ?_
           | refine okS_intro (by first | assumption | kernel_rfl) ?_
           | refine call_pure (c64 F _ _ _) ?_
           | intro _)
  all_goals (conv => whnf)
  all_goals refine ⟨?_, by repeat' (first | exact WkM.refl _ | refine WkM.drop ?_), by repeat' (first | exact Nat.le_refl _ | refine Nat.le_succ_of_le ?_)⟩
  all_goals ((rw [← h1, ← h2]))

theorem c27 (F d : Nat) (a b c e : Int) (h1 : wr .i64 (Int.mul a e) = a * e) (h2 : wr .i64 (Int.mul c b) = c * b) : PureC (CL F (d + 1)) 27 [pt a b, pt c e] 2 (.bool (iLt (a * e) (c * b))) := by
  intro m R
  refine call_in (n := 16) Try.func27 rfl rfl rfl rfl rfl rfl rfl ?_
  repeat' ((conv => whnf); first
           | refine eqS_rfl ?_
           | refine eqA_rfl ?_
           | refine eqA_of (by assumption) ?_
           | refine eqS_of (by rfl) ?_
           | refine seS_rfl ?_
           | refine brS_tt ?_
           | refine brS_ff ?_
           | refine brS_not ?_
           | refine brS_t (iEq_self _) ?_
           | refine brS_t (by assumption) ?_
           | refine brS_f (by assumption) ?_
           | refine brS_intro (fun _ => ?_) (fun _ => ?_)
           | refine ltS_intro (by first | assumption | decide | exact Nat.le_of_ble_eq_true rfl | omega) ?_
           | refine ixS_of rfl (by first | assumption | decide | omega) ?_
           | refine okS_intro (by first | assumption | kernel_rfl) ?_
           | intro _)
  all_goals (conv => whnf)
  all_goals refine ⟨?_, by repeat' (first | exact WkM.refl _ | refine WkM.drop ?_), by repeat' (first | exact Nat.le_refl _ | refine Nat.le_succ_of_le ?_)⟩
  all_goals (first | (rw [← h1, ← h2]; done) | (rw [← h1, ← h2]; rfl))

theorem c28 (F d : Nat) (a b : Int) : PureC (CL F (d + 1)) 28 [i64 a, i64 b] 1 (pt a b) := by
  intro m R
  refine call_in (n := 8) Try.func28 rfl rfl rfl rfl rfl rfl rfl ?_
  repeat' ((conv => whnf); first
           | refine eqS_rfl ?_
           | refine eqA_rfl ?_
           | refine eqA_of (by assumption) ?_
           | refine eqS_of (by rfl) ?_
           | refine seS_rfl ?_
           | refine brS_tt ?_
           | refine brS_ff ?_
           | refine brS_not ?_
           | refine brS_t (iEq_self _) ?_
           | refine brS_t (by assumption) ?_
           | refine brS_f (by assumption) ?_
           | refine brS_intro (fun _ => ?_) (fun _ => ?_)
           | refine ltS_intro (by first | assumption | decide | exact Nat.le_of_ble_eq_true rfl | omega) ?_
           | refine ixS_of rfl (by first | assumption | decide | omega) ?_
           | refine okS_intro (by first | assumption | kernel_rfl) ?_
           | intro _)
  all_goals (conv => whnf)
  all_goals refine ⟨?_, by repeat' (first | exact WkM.refl _ | refine WkM.drop ?_), by repeat' (first | exact Nat.le_refl _ | refine Nat.le_succ_of_le ?_)⟩
  all_goals (rfl)

theorem c33 (F d : Nat) (a b : Int) : PureC (CL F (d + 1)) 33 [pt a b] 1 (.bool (decide ((0 ≤ a ∧ a ≤ 1000000) ∧ 1 ≤ b ∧ b ≤ 1000000))) := by
  intro m R
  refine call_in (n := 21) Try.func33 rfl rfl rfl rfl rfl rfl rfl ?_
  repeat' ((conv => whnf); first
           | refine eqS_rfl ?_
           | refine eqA_rfl ?_
           | refine eqA_of (by assumption) ?_
           | refine eqS_of (by rfl) ?_
           | refine seS_rfl ?_
           | refine brS_tt ?_
           | refine brS_ff ?_
           | refine brS_not ?_
           | refine brS_t (iEq_self _) ?_
           | refine brS_t (by assumption) ?_
           | refine brS_f (by assumption) ?_
           | refine brS_intro (fun _ => ?_) (fun _ => ?_)
           | refine ltS_intro (by first | assumption | decide | exact Nat.le_of_ble_eq_true rfl | omega) ?_
           | refine ixS_of rfl (by first | assumption | decide | omega) ?_
           | refine okS_intro (by first | assumption | kernel_rfl) ?_
           | intro _)
  all_goals (conv => whnf)
  all_goals refine ⟨?_, by repeat' (first | exact WkM.refl _ | refine WkM.drop ?_), by repeat' (first | exact Nat.le_refl _ | refine Nat.le_succ_of_le ?_)⟩
  all_goals ((simp only [iLt_eq, decide_eq_true_eq, decide_eq_false_iff_not] at *; refine congrArg Value.bool (Bool.eq_iff_iff.2 ?_); simp only [Bool.not_eq_true', decide_eq_true_eq, decide_eq_false_iff_not, Bool.false_eq_true, false_iff]; omega))

theorem c41 (F d : Nat) : PureC (CL F (d + 1)) 41 [] 1 (nb 0 1 1 0) := by
  intro m R
  refine call_in (n := 4) Try.func41 rfl rfl rfl rfl rfl rfl rfl ?_
  repeat' ((conv => whnf); first
           | refine eqS_rfl ?_
           | refine eqA_rfl ?_
           | refine eqA_of (by assumption) ?_
           | refine eqS_of (by rfl) ?_
           | refine seS_rfl ?_
           | refine brS_tt ?_
           | refine brS_ff ?_
           | refine brS_not ?_
           | refine brS_t (iEq_self _) ?_
           | refine brS_t (by assumption) ?_
           | refine brS_f (by assumption) ?_
           | refine brS_intro (fun _ => ?_) (fun _ => ?_)
           | refine ltS_intro (by first | assumption | decide | exact Nat.le_of_ble_eq_true rfl | omega) ?_
           | refine ixS_of rfl (by first | assumption | decide | omega) ?_
           | refine okS_intro (by first | assumption | kernel_rfl) ?_
           | intro _)
  all_goals (conv => whnf)
  all_goals refine ⟨?_, by repeat' (first | exact WkM.refl _ | refine WkM.drop ?_), by repeat' (first | exact Nat.le_refl _ | refine Nat.le_succ_of_le ?_)⟩
  all_goals (rfl)

theorem c67 (F d : Nat) (a b c e k : Int) (h1 : wr .i64 (Int.add a (wr .i64 (Int.mul k c))) = a + k * c) (h2 : wr .i64 (Int.add b (wr .i64 (Int.mul k e))) = b + k * e) : PureC (CL F (d + 1)) 67 [nb a b c e, i64 k] 2 (pt (a + k * c) (b + k * e)) := by
  intro m R
  refine call_in (n := 24) Try.func67 rfl rfl rfl rfl rfl rfl rfl ?_
  repeat' ((conv => whnf); first
           | refine eqS_rfl ?_
           | refine eqA_rfl ?_
           | refine eqA_of (by assumption) ?_
           | refine eqS_of (by rfl) ?_
           | refine seS_rfl ?_
           | refine brS_tt ?_
           | refine brS_ff ?_
           | refine brS_not ?_
           | refine brS_t (iEq_self _) ?_
           | refine brS_t (by assumption) ?_
           | refine brS_f (by assumption) ?_
           | refine brS_intro (fun _ => ?_) (fun _ => ?_)
           | refine ltS_intro (by first | assumption | decide | exact Nat.le_of_ble_eq_true rfl | omega) ?_
           | refine ixS_of rfl (by first | assumption | decide | omega) ?_
           | refine okS_intro (by first | assumption | kernel_rfl) ?_
           | intro _)
  all_goals (conv => whnf)
  all_goals refine ⟨?_, by repeat' (first | exact WkM.refl _ | refine WkM.drop ?_), by repeat' (first | exact Nat.le_refl _ | refine Nat.le_succ_of_le ?_)⟩
  all_goals (first | (rw [← h1, ← h2]; done) | (rw [← h1, ← h2]; rfl))

theorem c43 (F d : Nat) (a b c e : Int) (h1 : wr .i64 (Int.add a (wr .i64 (Int.mul 1 c))) = a + 1 * c) (h2 : wr .i64 (Int.add b (wr .i64 (Int.mul 1 e))) = b + 1 * e) : PureC (CL F (d + 2)) 43 [nb a b c e] 4 (pt (a + c) (b + e)) := by
  intro m R
  refine call_in (n := 5) Try.func43 rfl rfl rfl rfl rfl rfl rfl ?_
  repeat' ((conv => whnf); first
           | refine eqS_rfl ?_
           | refine eqA_rfl ?_
           | refine eqA_of (by assumption) ?_
           | refine eqS_of (by rfl) ?_
           | refine seS_rfl ?_
           | refine brS_tt ?_
           | refine brS_ff ?_
           | refine brS_not ?_
           | refine brS_t (iEq_self _) ?_
           | refine brS_t (by assumption) ?_
           | refine brS_f (by assumption) ?_
           | refine brS_intro (fun _ => ?_) (fun _ => ?_)
           | refine ltS_intro (by first | assumption | decide | exact Nat.le_of_ble_eq_true rfl | omega) ?_
           | refine ixS_of rfl (by first | assumption | decide | omega) ?_
           | refine okS_intro (by first | assumption | kernel_rfl) ?_
           | refine call_pure (c67 F _ _ _ _ _ _ h1 h2) ?_
           | intro _)
  all_goals (conv => whnf)
  all_goals refine ⟨?_, by repeat' (first | exact WkM.refl _ | refine WkM.drop ?_), by repeat' (first | exact Nat.le_refl _ | refine Nat.le_succ_of_le ?_)⟩
  all_goals ((rw [Int.one_mul, Int.one_mul]))

theorem c42 (F d : Nat) (a b c e k : Int) (h1 : wr .i64 (Int.add a (wr .i64 (Int.mul k c))) = a + k * c) (h2 : wr .i64 (Int.add b (wr .i64 (Int.mul k e))) = b + k * e) : PureC (CL F (d + 2)) 42 [nb a b c e, i64 k] 11 (nb c e (a + k * c) (b + k * e)) := by
  intro m R
  refine call_in (n := 11) Try.func42 rfl rfl rfl rfl rfl rfl rfl ?_
  repeat' ((conv => whnf); first
           | refine eqS_rfl ?_
           | refine eqA_rfl ?_
           | refine eqA_of (by assumption) ?_
           | refine eqS_of (by rfl) ?_
           | refine seS_rfl ?_
           | refine brS_tt ?_
           | refine brS_ff ?_
           | refine brS_not ?_
           | refine brS_t (iEq_self _) ?_
           | refine brS_t (by assumption) ?_
           | refine brS_f (by assumption) ?_
           | refine brS_intro (fun _ => ?_) (fun _ => ?_)
           | refine ltS_intro (by first | assumption | decide | exact Nat.le_of_ble_eq_true rfl | omega) ?_
           | refine ixS_of rfl (by first | assumption | decide | omega) ?_
           | refine okS_intro (by first | assumption | kernel_rfl) ?_
           | refine call_pure (c67 F _ _ _ _ _ _ h1 h2) ?_
           | intro _)
  all_goals (conv => whnf)
  all_goals refine ⟨?_, by repeat' (first | exact WkM.refl _ | refine WkM.drop ?_), by repeat' (first | exact Nat.le_refl _ | refine Nat.le_succ_of_le ?_)⟩
  all_goals (rfl)

end Go.Proofs.Ytildnbpdhkdddaa
namespace Go.Proofs.Ytildnbpdhkdddaa
open Go.Ab
attribute [local irreducible] aggOk drwOK
set_option maxRecDepth 100000
set_option maxHeartbeats 4000000
theorem lt_of_iLt {a b : Nat} (h : iLt (Int.ofNat a) (Int.ofNat b) = true) : a < b := by rw [iLt_eq] at h; simpa using h
theorem ge_of_iLt {a b : Nat} (h : iLt (Int.ofNat a) (Int.ofNat b) = false) : b ≤ a := by rw [iLt_eq] at h; simpa using h
theorem ilt_t {a b : Int} (h : iLt a b = true) : a < b := by rw [iLt_eq] at h; simpa using h
theorem ilt_f {a b : Int} (h : iLt a b = false) : b ≤ a := by rw [iLt_eq] at h; simpa using h
theorem ieq_t {a b : Int} (h : iEq a b = true) : a = b := by rw [iEq_eq] at h; simpa using h
theorem ieq_f {a b : Int} (h : iEq a b = false) : a ≠ b := by rw [iEq_eq] at h; simpa using h
theorem half_eq {a b : Nat} (h : a + b ≤ 4000000) : wr .i64 (shrV .u64 (wr .u64 (wr .i64 (Int.add (Int.ofNat a) (Int.ofNat b)))) 1) = Int.ofNat ((a + b) / 2) := by
  have e1 : wr .i64 (Int.add (Int.ofNat a) (Int.ofNat b)) = ((a + b : Nat) : Int) := wr_nat (i := a + b) (by omega)
  rw [e1, wr_u64 (by omega) (by omega)]
  have e2 : shrV .u64 ((a + b : Nat) : Int) 1 = (((a + b) / 2 : Nat) : Int) := by
    unfold shrV
    have : min 1 IntKind.u64.bits = 1 := rfl
    rw [this, Int.fdiv_eq_ediv_of_nonneg _ (by decide)]
    omega
  rw [e2]
  exact wr_nat (i := (a + b) / 2) (by omega)
/-- a function of a number below n that answers yes or no over some memory, and leaves it -/
def AskC (call : CallT) (fv : SV) (m : Mem) (N n : Nat) (p : Nat → Bool) : Prop := ∀ h, h < n → ValC call fv [.int .i64 (Int.ofNat h)] m N (.bool (p h))
theorem c65 (F d : Nat) (hF : 30 < F) (g : FuncId) (fs cs : List SV) (m : Mem) (p : Nat → Bool) (hf : AskC (CL F d) (.fn g fs cs) m 40 1000000 p) (R : Nat) :
    callS (CL F (d + 1)) (.fn 65 [] []) [i64 1000000, .fn g fs cs] m (addL R 900) 0 fun w m' R' _ => (∃ k : Nat, k ≤ 1000000 ∧ den w = .int .i64 (Int.ofNat k) ∧ (k = 0 ∨ p (k - 1) = false) ∧ (k = 1000000 ∨ p k = true)) ∧ WkM m' m ∧ R ≤ R' := by
  refine call_in (n := 26) Try.func65 rfl rfl rfl rfl rfl rfl rfl ?_
  repeat' ((conv => whnf); first
           | refine eqS_rfl ?_
           | refine eqA_rfl ?_
           | refine eqA_of (by assumption) ?_
           | refine eqS_of (by rfl) ?_
           | refine seS_rfl ?_
           | refine brS_tt ?_
           | refine brS_ff ?_
           | refine brS_not ?_
           | refine brS_t (iEq_self _) ?_
           | refine brS_t (by assumption) ?_
           | refine brS_f (by assumption) ?_
           | refine brS_intro (fun _ => ?_) (fun _ => ?_)
           | refine ltS_intro (by first | assumption | decide | exact Nat.le_of_ble_eq_true rfl | omega) ?_
           | refine ixS_of rfl (by first | assumption | decide | omega) ?_
           | refine okS_intro (by first | assumption | kernel_rfl) ?_
           | intro _)
  conv => whnf
  refine loS_i (fun j f m' R' ni => ∃ a b u : Nat, j = u + 1 ∧ a ≤ b ∧ b ≤ 1000000 ∧ b - a < 2 ^ u ∧ (a = 0 ∨ p (a - 1) = false) ∧ (b = 1000000 ∨ p b = true) ∧ f = [(1, .fn g fs cs), (5, .int .i64 (Int.ofNat a)), (6, .int .i64 (Int.ofNat b))] ∧ m' = m ∧ R' = addL (R + 40 * u) 40 ∧ ni = 0) 21 (by omega)
    ⟨[(1, .fn g fs cs), (5, .int .i64 (Int.ofNat 0)), (6, .int .i64 (Int.ofNat 1000000))], m, addL (R + 40 * 20) 40, 0, ⟨eqF_rfl _, eqF_rfl _, eqF_rfl _, trivial⟩, WkM.refl _, ?_, 0, 1000000, 20, rfl, by omega, by omega, by decide, .inl rfl, .inl rfl, rfl, rfl, rfl, rfl⟩ ?_
  · show addL _ _ ≤ addL R 900
    rw [addL_eq, addL_eq]; omega
  · rintro j _ _ _ _ ⟨a, b, u, rfl, hab, hb, hu, ha0, hb0, rfl, rfl, rfl, rfl⟩
    repeat' ((conv => whnf); first
             | refine eqS_rfl ?_
             | refine eqA_rfl ?_
             | refine eqA_of (by assumption) ?_
             | refine eqS_of (by rfl) ?_
             | refine seS_rfl ?_
             | refine brS_tt ?_
             | refine brS_ff ?_
             | refine brS_not ?_
             | refine brS_t (iEq_self _) ?_
             | refine brS_t (by assumption) ?_
             | refine brS_f (by assumption) ?_
             | refine brS_intro (fun _ => ?_) (fun _ => ?_)
             | refine ltS_intro (by first | assumption | decide | exact Nat.le_of_ble_eq_true rfl | omega) ?_
             | refine ixS_of rfl (by first | assumption | decide | omega) ?_
             | refine okS_intro (by first | assumption | kernel_rfl) ?_
             | intro _)
    · conv => whnf
      have hlt := lt_of_iLt ‹iLt (Int.ofNat a) (Int.ofNat b) = true›
      have hu1 : ∃ v, u = v + 1 := by
        cases u with
        | zero => simp at hu; omega
        | succ v => exact ⟨v, rfl⟩
      obtain ⟨v, rfl⟩ := hu1
      have h2 : (2 : Nat) ^ (v + 1) = 2 * 2 ^ v := by rw [Nat.pow_succ, Nat.mul_comm]
      refine callS.cast (fv' := .fn g fs cs) (args' := [.int .i64 (Int.ofNat ((a + b) / 2))]) rfl (congrArg (fun x => [Value.int .i64 x]) (half_eq (by omega))) ?_
      refine call_val (hf _ (by omega)) (takeR_add (N := 40) ?_)
      repeat' ((conv => whnf); first
               | refine eqS_rfl ?_
               | refine eqA_rfl ?_
               | refine eqA_of (by assumption) ?_
               | refine eqS_of (by rfl) ?_
               | refine seS_rfl ?_
               | refine brS_tt ?_
               | refine brS_ff ?_
               | refine brS_not ?_
               | refine brS_t (iEq_self _) ?_
               | refine brS_t (by assumption) ?_
               | refine brS_f (by assumption) ?_
               | refine brS_intro (fun _ => ?_) (fun _ => ?_)
               | refine ltS_intro (by first | assumption | decide | exact Nat.le_of_ble_eq_true rfl | omega) ?_
               | refine ixS_of rfl (by first | assumption | decide | omega) ?_
               | refine okS_intro (by first | assumption | kernel_rfl) ?_
               | intro _)
      all_goals conv => whnf
      · refine ⟨v + 1, [(1, .fn g fs cs), (5, .int .i64 (Int.ofNat a)), (6, .int .i64 (wr .i64 (shrV .u64 (wr .u64 (wr .i64 (Int.add (Int.ofNat a) (Int.ofNat b)))) 1)))], _, addL (R + 40 * v) 40, 0, by omega, ⟨eqF_rfl _, eqF_rfl _, eqF_rfl _, trivial⟩, WkM.refl _, Nat.le_refl _, a, (a + b) / 2, v, rfl, by omega, by omega, by omega, ha0, .inr (by assumption), ?_, rfl, rfl, rfl⟩
        rw [half_eq (by omega)]
      · refine ⟨v + 1, [(1, .fn g fs cs), (5, .int .i64 (wr .i64 (Int.add (wr .i64 (shrV .u64 (wr .u64 (wr .i64 (Int.add (Int.ofNat a) (Int.ofNat b)))) 1)) 1))), (6, .int .i64 (Int.ofNat b))], _, addL (R + 40 * v) 40, 0, by omega, ⟨eqF_rfl _, eqF_rfl _, eqF_rfl _, trivial⟩, WkM.refl _, Nat.le_refl _, (a + b) / 2 + 1, b, v, rfl, by omega, hb, by omega, .inr (by rw [Nat.add_sub_cancel]; assumption), hb0, ?_, rfl, rfl, rfl⟩
        rw [half_eq (by omega), show wr .i64 (Int.add (Int.ofNat ((a + b) / 2)) 1) = Int.ofNat ((a + b) / 2 + 1) from wr_nat (i := (a + b) / 2 + 1) (by omega)]
    · conv => whnf
      have hge := ge_of_iLt ‹iLt (Int.ofNat a) (Int.ofNat b) = false›
      have e : a = b := by omega
      exact ⟨⟨a, by omega, rfl, ha0, by rw [e]; exact hb0⟩, WkM.refl _, by show R ≤ addL _ _; rw [addL_eq]; omega⟩
end Go.Proofs.Ytildnbpdhkdddaa
namespace Go.Proofs.Ytildnbpdhkdddaa
open Go.Ab
attribute [local irreducible] aggOk drwOK
set_option maxRecDepth 100000
set_option maxHeartbeats 4000000
theorem sb_gt {a b c d p q : Int} (h : c * b - a * d = 1) (hb : 0 ≤ b) (hd : 0 ≤ d) (ha : 0 ≤ a) (hc : 0 ≤ c) (h1 : a * q < p * b) (h2 : p * d < c * q) : b + d ≤ q ∧ a + c ≤ p := by
  have e1 : b * (c * q - p * d) + d * (p * b - a * q) = q * (c * b - a * d) := by grind
  have e2 : a * (c * q - p * d) + c * (p * b - a * q) = p * (c * b - a * d) := by grind
  rw [h, Int.mul_one] at e1 e2
  have g1 : b * 1 ≤ b * (c * q - p * d) := Int.mul_le_mul_of_nonneg_left (by omega) hb
  have g2 : d * 1 ≤ d * (p * b - a * q) := Int.mul_le_mul_of_nonneg_left (by omega) hd
  have g3 : a * 1 ≤ a * (c * q - p * d) := Int.mul_le_mul_of_nonneg_left (by omega) ha
  have g4 : c * 1 ≤ c * (p * b - a * q) := Int.mul_le_mul_of_nonneg_left (by omega) hc
  omega
/-- neighbours, with p / q strictly between them: the one that moves, the other one; side 1: the lower one moves -/
structure Geo (mn md sn sd side p q : Int) : Prop where
  a : 0 ≤ mn
  b : 0 ≤ md
  c : 0 ≤ sn
  d : 0 ≤ sd
  s : (side = 1 ∧ sn * md - mn * sd = 1 ∧ mn * q < p * md ∧ p * sd < sn * q) ∨ (side = -1 ∧ mn * sd - sn * md = 1 ∧ sn * q < p * sd ∧ p * md < mn * q)
theorem Geo.le {mn md sn sd side p q : Int} (h : Geo mn md sn sd side p q) : md + sd ≤ q ∧ mn + sn ≤ p := by
  obtain ⟨a, b, c, d, s⟩ := h
  rcases s with ⟨_, e, h1, h2⟩ | ⟨_, e, h1, h2⟩
  · exact sb_gt e b d a c h1 h2
  · have := sb_gt e d b c a h1 h2
    omega
theorem Geo.pos {mn md sn sd side p q : Int} (h : Geo mn md sn sd side p q) : 1 ≤ sn + sd := by
  obtain ⟨a, b, c, d, s⟩ := h
  by_cases h0 : sn = 0 ∧ sd = 0
  · obtain ⟨rfl, rfl⟩ := h0
    simp at s
  · omega
theorem Geo.start {p q : Int} (hp : 1 ≤ p) (hq : 1 ≤ q) : Geo 0 1 1 0 1 p q := ⟨by omega, by omega, by omega, by omega, .inl ⟨rfl, by decide, by omega, by omega⟩⟩
/-- the end of a run -/
theorem Geo.step {tw : Int → Int → Int} {p q : Int} (H1 : ∀ a b, 0 ≤ a → 0 ≤ b → tw a b = 1 → a * q < p * b) (H2 : ∀ a b, 0 ≤ a → 0 ≤ b → tw a b = -1 → p * b < a * q) {mn md sn sd side : Int} (h : Geo mn md sn sd side p q) {k : Nat} (hk : k = 0 ∨ tw (mn + k * sn) (md + k * sd) = side) :
    Geo sn sd (mn + k * sn) (md + k * sd) (-side) p q := by
  have g1 : 0 ≤ (k : Int) * sn := Int.mul_nonneg (by omega) h.c
  have g2 : 0 ≤ (k : Int) * sd := Int.mul_nonneg (by omega) h.d
  have ha := h.a
  have hb := h.b
  refine ⟨h.c, h.d, by omega, by omega, ?_⟩
  rcases h.s with ⟨rfl, e, h1, h2⟩ | ⟨rfl, e, h1, h2⟩
  · refine .inr ⟨rfl, by grind, ?_, h2⟩
    rcases hk with rfl | hk
    · simpa using h1
    · exact H1 _ _ (by omega) (by omega) hk
  · refine .inl ⟨rfl, by grind, h1, ?_⟩
    rcases hk with rfl | hk
    · simpa using h2
    · exact H2 _ _ (by omega) (by omega) hk
/-- how a walk has come to its neighbours: its runs -/
inductive Rch (tw : Int → Int → Int) : List Int → Int → Int → Int → Int → Int → Prop
  | start : Rch tw [] 0 1 1 0 1
  | step {rs : List Int} {mn md sn sd side : Int} (k : Nat) : Rch tw rs mn md sn sd side → tw (mn + sn) (md + sd) ≠ 0 → (k = 0 ∨ tw (mn + k * sn) (md + k * sd) = side) → tw (mn + (k + 1) * sn) (md + (k + 1) * sd) ≠ side → Rch tw (rs ++ [(k : Int)]) sn sd (mn + k * sn) (md + k * sd) (-side)
theorem Rch.geo {tw : Int → Int → Int} {p q : Int} (H1 : ∀ a b, 0 ≤ a → 0 ≤ b → tw a b = 1 → a * q < p * b) (H2 : ∀ a b, 0 ≤ a → 0 ≤ b → tw a b = -1 → p * b < a * q) (hp : 1 ≤ p) (hq : 1 ≤ q) {rs : List Int} {mn md sn sd side : Int} (h : Rch tw rs mn md sn sd side) : Geo mn md sn sd side p q := by
  induction h with
  | start => exact .start hp hq
  | step k _ _ h1 _ ih => exact ih.step H1 H2 h1
theorem W_step {T S T' S' : Int} (hT : 0 ≤ T) (hS : 0 ≤ S) (h1 : T + S ≤ T') (h2 : T ≤ S') : 2 * (T * (T + S)) ≤ T' * (T' + S') := by
  have a1 : (T + S) * (2 * T + S) ≤ T' * (T' + S') := Int.mul_le_mul h1 (by omega) (by omega) (by omega)
  have a2 : 0 ≤ (T + S) * S := Int.mul_nonneg (by omega) hS
  have a3 : (T + S) * (2 * T + S) = 2 * (T * (T + S)) + (T + S) * S := by grind
  omega
theorem mv_wr {a k c : Int} (ha : 0 ≤ a ∧ a ≤ 1000000) (hk : 0 ≤ k ∧ k ≤ 1000001) (hc : 0 ≤ c ∧ c ≤ 1000000) : wr .i64 (Int.add a (wr .i64 (Int.mul k c))) = a + k * c := by
  have ba : Bd a 1000000 := Bd.of (by omega) (by omega)
  have bk : Bd k 1000001 := Bd.of (by omega) (by omega)
  have bc : Bd c 1000000 := Bd.of (by omega) (by omega)
  exact wr_add rfl (wr_mul rfl rfl bk bc (by decide)) ba (bk.mul bc) (by decide)
theorem mul_le_big {k c : Int} (hk : 0 ≤ k ∧ k ≤ 1000001) (hc : 0 ≤ c ∧ c ≤ 1000000) : 0 ≤ k * c ∧ k * c ≤ 1000001000000 :=
  ⟨Int.mul_nonneg hk.1 hc.1, Int.le_trans (Int.mul_le_mul hk.2 hc.2 hc.1 (by decide)) (by decide)⟩
abbrev BB : Int := 1000002000000
/-- a function value that tells which way a fraction leads, over some memory -/
def TowC (call : CallT) (fv : SV) (m0 : Mem) (tw : Int → Int → Int) : Prop := ∀ a b, 0 ≤ a → a ≤ BB → 0 ≤ b → b ≤ BB → ∀ m, SeesM m m0 → ValC call fv [pt a b] m 6 (i64 (tw a b))
theorem wr_succ {h : Nat} (hh : h < 1000000) : wr .i64 (Int.add (Int.ofNat h) 1) = (h : Int) + 1 := wr_nat (i := h + 1) (by omega)
theorem grow_get {n : Nat} {gf : Nat → List SV} {rs : List Int} (hn : n = rs.length) (h : ∀ j, j < n → gf j = [i64 (rs.getD j 0)]) (k : Int) : ∀ j, j < n + 1 → grow n 1 gf [i64 k] j = [i64 ((rs ++ [k]).getD j 0)] := by
  intro j hj
  unfold grow
  by_cases hlt : j < n
  · rw [blt_of hlt]
    simp only [cond_true]
    rw [h j hlt]
    simp [List.getD_eq_getElem?_getD, List.getElem?_append_left (show j < rs.length by omega)]
  · have e : j = n := by omega
    subst e
    have : Nat.blt j j = false := by
      cases hb : Nat.blt j j with
      | false => rfl
      | true => have := blt_true hb; omega
    rw [this]
    simp only [cond_false]
    rw [show Nat.mul (Nat.sub j j) 1 = 0 by rw [show Nat.sub j j = 0 from Nat.sub_self j]]
    simp [List.getD_eq_getElem?_getD, hn]
end Go.Proofs.Ytildnbpdhkdddaa
namespace Go.Proofs.Ytildnbpdhkdddaa
open Go.Ab
attribute [local irreducible] aggOk drwOK
set_option maxRecDepth 100000
set_option maxHeartbeats 4000000
section
variable (F d : Nat) (g : FuncId) (fs cs : List SV) (m0 mt : Mem) (tw : Int → Int → Int)
abbrev wm (g : FuncId) (fs cs : List SV) (b1 b2 b3 : Nat) (e2 e3 : Ent) (mn md sn sd side : Int) (mt : Mem) : Mem := (5, .own b3 3 [i64 side]) :: (2, e2) :: (4, .own b2 79 [i64 mn, i64 md, i64 sn, i64 sd]) :: (3, e3) :: (1, .own b1 74 [.fn g fs cs]) :: mt
theorem c66 (hv : vqS (.fn g fs cs) = true) (HT : ∀ e, TowC (CL F (e + 4)) (.fn g fs cs) m0 tw) (hs : SeesM mt m0) (mn md sn sd side : Int) (hmn : 0 ≤ mn ∧ mn ≤ 1000000) (hmd : 0 ≤ md ∧ md ≤ 1000000) (hsn : 0 ≤ sn ∧ sn ≤ 1000000) (hsd : 0 ≤ sd ∧ sd ≤ 1000000) (b1 b2 b3 : Nat) (e2 e3 : Ent) :
    AskC (CL F (d + 6)) (.fn 66 [] [.ptr 1 b1 0, .ptr 4 b2 0, .ptr 5 b3 0]) (wm g fs cs b1 b2 b3 e2 e3 mn md sn sd side mt) 40 1000000 (fun h => !iEq (tw (mn + ((h : Int) + 1) * sn) (md + ((h : Int) + 1) * sd)) side) := by
  intro h hh R
  have hk : 0 ≤ (h : Int) + 1 ∧ (h : Int) + 1 ≤ 1000001 := by omega
  have p1 := mul_le_big hk hsn
  have p2 := mul_le_big hk hsd
  have q1 : 0 ≤ mn + ((h : Int) + 1) * sn := by omega
  have q2 : mn + ((h : Int) + 1) * sn ≤ BB := by show _ ≤ (1000002000000 : Int); omega
  have q3 : 0 ≤ md + ((h : Int) + 1) * sd := by omega
  have q4 : md + ((h : Int) + 1) * sd ≤ BB := by show _ ≤ (1000002000000 : Int); omega
  refine call_in (n := 14) Try.func66 rfl rfl rfl rfl rfl rfl rfl ?_
  repeat' ((conv => whnf); first
           | refine eqS_rfl ?_
           | refine eqA_rfl ?_
           | refine eqA_of (by assumption) ?_
           | refine eqS_of (by rfl) ?_
           | refine seS_rfl ?_
           | refine brS_tt ?_
           | refine brS_ff ?_
           | refine brS_not ?_
           | refine brS_t (iEq_self _) ?_
           | refine brS_t (by assumption) ?_
           | refine brS_f (by assumption) ?_
           | refine brS_intro (fun _ => ?_) (fun _ => ?_)
           | refine ltS_intro (by first | assumption | decide | exact Nat.le_of_ble_eq_true rfl | omega) ?_
           | refine ixS_of rfl (by first | assumption | decide | omega) ?_
           | refine okS_intro (by first | assumption | kernel_rfl) ?_
           | refine (callS.cast (args' := [nb mn md sn sd, i64 ((h : Int) + 1)]) rfl (congrArg (fun x => [Value.agg ⟨[.int .i64 mn, .int .i64 md, .int .i64 sn, .int .i64 sd]⟩, Value.int .i64 x]) (wr_succ hh)) (call_pure (c67 F _ _ _ _ _ _ (mv_wr hmn hk hsn) (mv_wr hmd hk hsd)) ?_))
           | refine call_val (HT _ _ _ (by assumption) (by assumption) (by assumption) (by assumption) _ (by repeat' (first | assumption | refine SeesM.push _ ?_))) ?_
           | intro _)
  all_goals (conv => whnf)
  exact ⟨rfl, WkM.refl _, by repeat' (first | exact Nat.le_refl _ | refine Nat.le_succ_of_le ?_)⟩
end
end Go.Proofs.Ytildnbpdhkdddaa
namespace Go.Proofs.Ytildnbpdhkdddaa
open Go.Ab
attribute [local irreducible] aggOk drwOK
set_option maxRecDepth 100000
set_option maxHeartbeats 4000000
section
variable (F d : Nat) (g : FuncId) (fs cs : List SV) (m0 mt : Mem) (tw : Int → Int → Int) (P Q : Int)
/-- what holds when so many rounds may follow -/
structure WI (tw : Int → Int → Int) (P Q : Int) (j : Nat) (rs : List Int) (mn md sn sd side : Int) : Prop where
  rch : Rch tw rs mn md sn sd side
  geo : Geo mn md sn sd side P Q
  ex : ∃ u fl : Nat, j = (45 - u) + fl ∧ u ≤ 44 ∧ fl ≤ 1 ∧ (2 : Int) ^ u ≤ (mn + sn + md + sd) * (mn + sn + md + sd + (sn + sd)) ∧ ((fl = 1 ∧ mn = 0 ∧ md = 1 ∧ sn = 1 ∧ sd = 0) ∨ (fl = 0 ∧ tw (mn + sn) (md + sd) ≠ -side))
  len : rs.length + j ≤ 60
theorem WI.start (hP : 1 ≤ P) (hQ : 1 ≤ Q) : WI tw P Q 45 [] 0 1 1 0 1 := ⟨.start, .start hP hQ, ⟨1, 1, rfl, by omega, by omega, by decide, .inl ⟨rfl, rfl, rfl, rfl, rfl⟩⟩, by decide⟩
theorem WI.bd {tw : Int → Int → Int} {P Q : Int} {j : Nat} {rs : List Int} {mn md sn sd side : Int} (hP : P ≤ 1000000) (hQ : Q ≤ 1000000) (h : WI tw P Q j rs mn md sn sd side) :
    (0 ≤ mn ∧ mn ≤ 1000000) ∧ (0 ≤ md ∧ md ≤ 1000000) ∧ (0 ≤ sn ∧ sn ≤ 1000000) ∧ (0 ≤ sd ∧ sd ≤ 1000000) ∧ mn + sn ≤ 1000000 ∧ md + sd ≤ 1000000 := by
  have h1 := h.geo.le
  have ha := h.geo.a
  have hb := h.geo.b
  have hc := h.geo.c
  have hd := h.geo.d
  omega
theorem pow_gap {u : Nat} (h : (2 : Int) ^ u ≤ 2000000 * 4000000) : u ≤ 42 := by
  by_cases hu : u ≤ 42
  · exact hu
  · exfalso
    have h1 : (2 : Int) ^ 43 ≤ 2 ^ u := by
      obtain ⟨v, rfl⟩ : ∃ v, u = 43 + v := ⟨u - 43, by omega⟩
      rw [Int.pow_add]
      have : (1 : Int) ≤ 2 ^ v := Int.pow_pos (by decide)
      have := Int.mul_le_mul_of_nonneg_left this (show (0 : Int) ≤ 2 ^ 43 by decide)
      omega
    have : (2 : Int) ^ 43 ≤ 2000000 * 4000000 := Int.le_trans h1 h
    exact absurd this (by decide)
/-- one run -/
theorem WI.step {tw : Int → Int → Int} {P Q : Int} (H1 : ∀ a b, 0 ≤ a → 0 ≤ b → tw a b = 1 → a * Q < P * b) (H2 : ∀ a b, 0 ≤ a → 0 ≤ b → tw a b = -1 → P * b < a * Q) (H3 : ∀ a b, tw a b = 1 ∨ tw a b = -1 ∨ tw a b = 0) (hP : P ≤ 1000000) (hQ : Q ≤ 1000000)
    {j : Nat} {rs : List Int} {mn md sn sd side : Int} (h : WI tw P Q j rs mn md sn sd side) (h0 : tw (mn + sn) (md + sd) ≠ 0) {k : Nat} (hk : k ≤ 1000000) (hk1 : k = 0 ∨ tw (mn + k * sn) (md + k * sd) = side) (hk2 : k = 1000000 ∨ tw (mn + (k + 1) * sn) (md + (k + 1) * sd) ≠ side) :
    k < 1000000 ∧ ∃ j', j' < j ∧ WI tw P Q j' (rs ++ [(k : Int)]) sn sd (mn + k * sn) (md + k * sd) (-side) := by
  have hb := h.bd hP hQ
  have hpos := h.geo.pos
  have g2 := h.geo.step H1 H2 hk1
  have hl := g2.le
  have k1 : 0 ≤ (k : Int) * sn := Int.mul_nonneg (by omega) h.geo.c
  have k2 : 0 ≤ (k : Int) * sd := Int.mul_nonneg (by omega) h.geo.d
  have hklt : k < 1000000 := by
    rcases Nat.lt_or_ge k 1000000 with h | h
    · exact h
    · exfalso
      have e : k = 1000000 := by omega
      subst e
      have : (1000000 : Int) * sn = ((1000000 : Nat) : Int) * sn := rfl
      omega
  have hk2 : tw (mn + (k + 1) * sn) (md + (k + 1) * sd) ≠ side := hk2.resolve_left (by omega)
  refine ⟨hklt, ?_⟩
  obtain ⟨u, fl, rfl, hu, hfl, hw, hf⟩ := h.ex
  have hT : mn + sn + md + sd ≤ 2000000 := by omega
  have hS : sn + sd ≤ 2000000 := by omega
  have hu2 : u ≤ 42 := pow_gap (Int.le_trans hw (Int.mul_le_mul hT (by omega) (by omega) (by decide)))
  have e1 : (sn + (mn + (k : Int) * sn)) = mn + (k + 1) * sn := by grind
  have e2 : (sd + (md + (k : Int) * sd)) = md + (k + 1) * sd := by grind
  have hf' : tw (sn + (mn + (k : Int) * sn)) (sd + (md + (k : Int) * sd)) ≠ -(-side) := by rw [e1, e2, Int.neg_neg]; exact hk2
  by_cases hk0 : k = 0
  · subst hk0
    have hfl1 : fl = 1 ∧ mn = 0 ∧ md = 1 ∧ sn = 1 ∧ sd = 0 := by
      rcases hf with hf | ⟨_, hf⟩
      · exact hf
      · exfalso
        have e3 : mn + (((0 : Nat) : Int) + 1) * sn = mn + sn := by grind
        have e4 : md + (((0 : Nat) : Int) + 1) * sd = md + sd := by grind
        rw [e3, e4] at hk2
        have hs : side = 1 ∨ side = -1 := h.geo.s.imp (fun h => h.1) (fun h => h.1)
        rcases H3 (mn + sn) (md + sd) with h | h | h <;> rcases hs with rfl | rfl <;> simp_all
    obtain ⟨rfl, rfl, rfl, rfl, rfl⟩ := hfl1
    exact ⟨(45 - u) + 0, by omega, .step 0 h.rch h0 hk1 hk2, g2, ⟨u, 0, rfl, hu, by omega, hw, .inr ⟨rfl, hf'⟩⟩, by have := h.len; rw [List.length_append, List.length_singleton]; omega⟩
  · have k3 : 1 * sn ≤ (k : Int) * sn := Int.mul_le_mul_of_nonneg_right (by omega) h.geo.c
    have k4 : 1 * sd ≤ (k : Int) * sd := Int.mul_le_mul_of_nonneg_right (by omega) h.geo.d
    refine ⟨(45 - (u + 1)) + 0, by omega, .step k h.rch h0 hk1 hk2, g2, ⟨u + 1, 0, rfl, by omega, by omega, ?_, .inr ⟨rfl, hf'⟩⟩, by have := h.len; rw [List.length_append, List.length_singleton]; omega⟩
    have := W_step (T := mn + sn + md + sd) (S := sn + sd) (T' := sn + (mn + (k : Int) * sn) + sd + (md + (k : Int) * sd)) (S' := (mn + (k : Int) * sn) + (md + (k : Int) * sd)) (by omega) (by omega) (by omega) (by omega)
    rw [Int.pow_succ]
    omega
end
end Go.Proofs.Ytildnbpdhkdddaa
namespace Go.Proofs.Ytildnbpdhkdddaa
open Go.Ab
attribute [local irreducible] aggOk drwOK
set_option maxRecDepth 100000
set_option maxHeartbeats 4000000
theorem call_search {F d : Nat} (hF : 30 < F) {g : FuncId} {fs cs : List SV} {m : Mem} {p : Nat → Bool} (hf : AskC (CL F d) (.fn g fs cs) m 40 1000000 p) {R ni : Nat} {K : SV → Mem → Nat → Nat → Prop}
    (hK : takeR 900 R fun R => ∀ k : Nat, k ≤ 1000000 → (k = 0 ∨ p (k - 1) = false) → (k = 1000000 ∨ p k = true) → K (.int .i64 (k : Int)) m R ni) : callS (CL F (d + 1)) (.fn 65 [] []) [i64 1000000, .fn g fs cs] m R ni K := by
  obtain ⟨hR, hK⟩ := takeR_inv hK
  have h1 := c65 F d hF g fs cs m p hf (R - 900)
  rw [addL_eq, Nat.sub_add_cancel hR] at h1
  refine call_post h1 fun w m' R' n' hq => ?_
  obtain ⟨⟨k, h1, h2, h3, h4⟩, h5, h6⟩ := hq
  exact ⟨.int .i64 (k : Int), m, R - 900, ni, h2, h5, h6, hK k h1 h3 h4⟩
theorem c35 (F d : Nat) (hF : 100 < F) (g : FuncId) (fs cs : List SV) (m0 mt : Mem) (tw : Int → Int → Int) (P Q : Int) (hv : vqS (.fn g fs cs) = true) (HT : ∀ e, TowC (CL F (e + 4)) (.fn g fs cs) m0 tw) (hs : SeesM mt m0)
    (H1 : ∀ a b, 0 ≤ a → 0 ≤ b → tw a b = 1 → a * Q < P * b) (H2 : ∀ a b, 0 ≤ a → 0 ≤ b → tw a b = -1 → P * b < a * Q) (H3 : ∀ a b, tw a b = 1 ∨ tw a b = -1 ∨ tw a b = 0) (hP1 : 1 ≤ P) (hP : P ≤ 1000000) (hQ1 : 1 ≤ Q) (hQ : Q ≤ 1000000) (R : Nat) :
    callS (CL F (d + 8)) (.fn 35 [] []) [.fn g fs cs] mt (addL R 48000) 0 fun w m' R' _ => ∃ (rs : List Int) (mn md sn sd side : Int) (a : Option Addr) (n : Nat) (gf : Nat → List SV), n = rs.length ∧ n ≤ 60 ∧ (∀ j, j < n → gf j = [i64 (rs.getD j 0)]) ∧ Rch tw rs mn md sn sd side ∧ Geo mn md sn sd side P Q ∧ tw (mn + sn) (md + sd) = 0 ∧
      den w = .tuple ⟨[.slice a n n, .agg ⟨[.int .i64 (mn + sn), .int .i64 (md + sd)]⟩]⟩ ∧ WkM m' ((100, .gr a n 3 1 gf) :: mt) ∧ R ≤ R' := by
  refine call_in (n := 28) Try.func35 rfl rfl rfl rfl rfl rfl rfl ?_
  repeat' ((conv => whnf); first
           | refine eqS_rfl ?_
           | refine eqA_rfl ?_
           | refine eqA_of (by assumption) ?_
           | refine eqS_of (by rfl) ?_
           | refine seS_rfl ?_
           | refine brS_tt ?_
           | refine brS_ff ?_
           | refine brS_not ?_
           | refine brS_t (iEq_self _) ?_
           | refine brS_t (by assumption) ?_
           | refine brS_f (by assumption) ?_
           | refine brS_intro (fun _ => ?_) (fun _ => ?_)
           | refine ltS_intro (by first | assumption | decide | exact Nat.le_of_ble_eq_true rfl | omega) ?_
           | refine ixS_of rfl (by first | assumption | decide | omega) ?_
           | refine okS_intro (by first | assumption | kernel_rfl) ?_
           | refine call_pure (c41 F _) ?_
           | intro _)
  conv => whnf
  rename_i b1 b3 b4 b5
  refine loS_i (fun j f m' R' ni => ∃ (rs : List Int) (mn md sn sd side : Int) (a : Option Addr) (n : Nat) (gf : Nat → List SV) (b1 b3 b4 b5 : Nat), WI tw P Q j rs mn md sn sd side ∧ n = rs.length ∧ (∀ j, j < n → gf j = [i64 (rs.getD j 0)]) ∧
    f = [(1, .ptr 1 b1 0), (2, .sl 2 a n n), (3, .ptr 3 b3 0), (4, .ptr 4 b4 0), (5, .ptr 5 b5 0)] ∧ m' = wm g fs cs b1 b4 b5 (.gr a n 3 1 gf) (.own b3 73 [i64 0, i64 0]) mn md sn sd side mt ∧ R' = addL (R + 960 * j) 960 ∧ ni = 200) 45 (by omega)
    ⟨[(1, .ptr 1 b1 0), (2, .sl 2 none 0 0), (3, .ptr 3 b3 0), (4, .ptr 4 b4 0), (5, .ptr 5 b5 0)], wm g fs cs b1 b4 b5 (.gr none 0 3 1 fun _ => []) (.own b3 73 [i64 0, i64 0]) 0 1 1 0 1 mt, addL (R + 960 * 45) 960, 200, ⟨⟨rfl, rfl⟩, ⟨rfl, rfl⟩, ⟨rfl, rfl⟩, ⟨rfl, rfl⟩, ⟨rfl, rfl⟩, trivial⟩, WkM.swapR (WkM.gr0 (WkM.sub (.refl _))), ?_,
      [], 0, 1, 1, 0, 1, none, 0, _, b1, b3, b4, b5, WI.start tw P Q hP1 hQ1, rfl, fun j hj => absurd hj (Nat.not_lt_zero _), rfl, rfl, rfl, rfl⟩ ?_
  · show addL _ _ ≤ addL R 47995
    rw [addL_eq, addL_eq]; omega
  · rintro j _ _ _ _ ⟨rs, mn, md, sn, sd, side, a, n, gf, b1, b3, b4, b5, hI, hn, hg, rfl, rfl, rfl, rfl⟩
    obtain ⟨hmn, hmd, hsn, hsd, hs1, hs2⟩ := hI.bd hP hQ
    have hn60 : n ≤ 60 := by have := hI.len; omega
    repeat' ((conv => whnf); first
             | refine eqS_rfl ?_
             | refine eqA_rfl ?_
             | refine eqA_of (by assumption) ?_
             | refine eqS_of (by rfl) ?_
             | refine seS_rfl ?_
             | refine brS_tt ?_
             | refine brS_ff ?_
             | refine brS_not ?_
             | refine brS_t (iEq_self _) ?_
             | refine brS_t (by assumption) ?_
             | refine brS_f (by assumption) ?_
             | refine brS_intro (fun _ => ?_) (fun _ => ?_)
             | refine ltS_intro (by first | assumption | decide | exact Nat.le_of_ble_eq_true rfl | omega) ?_
             | refine ixS_of rfl (by first | assumption | decide | omega) ?_
             | refine okS_intro (by first | assumption | kernel_rfl) ?_
             | refine call_pure (c43 F _ _ _ _ _ (mv_wr (by omega) (by omega) (by omega)) (mv_wr (by omega) (by omega) (by omega))) ?_
             | refine call_val (HT _ _ _ (by omega) (by show _ ≤ (1000002000000 : Int); omega) (by omega) (by show _ ≤ (1000002000000 : Int); omega) _ (by repeat' (first | assumption | refine SeesM.push _ ?_))) ?_
             | refine call_search (by omega) (c66 F _ _ _ _ _ _ _ hv HT hs _ _ _ _ _ hmn hmd hsn hsd _ _ _ _ _) ?_
             | refine ltS_intro (show n * 1 + 1 < 32769 by omega) ?_
             | refine call_pure (c42 F _ _ _ _ _ _ (mv_wr (by omega) (by omega) (by omega)) (mv_wr (by omega) (by omega) (by omega))) ?_
             | intro _)
    · conv => whnf
      have h0 := ieq_t ‹iEq (tw (mn + sn) (md + sd)) 0 = true›
      exact ⟨rs, mn, md, sn, sd, side, a, n, gf, hn, hn60, hg, hI.rch, hI.geo, h0, rfl, WkM.drop (WkM.sub (.cons_cons _ (.cons _ (.cons _ (.cons _ (.refl _)))))), Nat.le_trans (Nat.le_add_right _ _) (addL_le (R + 960 * j) 941)⟩
    · conv => whnf
      rename_i k hk1 hk2 hk3 b6 a2 b7
      have h0 := ieq_f ‹iEq (tw (mn + sn) (md + sd)) 0 = false›
      have e2 : k = 0 ∨ tw (mn + k * sn) (md + k * sd) = side := by
        rcases Nat.eq_zero_or_pos k with h | h
        · exact .inl h
        · right
          have h2 := hk2.resolve_left (by omega)
          have e : ((k - 1 : Nat) : Int) + 1 = k := by omega
          rw [e] at h2
          exact ieq_t (by simpa using h2)
      have e3 : k = 1000000 ∨ tw (mn + (k + 1) * sn) (md + (k + 1) * sd) ≠ side := hk3.imp_right fun h => ieq_f (by simpa using h)
      obtain ⟨hk, j', hj, hW⟩ := hI.step H1 H2 H3 hP hQ h0 hk1 e2 e3
      have es : wr .i64 (Int.sub 0 side) = -side := by
        rcases hI.geo.s with ⟨rfl, _⟩ | ⟨rfl, _⟩ <;> rfl
      refine ⟨j', [(1, .ptr 1 b1 0), (2, .sl 2 a2 (Nat.add n 1) (Nat.add n 1)), (3, .ptr 3 b3 0), (4, .ptr 4 b4 0), (5, .ptr 5 b7 0)], _, addL (R + 960 * j') 960, 200, hj, ⟨⟨rfl, rfl⟩, ⟨rfl, rfl⟩, ⟨rfl, rfl⟩, ⟨rfl, rfl⟩, ⟨rfl, rfl⟩, trivial⟩,
        WkM.sub (m := wm g fs cs b1 b4 b7 (.gr a2 (Nat.add n 1) 3 1 (grow n 1 gf [i64 (k : Int)])) (.own b3 73 [i64 0, i64 0]) sn sd (mn + k * sn) (md + k * sd) (wr .i64 (Int.sub 0 side)) mt) (.cons_cons _ (.cons_cons _ (.cons _ (.cons _ (.refl _))))), ?_,
        rs ++ [(k : Int)], sn, sd, mn + k * sn, md + k * sd, wr .i64 (Int.sub 0 side), a2, Nat.add n 1, grow n 1 gf [i64 (k : Int)], b1, b3, b4, b7, by rw [es]; exact hW, ?_, grow_get hn hg k, rfl, rfl, rfl, rfl⟩
      · show addL (R + 960 * j') 960 ≤ addL (R + 960 * j) 31
        rw [addL_eq, addL_eq]; omega
      · rw [List.length_append, List.length_singleton, ← hn]
end Go.Proofs.Ytildnbpdhkdddaa
namespace Go.Proofs.Ytildnbpdhkdddaa
open Go.Ab
attribute [local irreducible] aggOk drwOK
set_option maxRecDepth 100000
set_option maxHeartbeats 4000000
def tws (xn xd yn yd a b : Int) : Int := if 0 < cmpI (xn * b) (a * xd) then 1 else min (cmpI (yn * b) (a * yd)) 0
theorem cmpI_cases (x y : Int) : (cmpI x y = -1 ∧ x < y) ∨ (cmpI x y = 1 ∧ y < x) ∨ (cmpI x y = 0 ∧ x = y) := by
  unfold cmpI
  split
  · exact .inl ⟨rfl, by assumption⟩
  · split
    · exact .inr (.inl ⟨rfl, by assumption⟩)
    · exact .inr (.inr ⟨rfl, by omega⟩)
theorem tws_cases (xn xd yn yd a b : Int) : (tws xn xd yn yd a b = 1 ∧ a * xd < xn * b) ∨ (tws xn xd yn yd a b = -1 ∧ yn * b < a * yd) ∨ (tws xn xd yn yd a b = 0 ∧ xn * b ≤ a * xd ∧ a * yd ≤ yn * b) := by
  unfold tws
  rcases cmpI_cases (xn * b) (a * xd) with ⟨e, h⟩ | ⟨e, h⟩ | ⟨e, h⟩ <;> rw [e] <;> rcases cmpI_cases (yn * b) (a * yd) with ⟨e2, h2⟩ | ⟨e2, h2⟩ | ⟨e2, h2⟩ <;> rw [e2] <;> simp <;> omega
theorem frac_lt {a b xn xd p q : Int} (h : a * xd < xn * b) (h2 : xn * q ≤ p * xd) (hb : 0 ≤ b) (hq : 1 ≤ q) (hx : 1 ≤ xd) : a * q < p * b := by
  refine Int.not_le.1 fun h3 => ?_
  have e1 : (a * xd) * q < (xn * b) * q := Int.mul_lt_mul_of_pos_right h (by omega)
  have e2 : (xn * q) * b ≤ (p * xd) * b := Int.mul_le_mul_of_nonneg_right h2 hb
  have e3 : (p * b) * xd ≤ (a * q) * xd := Int.mul_le_mul_of_nonneg_right h3 (by omega)
  have f1 : (a * xd) * q = (a * q) * xd := by grind
  have f2 : (xn * b) * q = (xn * q) * b := by grind
  have f3 : (p * xd) * b = (p * b) * xd := by grind
  omega
theorem frac_gt {a b yn yd p q : Int} (h : yn * b < a * yd) (h2 : p * yd ≤ yn * q) (hb : 0 ≤ b) (hq : 1 ≤ q) (hy : 1 ≤ yd) : p * b < a * q := by
  refine Int.not_le.1 fun h3 => ?_
  have e1 : (yn * b) * q < (a * yd) * q := Int.mul_lt_mul_of_pos_right h (by omega)
  have e2 : (p * yd) * b ≤ (yn * q) * b := Int.mul_le_mul_of_nonneg_right h2 hb
  have e3 : (a * q) * yd ≤ (p * b) * yd := Int.mul_le_mul_of_nonneg_right h3 (by omega)
  have f1 : (a * yd) * q = (a * q) * yd := by grind
  have f2 : (yn * b) * q = (yn * q) * b := by grind
  have f3 : (p * yd) * b = (p * b) * yd := by grind
  omega
/-- the simplest fraction from x to y -/
structure Simp (xn xd yn yd rn rd : Int) : Prop where
  n : 0 ≤ rn
  d : 1 ≤ rd
  lo : xn * rd ≤ rn * xd
  hi : rn * yd ≤ yn * rd
  least : ∀ p q, 0 ≤ p → 1 ≤ q → xn * q ≤ p * xd → p * yd ≤ yn * q → rd ≤ q ∧ rn ≤ p
theorem Rch.simp {xn xd yn yd : Int} (hx : 1 ≤ xn) (hxd : 1 ≤ xd) (hyd : 1 ≤ yd) (hxy : xn * yd ≤ yn * xd) {rs : List Int} {mn md sn sd side : Int} (h : Rch (tws xn xd yn yd) rs mn md sn sd side) (h0 : tws xn xd yn yd (mn + sn) (md + sd) = 0) : Simp xn xd yn yd (mn + sn) (md + sd) := by
  have key : ∀ p q, 1 ≤ p → 1 ≤ q → xn * q ≤ p * xd → p * yd ≤ yn * q → Geo mn md sn sd side p q := fun p q hp hq h1 h2 => h.geo (fun a b ha hb e => by
    rcases tws_cases xn xd yn yd a b with ⟨_, h⟩ | ⟨e2, h⟩ | ⟨e2, h⟩
    · exact frac_lt h h1 hb hq hxd
    · rw [e] at e2; omega
    · rw [e] at e2; omega) (fun a b ha hb e => by
    rcases tws_cases xn xd yn yd a b with ⟨e2, h⟩ | ⟨_, h⟩ | ⟨e2, h⟩
    · rw [e] at e2; omega
    · exact frac_gt h h2 hb hq hyd
    · rw [e] at e2; omega) hp hq
  have hg := key xn xd hx hxd (Int.le_refl _) hxy
  have ha := hg.a
  have hb := hg.b
  have hc := hg.c
  have hd := hg.d
  have hz : xn * (md + sd) ≤ (mn + sn) * xd ∧ (mn + sn) * yd ≤ yn * (md + sd) := by
    rcases tws_cases xn xd yn yd (mn + sn) (md + sd) with ⟨e2, h⟩ | ⟨e2, h⟩ | ⟨_, h⟩
    · rw [h0] at e2; omega
    · rw [h0] at e2; omega
    · exact h
  refine ⟨by omega, ?_, hz.1, hz.2, fun p q hp hq h1 h2 => ?_⟩
  · by_cases h1 : md = 0 ∧ sd = 0
    · obtain ⟨rfl, rfl⟩ := h1
      have := hg.s
      simp at this
    · omega
  · have hp1 : 1 ≤ p := by
      refine Int.not_lt.1 fun hlt => ?_
      have : p = 0 := by omega
      subst this
      have : 1 * 1 ≤ xn * q := Int.mul_le_mul hx hq (by decide) (by omega)
      omega
    have := (key p q hp1 hq h1 h2).le
    omega
theorem pr_wr {a b : Int} (ha : 0 ≤ a ∧ a ≤ 1000000) (hb : 0 ≤ b ∧ b ≤ BB) : wr .i64 (Int.mul a b) = a * b := wr_mul rfl rfl (Bd.of (B := 1000000) (by omega) (by omega)) (Bd.of (B := 1000002000000) (by omega) hb.2) (by decide)
theorem pr_wr' {a b : Int} (ha : 0 ≤ a ∧ a ≤ 1000000) (hb : 0 ≤ b ∧ b ≤ BB) : wr .i64 (Int.mul b a) = b * a := wr_mul rfl rfl (Bd.of (B := 1000002000000) (by omega) hb.2) (Bd.of (B := 1000000) (by omega) (by omega)) (by decide)
abbrev r2 (b : Nat) (x y : Int) : Ent := .ro (some ⟨b, 0, none⟩) 1 1 2 (Go.Ab.part [i64 x, i64 y] 0 2)
theorem c36 (F d : Nat) (b1 b2 : Nat) (xn xd yn yd a b : Int) (hxn : 0 ≤ xn ∧ xn ≤ 1000000) (hxd : 0 ≤ xd ∧ xd ≤ 1000000) (hyn : 0 ≤ yn ∧ yn ≤ 1000000) (hyd : 0 ≤ yd ∧ yd ≤ 1000000) (ha : 0 ≤ a ∧ a ≤ BB) (hb : 0 ≤ b ∧ b ≤ BB) :
    ReadC (CL F (d + 4)) 36 [pt a b, .el 1000 b1 0 2 0 0, .el 1001 b2 0 2 0 0] [(1000, r2 b1 xn xd), (1001, r2 b2 yn yd)] 6 (i64 (tws xn xd yn yd a b)) := by
  intro R
  refine call_in (n := 13) Try.func36 rfl rfl rfl rfl rfl rfl rfl ?_
  repeat' ((conv => whnf); first
           | refine eqS_rfl ?_
           | refine eqA_rfl ?_
           | refine eqA_of (by assumption) ?_
           | refine eqS_of (by rfl) ?_
           | refine seS_rfl ?_
           | refine brS_tt ?_
           | refine brS_ff ?_
           | refine brS_not ?_
           | refine brS_t (iEq_self _) ?_
           | refine brS_t (by assumption) ?_
           | refine brS_f (by assumption) ?_
           | refine brS_intro (fun _ => ?_) (fun _ => ?_)
           | refine ltS_intro (by first | assumption | decide | exact Nat.le_of_ble_eq_true rfl | omega) ?_
           | refine ixS_of rfl (by first | assumption | decide | omega) ?_
           | refine okS_intro (by first | assumption | kernel_rfl) ?_
           | refine call_pure (c34 F _ _ _ _ _ (pr_wr hxn hb) (pr_wr' hxd ha)) ?_
           | refine call_pure (c34 F _ _ _ _ _ (pr_wr hyn hb) (pr_wr' hyd ha)) ?_
           | intro _)
  all_goals conv => whnf
  · have h := ilt_t ‹iLt 0 (cmpI (xn * b) (a * xd)) = true›
    exact ⟨by unfold tws; rw [if_pos h], Nat.le_add_right R 3⟩
  · have h := ilt_f ‹iLt 0 (cmpI (xn * b) (a * xd)) = false›
    refine ⟨?_, Nat.le_add_right R 1⟩
    unfold tws
    rw [if_neg (by omega)]
    refine congrArg (Value.int .i64) ?_
    rw [Int.min_def, iLt_eq]
    by_cases h2 : (0 : Int) < cmpI (yn * b) (a * yd)
    · rw [decide_eq_true h2, if_neg (by omega)]; rfl
    · rw [decide_eq_false h2, if_pos (by omega)]; rfl
theorem c36t (F e : Nat) (i j b1 b2 : Nat) (xn xd yn yd : Int) (hxn : 0 ≤ xn ∧ xn ≤ 1000000) (hxd : 0 ≤ xd ∧ xd ≤ 1000000) (hyn : 0 ≤ yn ∧ yn ≤ 1000000) (hyd : 0 ≤ yd ∧ yd ≤ 1000000) :
    TowC (CL F (e + 4)) (.fn 36 [] [.ptr i b1 0, .ptr j b2 0]) [(1000, r2 b1 xn xd), (1001, r2 b2 yn yd)] (tws xn xd yn yd) := fun a b ha1 ha2 hb1 hb2 _ hs =>
  ValC.fs rfl rfl (l := [pt a b, .ptr i b1 0, .ptr j b2 0]) rfl (ReadC.val (c36 F e b1 b2 xn xd yn yd a b hxn hxd hyn hyd ⟨ha1, ha2⟩ ⟨hb1, hb2⟩) rfl hs)
theorem call_walk {F d : Nat} (hF : 100 < F) {g : FuncId} {fs cs : List SV} (m0 : Mem) {mt : Mem} {tw : Int → Int → Int} (P Q : Int) (hv : vqS (.fn g fs cs) = true) (HT : ∀ e, TowC (CL F (e + 4)) (.fn g fs cs) m0 tw) (hs : SeesM mt m0)
    (H1 : ∀ a b, 0 ≤ a → 0 ≤ b → tw a b = 1 → a * Q < P * b) (H2 : ∀ a b, 0 ≤ a → 0 ≤ b → tw a b = -1 → P * b < a * Q) (H3 : ∀ a b, tw a b = 1 ∨ tw a b = -1 ∨ tw a b = 0) (hP1 : 1 ≤ P) (hP : P ≤ 1000000) (hQ1 : 1 ≤ Q) (hQ : Q ≤ 1000000) {R ni : Nat} {K : SV → Mem → Nat → Nat → Prop}
    (hK : ∀ (rs : List Int) (mn md sn sd side : Int) (a : Option Addr) (n : Nat) (gf : Nat → List SV), n = rs.length → n ≤ 60 → (∀ j, j < n → gf j = [i64 (rs.getD j 0)]) → Rch tw rs mn md sn sd side → Geo mn md sn sd side P Q → tw (mn + sn) (md + sd) = 0 →
      K (.tup [.sl ni a n n, pt (mn + sn) (md + sd)]) ((ni, .gr a n 3 1 gf) :: mt) R (ni + 1)) : callS (CL F (d + 8)) (.fn 35 [] []) [.fn g fs cs] mt (addL R 48000) ni K := by
  refine call_post (c35 F d hF g fs cs m0 mt tw P Q hv HT hs H1 H2 H3 hP1 hP hQ1 hQ R) fun w m' R' n' hq => ?_
  obtain ⟨rs, mn, md, sn, sd, side, a, n, gf, h1, h2, h3, h4, h5, h6, h7, h8, h9⟩ := hq
  exact ⟨.tup [.sl ni a n n, pt (mn + sn) (md + sd)], (ni, .gr a n 3 1 gf) :: mt, R, ni + 1, h7, h8.trans (WkM.sub (.refl _)), h9, hK rs mn md sn sd side a n gf h1 h2 h3 h4 h5 h6⟩
theorem c33t (F d : Nat) (a b : Int) (h : (0 ≤ a ∧ a ≤ 1000000) ∧ 1 ≤ b ∧ b ≤ 1000000) : PureC (CL F (d + 1)) 33 [pt a b] 1 (.bool true) := by
  have := c33 F d a b
  rw [decide_eq_true h] at this
  exact this
end Go.Proofs.Ytildnbpdhkdddaa
namespace Go.Proofs.Ytildnbpdhkdddaa
open Go.Ab
attribute [local irreducible] aggOk drwOK
set_option maxRecDepth 100000
set_option maxHeartbeats 4000000
structure Q4 where
  a : Int
  b : Int
  c : Int
  d : Int
def mvS (q : Q4) (r : Bool) : Q4 := match r with
  | true => ⟨q.a + q.c, q.b + q.d, q.c, q.d⟩
  | false => ⟨q.a, q.b, q.a + q.c, q.b + q.d⟩
/-- the neighbours after some moves -/
def nbL (l : List Bool) : Q4 := l.foldl mvS ⟨0, 1, 1, 0⟩
theorem nbL_snoc (l : List Bool) (r : Bool) : nbL (l ++ [r]) = mvS (nbL l) r := by unfold nbL; rw [List.foldl_append]; rfl
/-- moves towards p / q -/
inductive Gd (p q : Int) : List Bool → Prop
  | nil : Gd p q []
  | snoc {l : List Bool} {r : Bool} : Gd p q l → (r = true → ((nbL l).a + (nbL l).c) * q < p * ((nbL l).b + (nbL l).d)) → (r = false → p * ((nbL l).b + (nbL l).d) < ((nbL l).a + (nbL l).c) * q) → Gd p q (l ++ [r])
/-- the moves have led there -/
def Fin (p q : Int) (l : List Bool) : Prop := p * ((nbL l).b + (nbL l).d) = ((nbL l).a + (nbL l).c) * q
theorem Gd.take {p q : Int} {l : List Bool} (h : Gd p q l) : ∀ i, Gd p q (l.take i) := by
  induction h with
  | nil => intro i; simp; exact .nil
  | @snoc l r h h1 h2 ih =>
    intro i
    by_cases hi : i ≤ l.length
    · rw [List.take_append_of_le_length hi]; exact ih i
    · rw [List.take_of_length_le (by simp; omega)]; exact .snoc h h1 h2
/-- a move, and what lies between -/
theorem Gd.at {p q : Int} {l : List Bool} (h : Gd p q l) : ∀ i (hi : i < l.length), (l[i] = true ∧ ((nbL (l.take i)).a + (nbL (l.take i)).c) * q < p * ((nbL (l.take i)).b + (nbL (l.take i)).d)) ∨ (l[i] = false ∧ p * ((nbL (l.take i)).b + (nbL (l.take i)).d) < ((nbL (l.take i)).a + (nbL (l.take i)).c) * q) := by
  induction h with
  | nil => intro i hi; simp at hi
  | @snoc l r h h1 h2 ih =>
    intro i hi
    by_cases hl : i < l.length
    · have := ih i hl
      rw [List.getElem_append_left hl, List.take_append_of_le_length (by omega)]
      exact this
    · have e : i = l.length := by simp at hi; omega
      subst e
      rw [List.getElem_append_right (by omega), List.take_append_of_le_length (by omega), List.take_length]
      simp only [Nat.sub_self, List.getElem_cons_zero]
      cases r with
      | true => exact .inl ⟨rfl, h1 rfl⟩
      | false => exact .inr ⟨rfl, h2 rfl⟩
/-- the neighbours are neighbours, with p / q strictly between them -/
theorem Gd.geo {p q : Int} (hp : 1 ≤ p) (hq : 1 ≤ q) {l : List Bool} (h : Gd p q l) : 0 ≤ (nbL l).a ∧ 1 ≤ (nbL l).b ∧ 1 ≤ (nbL l).c ∧ 0 ≤ (nbL l).d ∧ (nbL l).c * (nbL l).b - (nbL l).a * (nbL l).d = 1 ∧ (nbL l).a * q < p * (nbL l).b ∧ p * (nbL l).d < (nbL l).c * q := by
  induction h with
  | nil => exact ⟨by decide, by decide, by decide, by decide, by decide, by show 0 * q < p * 1; omega, by show p * 0 < 1 * q; omega⟩
  | @snoc l r h h1 h2 ih =>
    obtain ⟨i1, i2, i3, i4, i5, i6, i7⟩ := ih
    rw [nbL_snoc]
    cases r with
    | true => exact ⟨by show 0 ≤ _ + _; omega, by show 1 ≤ _ + _; omega, i3, i4, by show (nbL l).c * ((nbL l).b + (nbL l).d) - ((nbL l).a + (nbL l).c) * (nbL l).d = 1; grind, h1 rfl, i7⟩
    | false => exact ⟨i1, i2, by show 1 ≤ _ + _; omega, by show 0 ≤ _ + _; omega, by show ((nbL l).a + (nbL l).c) * (nbL l).b - (nbL l).a * ((nbL l).b + (nbL l).d) = 1; grind, i6, h2 rfl⟩
theorem Gd.le {p q : Int} (hp : 1 ≤ p) (hq : 1 ≤ q) {l : List Bool} (h : Gd p q l) : (nbL l).b + (nbL l).d ≤ q ∧ (nbL l).a + (nbL l).c ≤ p := by
  obtain ⟨i1, i2, i3, i4, i5, i6, i7⟩ := h.geo hp hq
  exact sb_gt i5 (by omega) i4 i1 (by omega) i6 i7
/-- how many moves there are at most -/
theorem Gd.len {p q : Int} (hp : 1 ≤ p) (hq : 1 ≤ q) {l : List Bool} (h : Gd p q l) : l = [] ∨ (1 ≤ (nbL l).a ∧ (l.length : Int) + 1 ≤ (nbL l).a + (nbL l).c) ∨ (1 ≤ (nbL l).d ∧ (l.length : Int) + 1 ≤ (nbL l).b + (nbL l).d) := by
  induction h with
  | nil => exact .inl rfl
  | @snoc l r h h1 h2 ih =>
    right
    obtain ⟨i1, i2, i3, i4, i5, i6, i7⟩ := h.geo hp hq
    rw [nbL_snoc, List.length_append, List.length_singleton]
    cases r with
    | true =>
      show (1 ≤ (nbL l).a + (nbL l).c ∧ ((l.length + 1 : Nat) : Int) + 1 ≤ (nbL l).a + (nbL l).c + (nbL l).c) ∨ (1 ≤ (nbL l).d ∧ ((l.length + 1 : Nat) : Int) + 1 ≤ (nbL l).b + (nbL l).d + (nbL l).d)
      rcases ih with rfl | ⟨g1, g2⟩ | ⟨g1, g2⟩
      · left; show (1 : Int) ≤ 0 + 1 ∧ _; exact ⟨by decide, by decide⟩
      · left; omega
      · right; omega
    | false =>
      show (1 ≤ (nbL l).a ∧ ((l.length + 1 : Nat) : Int) + 1 ≤ (nbL l).a + ((nbL l).a + (nbL l).c)) ∨ (1 ≤ (nbL l).b + (nbL l).d ∧ ((l.length + 1 : Nat) : Int) + 1 ≤ (nbL l).b + ((nbL l).b + (nbL l).d))
      rcases ih with rfl | ⟨g1, g2⟩ | ⟨g1, g2⟩
      · right; exact ⟨by decide, by decide⟩
      · left; omega
      · right; omega
theorem Gd.len_le {p q B : Int} (hp : 1 ≤ p) (hq : 1 ≤ q) (hpB : p ≤ B) (hqB : q ≤ B) {l : List Bool} (h : Gd p q l) : (l.length : Int) < B := by
  have := h.le hp hq
  rcases h.len hp hq with rfl | ⟨_, h2⟩ | ⟨_, h2⟩
  · simp; omega
  · omega
  · omega
/-- moves are determined -/
theorem Gd.eq {p q : Int} {l l' : List Bool} (h : Gd p q l) (k : Gd p q l') (hf : Fin p q l) (hf' : Fin p q l') : l = l' := by
  have key : ∀ i, i ≤ l.length → i ≤ l'.length → l.take i = l'.take i := by
    intro i
    induction i with
    | zero => intro _ _; simp
    | succ i ih =>
      intro h1 h2
      have e := ih (by omega) (by omega)
      have g1 := h.at i (by omega)
      have g2 := k.at i (by omega)
      rw [← e] at g2
      have e2 : l[i] = l'[i] := by
        rcases g1 with ⟨a1, a2⟩ | ⟨a1, a2⟩ <;> rcases g2 with ⟨b1, b2⟩ | ⟨b1, b2⟩ <;> first | (rw [a1, b1]; done) | omega
      rw [List.take_succ_eq_append_getElem (by omega), List.take_succ_eq_append_getElem (by omega), e, e2]
  have nolt : ∀ {l l' : List Bool}, Gd p q l' → Fin p q l → l'.take l.length = l → l.length < l'.length → False := fun {l l'} k hf e hlt => by
    have g := k.at l.length hlt
    rw [e] at g
    unfold Fin at hf
    rcases g with ⟨_, g⟩ | ⟨_, g⟩ <;> omega
  rcases Nat.lt_trichotomy l.length l'.length with hlt | heq | hgt
  · exact (nolt k hf (by have := key l.length (Nat.le_refl _) (by omega); rw [List.take_length] at this; exact this.symm) hlt).elim
  · have := key l.length (Nat.le_refl _) (by omega)
    rw [List.take_length, heq, List.take_length] at this
    exact this
  · exact (nolt h hf' (by have := key l'.length (by omega) (Nat.le_refl _); rw [List.take_length] at this; exact this) hgt).elim
theorem nbL_not : ∀ (l : List Bool), nbL (l.map (!·)) = ⟨(nbL l).d, (nbL l).c, (nbL l).b, (nbL l).a⟩ := by
  intro l
  have key : ∀ (l : List Bool) (q : Q4), (l.map (!·)).foldl mvS ⟨q.d, q.c, q.b, q.a⟩ = ⟨(l.foldl mvS q).d, (l.foldl mvS q).c, (l.foldl mvS q).b, (l.foldl mvS q).a⟩ := by
    intro l
    induction l with
    | nil => intro q; rfl
    | cons r l ih =>
      intro q
      rw [List.map_cons, List.foldl_cons, List.foldl_cons, ← ih]
      cases r with
      | true => show (l.map (!·)).foldl mvS ⟨q.d, q.c, q.d + q.b, q.c + q.a⟩ = (l.map (!·)).foldl mvS ⟨q.d, q.c, q.b + q.d, q.a + q.c⟩; rw [Int.add_comm q.d, Int.add_comm q.c]
      | false => show (l.map (!·)).foldl mvS ⟨q.d + q.b, q.c + q.a, q.b, q.a⟩ = (l.map (!·)).foldl mvS ⟨q.b + q.d, q.a + q.c, q.b, q.a⟩; rw [Int.add_comm q.d, Int.add_comm q.c]
  exact key l ⟨0, 1, 1, 0⟩
/-- upside down -/
theorem Gd.not {p q : Int} {l : List Bool} (h : Gd p q l) : Gd q p (l.map (!·)) := by
  induction h with
  | nil => exact .nil
  | @snoc l r h h1 h2 ih =>
    rw [List.map_append]
    refine .snoc ih ?_ ?_
    · rw [nbL_not]
      intro e
      have := h2 (by simpa using e)
      show ((nbL l).d + (nbL l).b) * p < q * ((nbL l).c + (nbL l).a)
      grind
    · rw [nbL_not]
      intro e
      have := h1 (by simpa using e)
      show q * ((nbL l).c + (nbL l).a) < ((nbL l).d + (nbL l).b) * p
      grind
theorem Fin.not {p q : Int} {l : List Bool} (h : Fin p q l) : Fin q p (l.map (!·)) := by
  unfold Fin at h ⊢
  rw [nbL_not]
  show q * ((nbL l).c + (nbL l).a) = ((nbL l).d + (nbL l).b) * p
  grind
/-- what is between two fractions that moves lead the same way from goes that way too -/
theorem Gd.between {p q s t : Int} {u w z : List Bool} (hu : Gd p q u) (hw : Gd s t w) (hz : Gd (p + s) (q + t) z) (hf : Fin (p + s) (q + t) z) (i : Nat) (h1 : i < u.length) (h2 : i < w.length) (e : u.take i = w.take i) (e2 : u.take i = z.take i) (he : w[i] = u[i]) : ∃ h : i < z.length, z[i] = u[i] := by
  have g1 := hu.at i h1
  have g2 := hw.at i h2
  rw [← e] at g2
  have hs : (u[i] = true ∧ ((nbL (u.take i)).a + (nbL (u.take i)).c) * (q + t) < (p + s) * ((nbL (u.take i)).b + (nbL (u.take i)).d)) ∨ (u[i] = false ∧ (p + s) * ((nbL (u.take i)).b + (nbL (u.take i)).d) < ((nbL (u.take i)).a + (nbL (u.take i)).c) * (q + t)) := by
    have d1 := Int.mul_add ((nbL (u.take i)).a + (nbL (u.take i)).c) q t
    have d2 := Int.add_mul p s ((nbL (u.take i)).b + (nbL (u.take i)).d)
    rcases g1 with ⟨a1, a2⟩ | ⟨a1, a2⟩ <;> rcases g2 with ⟨b1, b2⟩ | ⟨b1, b2⟩
    · exact .inl ⟨a1, by omega⟩
    · rw [he, a1] at b1; cases b1
    · rw [he, a1] at b1; cases b1
    · exact .inr ⟨a1, by omega⟩
  by_cases h3 : i < z.length
  · refine ⟨h3, ?_⟩
    have g3 := hz.at i h3
    rw [← e2] at g3
    rcases g3 with ⟨a1, a2⟩ | ⟨a1, a2⟩ <;> rcases hs with ⟨b1, b2⟩ | ⟨b1, b2⟩ <;> first | (rw [a1, b1]; done) | omega
  · exfalso
    have ez : z.take i = z := List.take_of_length_le (by omega)
    rw [ez] at e2
    unfold Fin at hf
    rw [← e2] at hf
    rcases hs with ⟨_, b2⟩ | ⟨_, b2⟩ <;> omega
/-- the moves of the first runs -/
def mvN (rs : List Int) : Nat → List Bool
  | 0 => []
  | i + 1 => mvN rs i ++ List.replicate (rs.getD i 0).toNat (decide (i % 2 = 0))
/-- neighbours after a list of runs: the one that moves, the other one -/
def stS (q : Q4) (k : Int) : Q4 := ⟨q.c, q.d, q.a + k * q.c, q.b + k * q.d⟩
def stF (l : List Int) : Q4 := l.foldl stS ⟨0, 1, 1, 0⟩
theorem stF_snoc (l : List Int) (k : Int) : stF (l ++ [k]) = stS (stF l) k := by unfold stF; rw [List.foldl_append]; rfl
theorem mvN_app (rs : List Int) (k : Int) : ∀ i, i ≤ rs.length → mvN (rs ++ [k]) i = mvN rs i
  | 0, _ => rfl
  | i + 1, h => by
    rw [mvN, mvN, mvN_app rs k i (by omega)]
    congr 2
    simp [List.getD_eq_getElem?_getD, List.getElem?_append_left (show i < rs.length by omega)]
theorem nbL_rep (l : List Bool) : ∀ (t : Nat) (r : Bool), nbL (l ++ List.replicate t r) = (match r with
    | true => ⟨(nbL l).a + t * (nbL l).c, (nbL l).b + t * (nbL l).d, (nbL l).c, (nbL l).d⟩
    | false => ⟨(nbL l).a, (nbL l).b, (nbL l).c + t * (nbL l).a, (nbL l).d + t * (nbL l).b⟩)
  | 0, r => by cases r <;> simp
  | t + 1, r => by
    rw [List.replicate_succ', ← List.append_assoc, nbL_snoc, nbL_rep l t r]
    cases r with
    | true =>
      show (⟨_, _, _, _⟩ : Q4) = ⟨_, _, _, _⟩
      congr 1 <;> push_cast <;> grind
    | false =>
      show (⟨_, _, _, _⟩ : Q4) = ⟨_, _, _, _⟩
      congr 1 <;> push_cast <;> grind
/-- the path of p / q, in runs -/
structure PathR (p q : Int) (rs : List Int) : Prop where
  pos : ∀ k ∈ rs, 0 ≤ k
  gd : Gd p q (mvN rs rs.length)
  fin : Fin p q (mvN rs rs.length)
  zero : ∀ j, j < rs.length → rs.getD j 0 = 0 → j = 0 ∧ rs.length ≠ 1
  w : (2 : Int) ^ rs.length ≤ (p + q) * (2 * (p + q))
  end_ : (stF rs).a + (stF rs).c = (nbL (mvN rs rs.length)).a + (nbL (mvN rs rs.length)).c ∧ (stF rs).b + (stF rs).d = (nbL (mvN rs rs.length)).b + (nbL (mvN rs rs.length)).d
  mid : ∀ i, i ≤ rs.length → ((0 ≤ (stF (rs.take i)).a ∧ 0 ≤ (stF (rs.take i)).b) ∧ 0 ≤ (stF (rs.take i)).c ∧ 0 ≤ (stF (rs.take i)).d) ∧ (stF (rs.take i)).a + (stF (rs.take i)).c ≤ p ∧ (stF (rs.take i)).b + (stF (rs.take i)).d ≤ q
def twp (p q a b : Int) : Int := cmpI (p * b) (a * q)
theorem twp_cases (p q a b : Int) : (twp p q a b = 1 ∧ a * q < p * b) ∨ (twp p q a b = -1 ∧ p * b < a * q) ∨ (twp p q a b = 0 ∧ p * b = a * q) := by
  unfold twp
  rcases cmpI_cases (p * b) (a * q) with ⟨e, h⟩ | ⟨e, h⟩ | ⟨e, h⟩
  · exact .inr (.inl ⟨e, h⟩)
  · exact .inl ⟨e, h⟩
  · exact .inr (.inr ⟨e, h⟩)
/-- how the walk's neighbours are those after its moves -/
def SideOf (n : Nat) (side : Int) (mn md sn sd : Int) (x : Q4) : Prop := (n % 2 = 0 ∧ side = 1 ∧ x = ⟨mn, md, sn, sd⟩) ∨ (n % 2 = 1 ∧ side = -1 ∧ x = ⟨sn, sd, mn, md⟩)
structure RchI (p q : Int) (rs : List Int) (mn md sn sd side : Int) : Prop where
  geo : Geo mn md sn sd side p q
  st : stF rs = ⟨mn, md, sn, sd⟩
  pos : ∀ k ∈ rs, 0 ≤ k
  gd : Gd p q (mvN rs rs.length)
  so : SideOf rs.length side mn md sn sd (nbL (mvN rs rs.length))
  zero : ∀ j, j < rs.length → rs.getD j 0 = 0 → j = 0
  w : (rs = [] ∧ mn = 0 ∧ md = 1 ∧ sn = 1 ∧ sd = 0) ∨ ((rs.length = 1 → rs.getD 0 0 = 0 → twp p q (mn + sn) (md + sd) ≠ 0) ∧ twp p q (mn + sn) (md + sd) ≠ -side ∧ (2 : Int) ^ rs.length ≤ (mn + sn + md + sd) * (mn + sn + md + sd + (sn + sd)))
  mid : ∀ i, i ≤ rs.length → ((0 ≤ (stF (rs.take i)).a ∧ 0 ≤ (stF (rs.take i)).b) ∧ 0 ≤ (stF (rs.take i)).c ∧ 0 ≤ (stF (rs.take i)).d) ∧ (stF (rs.take i)).a + (stF (rs.take i)).c ≤ p ∧ (stF (rs.take i)).b + (stF (rs.take i)).d ≤ q
/-- more moves of a run -/
theorem Gd.rep {p q : Int} {l : List Bool} (h : Gd p q l) (r : Bool) : ∀ (t : Nat), (∀ i, i < t → (r = true → ((nbL l).a + (((i : Nat) : Int) + 1) * (nbL l).c) * q < p * ((nbL l).b + ((i : Int) + 1) * (nbL l).d)) ∧ (r = false → p * ((nbL l).d + ((i : Int) + 1) * (nbL l).b) < ((nbL l).c + ((i : Int) + 1) * (nbL l).a) * q)) → Gd p q (l ++ List.replicate t r)
  | 0, _ => by simpa using h
  | t + 1, hh => by
    have ih := h.rep r t fun i hi => hh i (by omega)
    rw [List.replicate_succ', ← List.append_assoc]
    have e := nbL_rep l t r
    refine .snoc ih (fun hr => ?_) (fun hr => ?_)
    · subst hr
      rw [e]
      have := (hh t (by omega)).1 rfl
      show ((nbL l).a + t * (nbL l).c + (nbL l).c) * q < p * ((nbL l).b + t * (nbL l).d + (nbL l).d)
      rw [show (nbL l).a + t * (nbL l).c + (nbL l).c = (nbL l).a + ((t : Int) + 1) * (nbL l).c by grind, show (nbL l).b + t * (nbL l).d + (nbL l).d = (nbL l).b + ((t : Int) + 1) * (nbL l).d by grind]
      exact this
    · subst hr
      rw [e]
      have := (hh t (by omega)).2 rfl
      show p * ((nbL l).b + ((nbL l).d + t * (nbL l).b)) < ((nbL l).a + ((nbL l).c + t * (nbL l).a)) * q
      rw [show (nbL l).b + ((nbL l).d + t * (nbL l).b) = (nbL l).d + ((t : Int) + 1) * (nbL l).b by grind, show (nbL l).a + ((nbL l).c + t * (nbL l).a) = (nbL l).c + ((t : Int) + 1) * (nbL l).a by grind]
      exact this
/-- between the first and the last move of a run -/
theorem run_between {a b c d p q : Int} {k : Nat} (h : p * d < c * q) (hk : (a + k * c) * q < p * (b + k * d)) {i : Nat} (hi : i < k) : (a + ((i : Int) + 1) * c) * q < p * (b + ((i : Int) + 1) * d) := by
  have e1 : p * (b + ((i : Int) + 1) * d) - (a + ((i : Int) + 1) * c) * q = (p * (b + k * d) - (a + k * c) * q) + ((k : Int) - i - 1) * (c * q - p * d) := by grind
  have e2 : 0 ≤ ((k : Int) - i - 1) * (c * q - p * d) := Int.mul_nonneg (by omega) (by omega)
  omega
theorem run_between' {a b c d p q : Int} {k : Nat} (h : a * q < p * b) (hk : p * (d + k * b) < (c + k * a) * q) {i : Nat} (hi : i < k) : p * (d + ((i : Int) + 1) * b) < (c + ((i : Int) + 1) * a) * q := by
  have e1 : (c + ((i : Int) + 1) * a) * q - p * (d + ((i : Int) + 1) * b) = ((c + k * a) * q - p * (d + k * b)) + ((k : Int) - i - 1) * (p * b - a * q) := by grind
  have e2 : 0 ≤ ((k : Int) - i - 1) * (p * b - a * q) := Int.mul_nonneg (by omega) (by omega)
  omega
theorem getD_app_len (rs : List Int) (k : Int) : (rs ++ [k]).getD rs.length 0 = k := by simp [List.getD_eq_getElem?_getD]
theorem getD_app_lt (rs : List Int) (k : Int) {j : Nat} (h : j < rs.length) : (rs ++ [k]).getD j 0 = rs.getD j 0 := by simp [List.getD_eq_getElem?_getD, List.getElem?_append_left h]
theorem Rch.inv {p q : Int} (hp : 1 ≤ p) (hq : 1 ≤ q) {rs : List Int} {mn md sn sd side : Int} (h : Rch (twp p q) rs mn md sn sd side) : RchI p q rs mn md sn sd side := by
  have H1 : ∀ a b, 0 ≤ a → 0 ≤ b → twp p q a b = 1 → a * q < p * b := fun a b _ _ e => by
    rcases twp_cases p q a b with ⟨_, h⟩ | ⟨e2, _⟩ | ⟨e2, _⟩
    · exact h
    · rw [e] at e2; omega
    · rw [e] at e2; omega
  have H2 : ∀ a b, 0 ≤ a → 0 ≤ b → twp p q a b = -1 → p * b < a * q := fun a b _ _ e => by
    rcases twp_cases p q a b with ⟨e2, _⟩ | ⟨_, h⟩ | ⟨e2, _⟩
    · rw [e] at e2; omega
    · exact h
    · rw [e] at e2; omega
  induction h with
  | start => exact ⟨.start hp hq, rfl, fun k hk => by simp at hk, .nil, .inl ⟨rfl, rfl, rfl⟩, fun j hj => by simp at hj, .inl ⟨rfl, rfl, rfl, rfl, rfl⟩, fun i _ => by rw [List.take_nil]; exact ⟨⟨⟨by decide, by decide⟩, by decide, by decide⟩, by show (0 : Int) + 1 ≤ p; omega, by show (1 : Int) + 0 ≤ q; omega⟩⟩
  | @step rs mn md sn sd side k hr hne hk1 hk2 ih =>
    have hg := ih.geo.step H1 H2 hk1
    have hle := hg.le
    have hk0 : k = 0 → rs = [] := fun h0 => by
      rcases ih.w with ⟨h, _⟩ | ⟨_, h, _⟩
      · exact h
      · exfalso
        subst h0
        have e3 : mn + (((0 : Nat) : Int) + 1) * sn = mn + sn := by grind
        have e4 : md + (((0 : Nat) : Int) + 1) * sd = md + sd := by grind
        rw [e3, e4] at hk2
        have hs : side = 1 ∨ side = -1 := ih.geo.s.imp (fun h => h.1) (fun h => h.1)
        rcases twp_cases p q (mn + sn) (md + sd) with ⟨e, _⟩ | ⟨e, _⟩ | ⟨e, _⟩ <;> rcases hs with rfl | rfl <;> rw [e] at h hk2 hne <;> omega
    have emv : mvN (rs ++ [(k : Int)]) (rs.length + 1) = mvN rs rs.length ++ List.replicate k (decide (rs.length % 2 = 0)) := by
      rw [mvN, mvN_app rs k _ (Nat.le_refl _), getD_app_len]; rfl
    have elen : (rs ++ [(k : Int)]).length = rs.length + 1 := by simp
    have e1 : (sn + (mn + (k : Int) * sn)) = mn + (k + 1) * sn := by grind
    have e2 : (sd + (md + (k : Int) * sd)) = md + (k + 1) * sd := by grind
    have hgd : Gd p q (mvN rs rs.length ++ List.replicate k (decide (rs.length % 2 = 0))) := by
      refine ih.gd.rep _ k fun i hi => ?_
      have hkk : twp p q (mn + k * sn) (md + k * sd) = side := hk1.resolve_left (by omega)
      rcases ih.so with ⟨p1, p2, p3⟩ | ⟨p1, p2, p3⟩
      · rw [p3, decide_eq_true p1]
        refine ⟨fun _ => ?_, fun h => by cases h⟩
        rcases ih.geo.s with ⟨_, _, _, g⟩ | ⟨g, _⟩
        · exact run_between g (H1 _ _ hg.c hg.d (by rw [hkk, p2])) hi
        · omega
      · rw [p3, decide_eq_false (by omega)]
        refine ⟨(fun h => by cases h), fun _ => ?_⟩
        rcases ih.geo.s with ⟨g, _⟩ | ⟨_, _, g, _⟩
        · omega
        · exact run_between' g (H2 _ _ hg.c hg.d (by rw [hkk, p2])) hi
    refine ⟨hg, by rw [stF_snoc, ih.st]; rfl, fun x hx => ?_, by rw [elen, emv]; exact hgd, ?_, fun j hj h0 => ?_, .inr ⟨fun hl h0 => ?_, by rw [e1, e2, Int.neg_neg]; exact hk2, ?_⟩, fun i hi => ?_⟩
    · rcases List.mem_append.1 hx with hx | hx
      · exact ih.pos x hx
      · simp at hx; omega
    · rw [elen, emv, nbL_rep]
      rcases ih.so with ⟨p1, p2, p3⟩ | ⟨p1, p2, p3⟩
      · rw [p3, decide_eq_true p1]
        exact .inr ⟨by omega, by omega, rfl⟩
      · rw [p3, decide_eq_false (by omega)]
        exact .inl ⟨by omega, by omega, rfl⟩
    · rw [elen] at hj
      by_cases hlt : j < rs.length
      · rw [getD_app_lt rs k hlt] at h0
        exact ih.zero j hlt h0
      · have : j = rs.length := by omega
        subst this
        rw [getD_app_len] at h0
        rw [hk0 (by omega)]; rfl
    · rw [elen] at hl
      have hz : rs = [] := by cases rs with
        | nil => rfl
        | cons _ _ => simp at hl
      subst hz
      have hk : k = 0 := by simpa using h0
      subst hk
      have e3 : sn + (mn + ((0 : Nat) : Int) * sn) = mn + sn := by grind
      have e4 : sd + (md + ((0 : Nat) : Int) * sd) = md + sd := by grind
      rw [e3, e4]; exact hne
    · rw [elen, Int.pow_succ]
      rcases ih.w with ⟨rfl, rfl, rfl, rfl, rfl⟩ | ⟨_, _, hw⟩
      · have : (2 : Int) * 3 ≤ ((1 : Int) + (0 + (k : Int) * 1) + 0 + (1 + (k : Int) * 0)) * ((1 : Int) + (0 + (k : Int) * 1) + 0 + (1 + (k : Int) * 0) + ((0 + (k : Int) * 1) + (1 + (k : Int) * 0))) := Int.mul_le_mul (by omega) (by omega) (by decide) (by omega)
        show (2 : Int) ^ 0 * 2 ≤ _
        omega
      · by_cases hkz : k = 0
        · have hz := hk0 hkz
          rcases ih.w with ⟨_, rfl, rfl, rfl, rfl⟩ | _
          · subst hkz hz
            show (2 : Int) ^ 0 * 2 ≤ _
            decide
          · subst hz
            have hst : (⟨0, 1, 1, 0⟩ : Q4) = ⟨mn, md, sn, sd⟩ := ih.st
            injection hst with q1 q2 q3 q4
            subst q1 q2 q3 q4 hkz
            show (2 : Int) ^ 0 * 2 ≤ _
            decide
        · have k3 : 1 * sn ≤ (k : Int) * sn := Int.mul_le_mul_of_nonneg_right (by omega) ih.geo.c
          have k4 : 1 * sd ≤ (k : Int) * sd := Int.mul_le_mul_of_nonneg_right (by omega) ih.geo.d
          have ga := ih.geo.a
          have gb := ih.geo.b
          have gc := ih.geo.c
          have gd := ih.geo.d
          have := W_step (T := mn + sn + md + sd) (S := sn + sd) (T' := sn + (mn + (k : Int) * sn) + sd + (md + (k : Int) * sd)) (S' := (mn + (k : Int) * sn) + (md + (k : Int) * sd)) (by omega) (by omega) (by omega) (by omega)
          omega
    · rw [elen] at hi
      by_cases hlt : i ≤ rs.length
      · rw [List.take_append_of_le_length hlt]; exact ih.mid i hlt
      · rw [List.take_of_length_le (by rw [elen]; omega), stF_snoc, ih.st]
        exact ⟨⟨⟨hg.a, hg.b⟩, hg.c, hg.d⟩, hle.2, hle.1⟩
theorem Rch.path {p q : Int} (hp : 1 ≤ p) (hq : 1 ≤ q) {rs : List Int} {mn md sn sd side : Int} (h : Rch (twp p q) rs mn md sn sd side) (h0 : twp p q (mn + sn) (md + sd) = 0) : PathR p q rs := by
  have I := h.inv hp hq
  have hle := I.geo.le
  have ga := I.geo.a
  have gb := I.geo.b
  have gc := I.geo.c
  have gd := I.geo.d
  have he : p * (md + sd) = (mn + sn) * q := by
    rcases twp_cases p q (mn + sn) (md + sd) with ⟨e, _⟩ | ⟨e, _⟩ | ⟨_, e⟩
    · rw [h0] at e; omega
    · rw [h0] at e; omega
    · exact e
  refine ⟨I.pos, I.gd, ?_, fun j hj hz => ?_, ?_, ?_, I.mid⟩
  · unfold Fin
    rcases I.so with ⟨_, _, e⟩ | ⟨_, _, e⟩ <;> rw [e]
    · exact he
    · show p * (sd + md) = (sn + mn) * q
      rw [Int.add_comm sd, Int.add_comm sn]; exact he
  · have hj0 := I.zero j hj hz
    refine ⟨hj0, fun hl => ?_⟩
    rcases I.w with ⟨rfl, _⟩ | ⟨hw, _⟩
    · simp at hj
    · subst hj0
      exact hw hl hz h0
  · rcases I.w with ⟨rfl, _⟩ | ⟨_, _, hw⟩
    · have : (1 : Int) * 1 ≤ (p + q) * (2 * (p + q)) := Int.mul_le_mul (by omega) (by omega) (by decide) (by omega)
      show (2 : Int) ^ 0 ≤ _
      omega
    · exact Int.le_trans hw (Int.mul_le_mul (by omega) (by omega) (by omega) (by omega))
  · rw [I.st]
    rcases I.so with ⟨_, _, e⟩ | ⟨_, _, e⟩ <;> rw [e]
    · exact ⟨rfl, rfl⟩
    · exact ⟨Int.add_comm _ _, Int.add_comm _ _⟩
end Go.Proofs.Ytildnbpdhkdddaa
namespace Go.Proofs.Ytildnbpdhkdddaa
open Go.Ab
attribute [local irreducible] aggOk drwOK
set_option maxRecDepth 100000
set_option maxHeartbeats 4000000
abbrev roL (a : Option Addr) (rs : List Int) : Ent := .ro a rs.length rs.length 1 fun j => [i64 (rs.getD j 0)]
theorem twpC (F e : Nat) (xn xd : Int) (hx : 0 ≤ xn ∧ xn ≤ 1000000) (hxd : 0 ≤ xd ∧ xd ≤ 1000000) : TowC (CL F (e + 4)) (.fn 34 [pt xn xd] []) [] (twp xn xd) := fun a b ha1 ha2 hb1 hb2 m _ =>
  ValC.fs rfl rfl (l := [pt xn xd, pt a b]) rfl ((PureC.val (c34 F (e + 1) xn xd a b (pr_wr hx ⟨hb1, hb2⟩) (pr_wr' hxd ⟨ha1, ha2⟩)) m).more (by decide))
theorem c15 (F d : Nat) (hF : 100 < F) (xn xd : Int) (hx : 1 ≤ xn ∧ xn ≤ 1000000) (hxd : 1 ≤ xd ∧ xd ≤ 1000000) (m : Mem) (R : Nat) :
    callS (CL F (d + 9)) (.fn 15 [] []) [pt xn xd] m (addL (addL R 10) 48002) 0 fun w m' R' _ => ∃ (rs : List Int) (a : Option Addr), PathR xn xd rs ∧ den w = .tuple ⟨[.slice a rs.length rs.length, .int .i64 0]⟩ ∧ WkM m' ((100, roL a rs) :: m) ∧ R ≤ R' := by
  have hz : iEq xn 0 = false := by rw [iEq_eq]; simp; omega
  refine call_in (n := 21) Try.func15 rfl rfl rfl rfl rfl rfl rfl ?_
  repeat' ((conv => whnf); first
           | refine eqS_rfl ?_
           | refine eqA_rfl ?_
           | refine eqA_of (by assumption) ?_
           | refine eqS_of (by rfl) ?_
           | refine seS_rfl ?_
           | refine brS_tt ?_
           | refine brS_ff ?_
           | refine brS_not ?_
           | refine brS_t (iEq_self _) ?_
           | refine brS_t (by assumption) ?_
           | refine brS_f (by assumption) ?_
           | refine brS_intro (fun _ => ?_) (fun _ => ?_)
           | refine ltS_intro (by first | assumption | decide | exact Nat.le_of_ble_eq_true rfl | omega) ?_
           | refine ixS_of rfl (by first | assumption | decide | omega) ?_
           | refine okS_intro (by first | assumption | kernel_rfl) ?_
           | refine call_pure (c33t F _ _ _ ⟨⟨by omega, by omega⟩, by omega, by omega⟩) ?_
           | intro _)
  conv => whnf
  refine call_walk hF [] xn xd rfl (fun e => twpC F e xn xd ⟨by omega, by omega⟩ ⟨by omega, by omega⟩) (.nil _) (fun a b ha hb e => ?_) (fun a b ha hb e => ?_) (fun a b => ?_) (by omega) hx.2 (by omega) hxd.2 ?_
  · rcases twp_cases xn xd a b with ⟨_, h⟩ | ⟨e2, h⟩ | ⟨e2, h⟩
    · exact h
    · rw [e] at e2; omega
    · rw [e] at e2; omega
  · rcases twp_cases xn xd a b with ⟨e2, h⟩ | ⟨_, h⟩ | ⟨e2, h⟩
    · rw [e] at e2; omega
    · exact h
    · rw [e] at e2; omega
  · rcases twp_cases xn xd a b with ⟨e2, h⟩ | ⟨e2, h⟩ | ⟨e2, h⟩
    · exact .inl e2
    · exact .inr (.inl e2)
    · exact .inr (.inr e2)
  · intro rs mn md sn sd side a n gf hn hn60 hg hr hgeo h0
    repeat' ((conv => whnf); first
             | refine eqS_rfl ?_
             | refine eqA_rfl ?_
             | refine eqA_of (by assumption) ?_
             | refine eqS_of (by rfl) ?_
             | refine seS_rfl ?_
             | refine brS_tt ?_
             | refine brS_ff ?_
             | refine brS_not ?_
             | refine brS_t (iEq_self _) ?_
             | refine brS_t (by assumption) ?_
             | refine brS_f (by assumption) ?_
             | refine brS_intro (fun _ => ?_) (fun _ => ?_)
             | refine ltS_intro (by first | assumption | decide | exact Nat.le_of_ble_eq_true rfl | omega) ?_
             | refine ixS_of rfl (by first | assumption | decide | omega) ?_
             | refine okS_intro (by first | assumption | kernel_rfl) ?_
             | intro _)
    conv => whnf
    subst hn
    refine ⟨rs, a, hr.path (by omega) (by omega) h0, rfl, WkM.drop (WkM.gr_ro (i := 100) hg (WkM.sub (.cons_cons _ (.cons _ (.refl _))))), addL_le R 9⟩
theorem call_path {F d : Nat} (hF : 100 < F) {xn xd : Int} (hx : 1 ≤ xn ∧ xn ≤ 1000000) (hxd : 1 ≤ xd ∧ xd ≤ 1000000) {m : Mem} {R ni : Nat} {K : SV → Mem → Nat → Nat → Prop}
    (hK : ∀ (rs : List Int) (a : Option Addr), PathR xn xd rs → K (.tup [.sl ni a rs.length rs.length, i64 0]) ((ni, roL a rs) :: m) R (ni + 1)) : callS (CL F (d + 9)) (.fn 15 [] []) [pt xn xd] m (addL (addL R 10) 48002) ni K := by
  refine call_post (c15 F d hF xn xd hx hxd m R) fun w m' R' n' hq => ?_
  obtain ⟨rs, a, h1, h2, h3, h4⟩ := hq
  exact ⟨.tup [.sl ni a rs.length rs.length, i64 0], (ni, roL a rs) :: m, R, ni + 1, h2, h3.trans (WkM.sub (.refl _)), h4, hK rs a h1⟩
end Go.Proofs.Ytildnbpdhkdddaa
namespace Go.Proofs.Ytildnbpdhkdddaa
open Go.Ab
attribute [local irreducible] aggOk drwOK
set_option maxRecDepth 100000
set_option maxHeartbeats 4000000
theorem iLt0 {k : Int} (h : 0 ≤ k) : iLt k 0 = false := by rw [iLt_eq]; simp; omega
theorem c40 (F d : Nat) (hF : 100 < F) (rs : List Int) (a : Option Addr) (hn : rs.length ≤ 40) (hk : ∀ j, 0 ≤ rs.getD j 0 ∧ rs.getD j 0 ≤ 1000000) (hz : ∀ j, j < rs.length → rs.getD j 0 = 0 → j = 0 ∧ rs.length ≠ 1) :
    ReadC (CL F (d + 1)) 40 [.sl 1000 a rs.length rs.length] [(1000, roL a rs)] 0 (i64 0) := by
  intro R
  have hlen : iLt 40 (Int.ofNat rs.length) = false := by rw [iLt_eq]; simp; omega
  refine call_in (n := 42) Try.func40 rfl rfl rfl rfl rfl rfl rfl ?_
  repeat' ((conv => whnf); first
           | refine eqS_rfl ?_
           | refine eqA_rfl ?_
           | refine eqA_of (by assumption) ?_
           | refine eqS_of (by rfl) ?_
           | refine seS_rfl ?_
           | refine brS_tt ?_
           | refine brS_ff ?_
           | refine brS_not ?_
           | refine brS_t (iEq_self _) ?_
           | refine brS_t (by assumption) ?_
           | refine brS_f (by assumption) ?_
           | refine brS_intro (fun _ => ?_) (fun _ => ?_)
           | refine ltS_intro (by first | assumption | decide | exact Nat.le_of_ble_eq_true rfl | omega) ?_
           | refine ixS_of rfl (by first | assumption | decide | omega) ?_
           | refine okS_intro (by first | assumption | kernel_rfl) ?_
           | intro _)
  conv => whnf
  refine loS_i (fun j f m R' ni => ∃ i : Nat, i ≤ rs.length ∧ j = 41 - i ∧ f = [(0, .sl 1000 a rs.length rs.length), (10, .sl 1000 a rs.length rs.length), (11, .int .i64 (Int.ofNat rs.length)), (12, .int .i64 (Int.ofNat i))] ∧ m = [(1000, roL a rs)] ∧ R ≤ R') 41 (by omega)
    ⟨[(0, .sl 1000 a rs.length rs.length), (10, .sl 1000 a rs.length rs.length), (11, .int .i64 (Int.ofNat rs.length)), (12, .int .i64 (Int.ofNat 0))], _, R, 0, ⟨⟨rfl, rfl⟩, ⟨rfl, rfl⟩, ⟨rfl, rfl⟩, ⟨rfl, rfl⟩, trivial⟩, WkM.refl _, Nat.le_refl _, 0, by omega, rfl, rfl, rfl, Nat.le_refl _⟩ ?_
  rintro j _ _ R1 ni ⟨i, hi, rfl, rfl, rfl, hR⟩
  have h1 := iLt0 (hk i).1
  have h2 : iLt 1000000 (rs.getD i 0) = false := by rw [iLt_eq]; have := hk i; simp; simpa using this.2
  repeat' ((conv => whnf); first
           | refine eqS_rfl ?_
           | refine eqA_rfl ?_
           | refine eqA_of (by assumption) ?_
           | refine eqS_of (by rfl) ?_
           | refine seS_rfl ?_
           | refine brS_tt ?_
           | refine brS_ff ?_
           | refine brS_not ?_
           | refine brS_t (iEq_self _) ?_
           | refine brS_t (by assumption) ?_
           | refine brS_f (by assumption) ?_
           | refine brS_intro (fun _ => ?_) (fun _ => ?_)
           | refine ltS_intro (by first | assumption | decide | exact Nat.le_of_ble_eq_true rfl | omega) ?_
           | refine ixS_of rfl (by first | assumption | decide | omega) ?_
           | refine okS_intro (by first | assumption | kernel_rfl) ?_
           | refine ltS_intro (by have := lt_of_iLt ‹iLt (Int.ofNat _) (Int.ofNat _) = true›; omega) ?_
           | refine ixS_of rfl (by have := lt_of_iLt ‹iLt (Int.ofNat _) (Int.ofNat _) = true›; omega) ?_
           | intro _)
  · conv => whnf
    have hlt := lt_of_iLt ‹iLt (Int.ofNat i) (Int.ofNat rs.length) = true›
    exact ⟨41 - (i + 1), [(0, .sl 1000 a rs.length rs.length), (10, .sl 1000 a rs.length rs.length), (11, .int .i64 (Int.ofNat rs.length)), (12, .int .i64 (Int.ofNat (i + 1)))], _, _, 0, by omega, ⟨⟨rfl, rfl⟩, ⟨rfl, rfl⟩, ⟨rfl, rfl⟩, ⟨congrArg (Value.int .i64) (wr_nat (i := i + 1) (by omega)), rfl⟩, trivial⟩, WkM.refl _, Nat.le_refl _, i + 1, by omega, rfl, rfl, rfl, hR⟩
  · conv => whnf
    refine loS_i (fun j f m R' ni => ∃ i : Nat, i ≤ rs.length ∧ j = 41 - i ∧ f = [(0, .sl 1000 a rs.length rs.length), (23, .sl 1000 a rs.length rs.length), (24, .int .i64 (Int.ofNat rs.length)), (25, .int .i64 (Int.ofNat i))] ∧ m = [(1000, roL a rs)] ∧ R ≤ R') 41 (by omega)
      ⟨[(0, .sl 1000 a rs.length rs.length), (23, .sl 1000 a rs.length rs.length), (24, .int .i64 (Int.ofNat rs.length)), (25, .int .i64 (Int.ofNat 0))], _, R1, 0, ⟨⟨rfl, rfl⟩, ⟨rfl, rfl⟩, ⟨rfl, rfl⟩, ⟨rfl, rfl⟩, trivial⟩, WkM.refl _, Nat.le_refl _, 0, by omega, rfl, rfl, rfl, hR⟩ ?_
    rintro j _ _ R2 ni ⟨i, hi, rfl, rfl, rfl, hR⟩
    repeat' ((conv => whnf); first
             | refine eqS_rfl ?_
             | refine eqA_rfl ?_
             | refine eqA_of (by assumption) ?_
             | refine eqS_of (by rfl) ?_
             | refine seS_rfl ?_
             | refine brS_tt ?_
             | refine brS_ff ?_
             | refine brS_not ?_
             | refine brS_t (iEq_self _) ?_
             | refine brS_t (by assumption) ?_
             | refine brS_f (by assumption) ?_
             | refine brS_intro (fun _ => ?_) (fun _ => ?_)
             | refine ltS_intro (by first | assumption | decide | exact Nat.le_of_ble_eq_true rfl | omega) ?_
             | refine ixS_of rfl (by first | assumption | decide | omega) ?_
             | refine okS_intro (by first | assumption | kernel_rfl) ?_
             | refine ltS_intro (by have := lt_of_iLt ‹iLt (Int.ofNat _) (Int.ofNat _) = true›; omega) ?_
             | refine ixS_of rfl (by have := lt_of_iLt ‹iLt (Int.ofNat _) (Int.ofNat _) = true›; omega) ?_
             | intro _)
    all_goals conv => whnf
    all_goals first
      | (exfalso
         have hz1 := hz i (lt_of_iLt ‹iLt (Int.ofNat i) (Int.ofNat rs.length) = true›) (ieq_t ‹iEq (rs.getD i 0) 0 = true›)
         first
           | (have h : (0 : Int) < (i : Int) := ilt_t ‹iLt 0 (Int.ofNat i) = true›; omega)
           | (have h : (rs.length : Int) = 1 := ieq_t ‹iEq (Int.ofNat rs.length) 1 = true›; omega))
      | (have hlt := lt_of_iLt ‹iLt (Int.ofNat i) (Int.ofNat rs.length) = true›
         exact ⟨41 - (i + 1), [(0, .sl 1000 a rs.length rs.length), (23, .sl 1000 a rs.length rs.length), (24, .int .i64 (Int.ofNat rs.length)), (25, .int .i64 (Int.ofNat (i + 1)))], _, _, 0, by omega, ⟨⟨rfl, rfl⟩, ⟨rfl, rfl⟩, ⟨rfl, rfl⟩, ⟨congrArg (Value.int .i64) (wr_nat (i := i + 1) (by omega)), rfl⟩, trivial⟩, WkM.refl _, Nat.le_refl _, i + 1, by omega, rfl, rfl, rfl, hR⟩)
      | exact ⟨rfl, hR⟩
end Go.Proofs.Ytildnbpdhkdddaa
namespace Go.Proofs.Ytildnbpdhkdddaa
open Go.Ab
attribute [local irreducible] aggOk drwOK
set_option maxRecDepth 100000
set_option maxHeartbeats 4000000
theorem take_succ_getD (rs : List Int) {i : Nat} (h : i < rs.length) : rs.take (i + 1) = rs.take i ++ [rs.getD i 0] := by
  rw [List.take_succ_eq_append_getElem h]
  simp [List.getD_eq_getElem?_getD, List.getElem?_eq_getElem h]
theorem c17 (F d : Nat) (hF : 100 < F) (rs : List Int) (a : Option Addr) (hn : rs.length ≤ 40) (hk : ∀ j, 0 ≤ rs.getD j 0 ∧ rs.getD j 0 ≤ 1000000) (hz : ∀ j, j < rs.length → rs.getD j 0 = 0 → j = 0 ∧ rs.length ≠ 1)
    (hm : ∀ i, i ≤ rs.length → ((0 ≤ (stF (rs.take i)).a ∧ 0 ≤ (stF (rs.take i)).b) ∧ 0 ≤ (stF (rs.take i)).c ∧ 0 ≤ (stF (rs.take i)).d) ∧ (stF (rs.take i)).a + (stF (rs.take i)).c ≤ 1000000 ∧ (stF (rs.take i)).b + (stF (rs.take i)).d ≤ 1000000) :
    ReadC (CL F (d + 3)) 17 [.sl 1000 a rs.length rs.length] [(1000, roL a rs)] 900 (.tup [pt ((stF rs).a + (stF rs).c) ((stF rs).b + (stF rs).d), i64 0]) := by
  intro R
  refine call_in (n := 39) Try.func17 rfl rfl rfl rfl rfl rfl rfl ?_
  repeat' ((conv => whnf); first
           | refine eqS_rfl ?_
           | refine eqA_rfl ?_
           | refine eqA_of (by assumption) ?_
           | refine eqS_of (by rfl) ?_
           | refine seS_rfl ?_
           | refine brS_tt ?_
           | refine brS_ff ?_
           | refine brS_not ?_
           | refine brS_t (iEq_self _) ?_
           | refine brS_t (by assumption) ?_
           | refine brS_f (by assumption) ?_
           | refine brS_intro (fun _ => ?_) (fun _ => ?_)
           | refine ltS_intro (by first | assumption | decide | exact Nat.le_of_ble_eq_true rfl | omega) ?_
           | refine ixS_of rfl (by first | assumption | decide | omega) ?_
           | refine okS_intro (by first | assumption | kernel_rfl) ?_
           | refine call_read (c40 F _ hF rs a hn hk hz) rfl (SeesM.cons 1000 (sees_ro (i := 1000) rfl) (.nil _) (fun _ _ _ _ _ _ x hx => by cases hx)) ?_
           | refine call_pure (c41 F _) ?_
           | intro _)
  conv => whnf
  rename_i b2 b5
  refine loS_i (fun j f m R' ni => ∃ (i : Nat) (p q r s : Int), i ≤ rs.length ∧ stF (rs.take i) = ⟨p, q, r, s⟩ ∧ j = 41 - i ∧ f = [(2, .ptr 2 b2 0), (5, .ptr 5 b5 0), (16, .sl 1000 a rs.length rs.length), (17, .int .i64 (Int.ofNat rs.length)), (18, .int .i64 (Int.ofNat i))] ∧ m = [(5, .own b5 79 [i64 p, i64 q, i64 r, i64 s]), (2, .own b2 23 [i64 0, i64 0]), (1000, roL a rs)] ∧ R' = addL (R + 20 * (40 - i)) 20 ∧ ni = 200) 41 (by omega)
    ⟨[(2, .ptr 2 b2 0), (5, .ptr 5 b5 0), (16, .sl 1000 a rs.length rs.length), (17, .int .i64 (Int.ofNat rs.length)), (18, .int .i64 (Int.ofNat 0))], [(5, .own b5 79 [i64 0, i64 1, i64 1, i64 0]), (2, .own b2 23 [i64 0, i64 0]), (1000, roL a rs)], addL (R + 20 * (40 - 0)) 20, 200, ⟨⟨rfl, rfl⟩, ⟨rfl, rfl⟩, ⟨rfl, rfl⟩, ⟨rfl, rfl⟩, ⟨rfl, rfl⟩, trivial⟩, WkM.sub (.refl _), ?_, 0, 0, 1, 1, 0, by omega, rfl, rfl, rfl, rfl, rfl, rfl⟩ ?_
  · show addL _ _ ≤ addL R 897
    rw [addL_eq, addL_eq]; omega
  · rintro j _ _ _ _ ⟨i, p, q, r, s, hi, hst, rfl, rfl, rfl, rfl, rfl⟩
    have hm0 := hm i hi
    rw [hst] at hm0
    obtain ⟨⟨⟨ga, gb⟩, gc, gd⟩, ge, gf⟩ := hm0
    have ga : 0 ≤ p := ga
    have gb : 0 ≤ q := gb
    have gc : 0 ≤ r := gc
    have gd : 0 ≤ s := gd
    have ge : p + r ≤ 1000000 := ge
    have gf : q + s ≤ 1000000 := gf
    have hki := hk i
    have hnext : i < rs.length → (stF (rs.take (i + 1)) = ⟨r, s, p + rs.getD i 0 * r, q + rs.getD i 0 * s⟩ ∧ 0 ≤ p + rs.getD i 0 * r ∧ 0 ≤ q + rs.getD i 0 * s ∧ r + (p + rs.getD i 0 * r) ≤ 1000000 ∧ s + (q + rs.getD i 0 * s) ≤ 1000000) := fun hlt => by
      have e : stF (rs.take (i + 1)) = ⟨r, s, p + rs.getD i 0 * r, q + rs.getD i 0 * s⟩ := by rw [take_succ_getD rs hlt, stF_snoc, hst]; rfl
      have h1 := hm (i + 1) (by omega)
      rw [e] at h1
      exact ⟨e, h1.1.2.1, h1.1.2.2, h1.2.1, h1.2.2⟩
    repeat' ((conv => whnf); first
             | refine eqS_rfl ?_
             | refine eqA_rfl ?_
             | refine eqA_of (by assumption) ?_
             | refine eqS_of (by rfl) ?_
             | refine seS_rfl ?_
             | refine brS_tt ?_
             | refine brS_ff ?_
             | refine brS_not ?_
             | refine brS_t (iEq_self _) ?_
             | refine brS_t (by assumption) ?_
             | refine brS_f (by assumption) ?_
             | refine brS_intro (fun _ => ?_) (fun _ => ?_)
             | refine ltS_intro (by first | assumption | decide | exact Nat.le_of_ble_eq_true rfl | omega) ?_
             | refine ixS_of rfl (by first | assumption | decide | omega) ?_
             | refine okS_intro (by first | assumption | kernel_rfl) ?_
             | refine ltS_intro (by have := lt_of_iLt ‹iLt (Int.ofNat _) (Int.ofNat _) = true›; omega) ?_
             | refine ixS_of rfl (by have := lt_of_iLt ‹iLt (Int.ofNat _) (Int.ofNat _) = true›; omega) ?_
             | refine call_pure (c42 F _ _ _ _ _ _ (mv_wr (by omega) (by omega) (by omega)) (mv_wr (by omega) (by omega) (by omega))) ?_
             | refine call_pure (c43 F _ _ _ _ _ (mv_wr (by omega) (by omega) (by omega)) (mv_wr (by omega) (by omega) (by omega))) ?_
             | (obtain ⟨e5, e6, e7, e8, e9⟩ := hnext (lt_of_iLt ‹iLt (Int.ofNat i) (Int.ofNat rs.length) = true›); refine call_pure (c43 F _ _ _ _ _ (mv_wr (by omega) (by omega) (by omega)) (mv_wr (by omega) (by omega) (by omega))) ?_)
             | intro _)
    all_goals conv => whnf
    · exfalso
      have h := ilt_t ‹iLt 1000000 _ = true›
      omega
    · exfalso
      have h := ilt_t ‹iLt 1000000 _ = true›
      omega
    · have hlt := lt_of_iLt ‹iLt (Int.ofNat i) (Int.ofNat rs.length) = true›
      refine ⟨41 - (i + 1), [(2, .ptr 2 b2 0), (5, .ptr 5 b5 0), (16, .sl 1000 a rs.length rs.length), (17, .int .i64 (Int.ofNat rs.length)), (18, .int .i64 (Int.ofNat (i + 1)))], [(5, .own b5 79 [i64 r, i64 s, i64 (p + rs.getD i 0 * r), i64 (q + rs.getD i 0 * s)]), (2, .own b2 23 [i64 0, i64 0]), (1000, roL a rs)], addL (R + 20 * (40 - (i + 1))) 20, 200, by omega, ⟨⟨rfl, rfl⟩, ⟨rfl, rfl⟩, ⟨rfl, rfl⟩, ⟨rfl, rfl⟩, ⟨congrArg (Value.int .i64) (wr_nat (i := i + 1) (by omega)), rfl⟩, trivial⟩, WkM.drop (WkM.refl _), ?_, i + 1, r, s, p + rs.getD i 0 * r, q + rs.getD i 0 * s, by omega, (hnext hlt).1, rfl, rfl, rfl, rfl, rfl⟩
      refine Nat.le_trans ?_ (addL_le' (R + 20 * (40 - i)) 4)
      rw [addL_eq]; omega
    · have hge := ge_of_iLt ‹iLt (Int.ofNat i) (Int.ofNat rs.length) = false›
      have e : i = rs.length := by omega
      subst e
      rw [List.take_length] at hst
      rw [hst]
      refine ⟨rfl, Nat.le_trans (Nat.le_add_right R _) (addL_le' _ 16)⟩
end Go.Proofs.Ytildnbpdhkdddaa
namespace Go.Proofs.Ytildnbpdhkdddaa
open Go.Ab
attribute [local irreducible] aggOk drwOK
set_option maxRecDepth 100000
set_option maxHeartbeats 4000000
abbrev grB (a : Option Addr) (n : Nat) (f : Nat → List SV) : Ent := .gr a n 4 1 f
theorem grow_getB {n : Nat} {gf : Nat → List SV} {L : List Bool} (hn : n = L.length) (h : ∀ j, j < n → gf j = [.bool (L.getD j false)]) (b : Bool) : ∀ j, j < n + 1 → grow n 1 gf [.bool b] j = [.bool ((L ++ [b]).getD j false)] := by
  intro j hj
  unfold grow
  by_cases hlt : j < n
  · rw [blt_of hlt]
    simp only [cond_true]
    rw [h j hlt]
    simp [List.getD_eq_getElem?_getD, List.getElem?_append_left (show j < L.length by omega)]
  · have e : j = n := by omega
    subst e
    have : Nat.blt j j = false := by
      cases hb : Nat.blt j j with
      | false => rfl
      | true => have := blt_true hb; omega
    rw [this]
    simp only [cond_false]
    rw [show Nat.mul (Nat.sub j j) 1 = 0 by rw [show Nat.sub j j = 0 from Nat.sub_self j]]
    simp [List.getD_eq_getElem?_getD, hn]
theorem par_eq (i : Nat) : iEq (Int.tmod (Int.ofNat i) 2) 0 = decide (i % 2 = 0) := by
  have e : Int.tmod (Int.ofNat i) 2 = (i : Int) % 2 := Int.tmod_eq_emod_of_nonneg (Int.natCast_nonneg i)
  rw [e, iEq_eq, Bool.eq_iff_iff]
  simp only [beq_iff_eq, decide_eq_true_iff]
  omega
abbrev rpl (i : Nat) (k : Nat) : List Bool := List.replicate k (decide (i % 2 = 0))
theorem c31 (F d : Nat) (hF : 700 < F) (rs : List Int) (a : Option Addr) (hn : rs.length ≤ 40) (hk : ∀ j, 0 ≤ rs.getD j 0 ∧ rs.getD j 0 ≤ 600) (hz : ∀ j, j < rs.length → rs.getD j 0 = 0 → j = 0 ∧ rs.length ≠ 1)
    (hl : ∀ i, i ≤ rs.length → (mvN rs i).length ≤ 600) (R : Nat) :
    callS (CL F (d + 1)) (.fn 31 [] []) [.sl 1000 a rs.length rs.length] [(1000, roL a rs)] (addL R 1300) 0 fun w m' R' _ => (∃ a2 n2 gf, (n2 = (mvN rs rs.length).length ∧ ∀ j, j < n2 → gf j = [.bool ((mvN rs rs.length).getD j false)]) ∧ den w = .tuple ⟨[.slice a2 n2 n2, .bool true]⟩ ∧ WkM m' [(0, grB a2 n2 gf)]) ∧ R ≤ R' := by
  refine call_in (n := 54) Try.func31 rfl rfl rfl rfl rfl rfl rfl ?_
  repeat' ((conv => whnf); first
           | refine eqS_rfl ?_
           | refine eqA_rfl ?_
           | refine eqA_of (by assumption) ?_
           | refine eqS_of (by rfl) ?_
           | refine seS_rfl ?_
           | refine brS_tt ?_
           | refine brS_ff ?_
           | refine brS_not ?_
           | refine brS_t (iEq_self _) ?_
           | refine brS_t (by assumption) ?_
           | refine brS_f (by assumption) ?_
           | refine brS_intro (fun _ => ?_) (fun _ => ?_)
           | refine ltS_intro (by first | assumption | decide | exact Nat.le_of_ble_eq_true rfl | omega) ?_
           | refine ixS_of rfl (by first | assumption | decide | omega) ?_
           | refine okS_intro (by first | assumption | kernel_rfl) ?_
           | intro _)
  conv => whnf
  refine loS_i (fun j f m R' ni => ∃ (i : Nat) (a2 : Option Addr) (n2 : Nat) (gf : Nat → List SV), i ≤ rs.length ∧ n2 = (mvN rs i).length ∧ (∀ j, j < n2 → gf j = [.bool ((mvN rs i).getD j false)]) ∧ j = 41 - i ∧ f = [(0, .sl 1000 a rs.length rs.length), (4, .sl 4 a2 n2 n2), (8, .sl 1000 a rs.length rs.length), (9, .int .i64 (Int.ofNat rs.length)), (10, .int .i64 (Int.ofNat i))] ∧ m = [(4, grB a2 n2 gf), (1000, roL a rs)] ∧ R' = addL (R + 2 * (600 - n2)) 2 ∧ ni = 200) 41 (by omega)
    ⟨[(0, .sl 1000 a rs.length rs.length), (4, .sl 4 none 0 0), (8, .sl 1000 a rs.length rs.length), (9, .int .i64 (Int.ofNat rs.length)), (10, .int .i64 (Int.ofNat 0))], [(4, grB none 0 fun _ => []), (1000, roL a rs)], addL (R + 2 * (600 - 0)) 2, 200, ⟨⟨rfl, rfl⟩, ⟨rfl, rfl⟩, ⟨rfl, rfl⟩, ⟨rfl, rfl⟩, ⟨rfl, rfl⟩, trivial⟩, WkM.gr0 (WkM.refl _), ?_, 0, none, 0, _, by omega, rfl, fun j hj => absurd hj (Nat.not_lt_zero _), rfl, rfl, rfl, rfl, rfl⟩ ?_
  · show addL _ _ ≤ addL R 1300
    rw [addL_eq, addL_eq]; omega
  · rintro j _ _ _ _ ⟨i, a2, n2, gf, hi, hn2, hg, rfl, rfl, rfl, rfl, rfl⟩
    have h1 := iLt0 (hk i).1
    have h2 : iLt 600 (rs.getD i 0) = false := by rw [iLt_eq]; have := hk i; simp; simpa using this.2
    by_cases hlt : i < rs.length
    · have hs : (mvN rs (i + 1)).length = n2 + (rs.getD i 0).toNat := by rw [mvN, List.length_append, List.length_replicate, hn2]
      have hs2 : n2 + (rs.getD i 0).toNat ≤ 600 := by rw [← hs]; exact hl (i + 1) (by omega)
      have h0 : iLt (Int.ofNat i) (Int.ofNat rs.length) = true := by rw [iLt_eq]; exact decide_eq_true (Int.ofNat_lt.2 hlt)
      have h3 : iLt 600 (wr .i64 (Int.add (Int.ofNat n2) (rs.getD i 0))) = false := by
        have h5 := (hk i).1
        have e : Int.add (Int.ofNat n2) (rs.getD i 0) = ((n2 + (rs.getD i 0).toNat : Nat) : Int) := by show (n2 : Int) + rs.getD i 0 = _; omega
        rw [e, show wr .i64 ((n2 + (rs.getD i 0).toNat : Nat) : Int) = ((n2 + (rs.getD i 0).toNat : Nat) : Int) from wr_nat (by omega), iLt_eq]
        exact decide_eq_false (by omega)
      repeat' ((conv => whnf); first
               | refine eqS_rfl ?_
               | refine eqA_rfl ?_
               | refine eqA_of (by assumption) ?_
               | refine eqS_of (by rfl) ?_
               | refine seS_rfl ?_
               | refine brS_tt ?_
               | refine brS_ff ?_
               | refine brS_not ?_
               | refine brS_t (iEq_self _) ?_
               | refine brS_t (by assumption) ?_
               | refine brS_f (by assumption) ?_
               | refine brS_intro (fun _ => ?_) (fun _ => ?_)
               | refine ltS_intro (by first | assumption | decide | exact Nat.le_of_ble_eq_true rfl | omega) ?_
               | refine ixS_of rfl (by first | assumption | decide | omega) ?_
               | refine okS_intro (by first | assumption | kernel_rfl) ?_
               | refine ltS_intro (by have := lt_of_iLt ‹iLt (Int.ofNat _) (Int.ofNat _) = true›; omega) ?_
               | refine ixS_of rfl (by have := lt_of_iLt ‹iLt (Int.ofNat _) (Int.ofNat _) = true›; omega) ?_
               | intro _)
      all_goals conv => whnf
      all_goals try
        (exfalso
         have hz1 := hz i hlt (ieq_t ‹iEq (rs.getD i 0) 0 = true›)
         first
           | (have h : (0 : Int) < (i : Int) := ilt_t ‹iLt 0 (Int.ofNat i) = true›; omega)
           | (have h : (rs.length : Int) = 1 := ieq_t ‹iEq (Int.ofNat rs.length) 1 = true›; omega))
      all_goals
        refine loS_i (fun j f m R' ni => ∃ (k : Nat) (a3 : Option Addr) (n3 : Nat) (g3 : Nat → List SV), k ≤ (rs.getD i 0).toNat ∧ n3 = n2 + k ∧ (∀ j, j < n3 → g3 j = [.bool ((mvN rs i ++ rpl i k).getD j false)]) ∧ j = 601 - k ∧ f = [(0, .sl 1000 a rs.length rs.length), (4, .sl 4 a3 n3 n3), (5, .int .i64 (Int.ofNat i)), (6, i64 (rs.getD i 0)), (7, .int .i64 (Int.ofNat k)), (8, .sl 1000 a rs.length rs.length), (9, .int .i64 (Int.ofNat rs.length)), (10, .int .i64 (Int.ofNat i))] ∧ m = [(4, grB a3 n3 g3), (1000, roL a rs)] ∧ R' = addL (R + 2 * (600 - n3)) 2 ∧ ni = 200) 601 (by omega)
          ⟨[(0, .sl 1000 a rs.length rs.length), (4, .sl 4 a2 n2 n2), (5, .int .i64 (Int.ofNat i)), (6, i64 (rs.getD i 0)), (7, .int .i64 (Int.ofNat 0)), (8, .sl 1000 a rs.length rs.length), (9, .int .i64 (Int.ofNat rs.length)), (10, .int .i64 (Int.ofNat i))], [(4, grB a2 n2 gf), (1000, roL a rs)], addL (R + 2 * (600 - n2)) 2, 200, ⟨⟨rfl, rfl⟩, ⟨rfl, rfl⟩, ⟨rfl, rfl⟩, ⟨rfl, rfl⟩, ⟨rfl, rfl⟩, ⟨rfl, rfl⟩, ⟨rfl, rfl⟩, ⟨rfl, rfl⟩, trivial⟩, WkM.refl _, Nat.le_refl _, 0, a2, n2, gf, by omega, rfl, by simpa using hg, rfl, rfl, rfl, rfl, rfl⟩ ?_
        rintro j _ _ _ _ ⟨k, a3, n3, g3, hk3, hn3, hg3, rfl, rfl, rfl, rfl, rfl⟩
        repeat' ((conv => whnf); first
                 | refine eqS_rfl ?_
                 | refine eqA_rfl ?_
                 | refine eqA_of (by assumption) ?_
                 | refine eqS_of (by rfl) ?_
                 | refine seS_rfl ?_
                 | refine brS_tt ?_
                 | refine brS_ff ?_
                 | refine brS_not ?_
                 | refine brS_t (iEq_self _) ?_
                 | refine brS_t (by assumption) ?_
                 | refine brS_f (by assumption) ?_
                 | refine brS_intro (fun _ => ?_) (fun _ => ?_)
                 | refine ltS_intro (by first | assumption | decide | exact Nat.le_of_ble_eq_true rfl | omega) ?_
                 | refine ixS_of rfl (by first | assumption | decide | omega) ?_
                 | refine okS_intro (by first | assumption | kernel_rfl) ?_
                 | refine ltS_intro (by have := lt_of_iLt ‹iLt (Int.ofNat _) (Int.ofNat _) = true›; omega) ?_
                 | refine ixS_of rfl (by have := lt_of_iLt ‹iLt (Int.ofNat _) (Int.ofNat _) = true›; omega) ?_
                 | refine nzS_intro (by first | decide | assumption | omega) ?_
                 | refine ltS_intro (show n3 * 1 + 1 < 32769 by omega) ?_
                 | intro _)
        · conv => whnf
          rename_i b9 a4
          have hlt2 : (k : Int) < rs.getD i 0 := ilt_t ‹iLt (Int.ofNat k) (rs.getD i 0) = true›
          refine ⟨601 - (k + 1), [(0, .sl 1000 a rs.length rs.length), (4, .sl 4 a4 (Nat.add n3 1) (Nat.add n3 1)), (5, .int .i64 (Int.ofNat i)), (6, i64 (rs.getD i 0)), (7, .int .i64 (Int.ofNat (k + 1))), (8, .sl 1000 a rs.length rs.length), (9, .int .i64 (Int.ofNat rs.length)), (10, .int .i64 (Int.ofNat i))], [(4, grB a4 (Nat.add n3 1) (grow n3 1 g3 [.bool (iEq (Int.tmod (Int.ofNat i) 2) 0)])), (1000, roL a rs)], addL (R + 2 * (600 - (n3 + 1))) 2, 200, by omega,
            ⟨⟨rfl, rfl⟩, ⟨rfl, rfl⟩, ⟨rfl, rfl⟩, ⟨rfl, rfl⟩, ⟨congrArg (Value.int .i64) (wr_nat (i := k + 1) (by omega)), rfl⟩, ⟨rfl, rfl⟩, ⟨rfl, rfl⟩, ⟨rfl, rfl⟩, trivial⟩, WkM.sub (.cons_cons _ (.cons _ (.refl _))), ?_, k + 1, a4, Nat.add n3 1, _, by omega, (show n3 + 1 = n2 + (k + 1) by omega), ?_, rfl, rfl, rfl, rfl, rfl⟩
          · refine Nat.le_trans ?_ (addL_le' (R + 2 * (600 - n3)) 0)
            rw [addL_eq]; omega
          · have e : mvN rs i ++ rpl i (k + 1) = (mvN rs i ++ rpl i k) ++ [iEq (Int.tmod (Int.ofNat i) 2) 0] := by
              rw [par_eq, List.append_assoc, rpl, List.replicate_succ']
            rw [e]
            exact grow_getB (by rw [List.length_append, List.length_replicate, ← hn2]; exact hn3) hg3 _
        · conv => whnf
          have hge : rs.getD i 0 ≤ (k : Int) := ilt_f ‹iLt (Int.ofNat k) (rs.getD i 0) = false›
          have ek : k = (rs.getD i 0).toNat := by omega
          subst ek
          exact ⟨41 - (i + 1), [(0, .sl 1000 a rs.length rs.length), (4, .sl 4 a3 n3 n3), (8, .sl 1000 a rs.length rs.length), (9, .int .i64 (Int.ofNat rs.length)), (10, .int .i64 (Int.ofNat (i + 1)))], _, _, 200, by omega, ⟨⟨rfl, rfl⟩, ⟨rfl, rfl⟩, ⟨rfl, rfl⟩, ⟨rfl, rfl⟩, ⟨congrArg (Value.int .i64) (wr_nat (i := i + 1) (by omega)), rfl⟩, trivial⟩, WkM.refl _, Nat.le_refl _, i + 1, a3, n3, g3, by omega, by rw [hs]; exact hn3, hg3, rfl, rfl, rfl, rfl, rfl⟩
    · have h0 : iLt (Int.ofNat i) (Int.ofNat rs.length) = false := by rw [iLt_eq]; exact decide_eq_false (fun h => hlt (Int.ofNat_lt.1 h))
      repeat' ((conv => whnf); first
               | refine eqS_rfl ?_
               | refine eqA_rfl ?_
               | refine eqA_of (by assumption) ?_
               | refine eqS_of (by rfl) ?_
               | refine seS_rfl ?_
               | refine brS_tt ?_
               | refine brS_ff ?_
               | refine brS_not ?_
               | refine brS_t (iEq_self _) ?_
               | refine brS_t (by assumption) ?_
               | refine brS_f (by assumption) ?_
               | refine brS_intro (fun _ => ?_) (fun _ => ?_)
               | refine ltS_intro (by first | assumption | decide | exact Nat.le_of_ble_eq_true rfl | omega) ?_
               | refine ixS_of rfl (by first | assumption | decide | omega) ?_
               | refine okS_intro (by first | assumption | kernel_rfl) ?_
               | intro _)
      conv => whnf
      have e : i = rs.length := by omega
      subst e
      exact ⟨⟨a2, n2, gf, ⟨hn2, hg⟩, rfl, WkM.sub (.cons_cons _ (.cons _ (.refl _)))⟩, Nat.le_trans (Nat.le_add_right R _) (addL_le' _ 2)⟩
end Go.Proofs.Ytildnbpdhkdddaa
namespace Go.Proofs.Ytildnbpdhkdddaa
open Go.Ab
attribute [local irreducible] aggOk drwOK
set_option maxRecDepth 100000
set_option maxHeartbeats 4000000
theorem mvN_mono (rs : List Int) : ∀ {i j : Nat}, i ≤ j → (mvN rs i).length ≤ (mvN rs j).length := by
  intro i j h
  obtain ⟨t, rfl⟩ : ∃ t, j = i + t := ⟨j - i, by omega⟩
  induction t with
  | zero => exact Nat.le_refl _
  | succ t ih =>
    refine Nat.le_trans (ih (by omega)) ?_
    show (mvN rs (i + t)).length ≤ (mvN rs (i + t) ++ _).length
    rw [List.length_append]; omega
theorem PathR.ok {p q : Int} {rs : List Int} (h : PathR p q rs) (hp : 1 ≤ p ∧ p ≤ 512) (hq : 1 ≤ q ∧ q ≤ 512) : rs.length ≤ 40 ∧ (∀ j, 0 ≤ rs.getD j 0 ∧ rs.getD j 0 ≤ 600) ∧ (∀ i, i ≤ rs.length → (mvN rs i).length ≤ 600) ∧ (mvN rs rs.length).length ≤ 511 := by
  have hl : ((mvN rs rs.length).length : Int) < 512 := h.gd.len_le hp.1 hq.1 hp.2 hq.2
  have hl2 : ∀ i, i ≤ rs.length → (mvN rs i).length ≤ 600 := fun i hi => by have := mvN_mono rs hi; omega
  refine ⟨?_, fun j => ?_, hl2, by omega⟩
  · rcases Nat.lt_or_ge 40 rs.length with h1 | h1
    rotate_left
    · exact h1
    · exfalso
      have h2 : (p + q) * (2 * (p + q)) ≤ 1024 * 2048 := Int.mul_le_mul (by omega) (by omega) (by omega) (by decide)
      have h3 : (2 : Int) ^ 41 ≤ 2 ^ rs.length := by
        obtain ⟨v, hv⟩ : ∃ v, rs.length = 41 + v := ⟨rs.length - 41, by omega⟩
        rw [hv, Int.pow_add]
        have : (1 : Int) ≤ 2 ^ v := Int.pow_pos (by decide)
        have := Int.mul_le_mul_of_nonneg_left this (show (0 : Int) ≤ 2 ^ 41 by decide)
        omega
      have := h.w
      have h4 : (2 : Int) ^ 41 ≤ 1024 * 2048 := Int.le_trans h3 (Int.le_trans this h2)
      exact absurd h4 (by decide)
  · by_cases hj : j < rs.length
    · have hm : rs.getD j 0 ∈ rs := by
        rw [List.getD_eq_getElem?_getD, List.getElem?_eq_getElem hj]; exact List.getElem_mem hj
      have h0 := h.pos _ hm
      refine ⟨h0, ?_⟩
      have h1 : (mvN rs (j + 1)).length = (mvN rs j).length + (rs.getD j 0).toNat := by rw [mvN, List.length_append, List.length_replicate]
      have h2 := hl2 (j + 1) (by omega)
      omega
    · rw [List.getD_eq_getElem?_getD, List.getElem?_eq_none (by omega)]
      exact ⟨by decide, by decide⟩
abbrev roB (a : Option Addr) (L : List Bool) : Ent := .ro a L.length L.length 1 fun j => [.bool (L.getD j false)]
theorem sees1 {m : Mem} {i : Nat} {a : Option Addr} {rs : List Int} (h : getM m i = some (roL a rs)) : SeesM m [(1000, roL a rs)] := .cons 1000 (sees_ro (i := i) h) (.nil _) fun _ _ _ _ _ _ x hx => by cases hx
theorem call_walked {F d : Nat} (hF : 700 < F) {rs : List Int} {a : Option Addr} {p q : Int} (h : PathR p q rs) (hp : 1 ≤ p ∧ p ≤ 512) (hq : 1 ≤ q ∧ q ≤ 512) {m : Mem} (i : Nat) (hs : getM m i = some (roL a rs)) {R ni : Nat} {K : SV → Mem → Nat → Nat → Prop}
    (hK : takeR 1300 R fun R => ∀ a2, K (.tup [.sl ni a2 (mvN rs rs.length).length (mvN rs rs.length).length, .bool true]) ((ni, roB a2 (mvN rs rs.length)) :: m) R (ni + 1)) : callS (CL F (d + 1)) (.fn 31 [] []) [.sl i a rs.length rs.length] m R ni K := by
  obtain ⟨h1, h2, h3, _⟩ := h.ok hp hq
  have hc := c31 F d hF rs a h1 h2 h.zero h3
  obtain ⟨hR, hK⟩ := takeR_inv hK
  have h4 : callS (CL F (d + 1)) (.fn 31 [] []) [.sl i a rs.length rs.length] m R ni fun w m' R' n' => ∃ a2 n2 gf, (n2 = (mvN rs rs.length).length ∧ ∀ j, j < n2 → gf j = [.bool ((mvN rs rs.length).getD j false)]) ∧ w = .tup [.sl ni a2 n2 n2, .bool true] ∧ m' = (ni, grB a2 n2 gf) :: m ∧ R' = R - 1300 := by
    refine call_fresh (fun i a n => .tup [.sl i a n n, .bool true]) (fun _ _ _ => rfl) hc rfl (sees1 hs) ?_
    exact takeR_le hR fun a2 n2 gf hq => ⟨a2, n2, gf, hq, rfl, rfl, rfl⟩
  refine call_post h4 fun w m' R' n' hq => ?_
  obtain ⟨a2, n2, gf, ⟨e1, e2⟩, rfl, rfl, rfl⟩ := hq
  subst e1
  exact ⟨_, (ni, roB a2 (mvN rs rs.length)) :: m, _, ni + 1, rfl, WkM.gr_ro (i := ni) e2 (WkM.refl _), Nat.le_refl _, hK a2⟩
theorem call_follow {F d : Nat} (hF : 100 < F) {rs : List Int} {a : Option Addr} {p q : Int} (h : PathR p q rs) (hp : 1 ≤ p ∧ p ≤ 512) (hq : 1 ≤ q ∧ q ≤ 512) {m : Mem} (i : Nat) (hs : getM m i = some (roL a rs)) {R ni : Nat} {K : SV → Mem → Nat → Nat → Prop}
    (hK : takeR 900 R fun R => K (.tup [pt ((stF rs).a + (stF rs).c) ((stF rs).b + (stF rs).d), i64 0]) m R ni) : callS (CL F (d + 3)) (.fn 17 [] []) [.sl i a rs.length rs.length] m R ni K := by
  obtain ⟨h1, h2, _, _⟩ := h.ok hp hq
  refine call_read (c17 F d hF rs a h1 (fun j => ⟨(h2 j).1, Int.le_trans (h2 j).2 (by decide)⟩) h.zero fun i hi => ?_) rfl (sees1 hs) hK
  obtain ⟨g1, g2, g3⟩ := h.mid i hi
  exact ⟨g1, by omega, by omega⟩
end Go.Proofs.Ytildnbpdhkdddaa
namespace Go.Proofs.Ytildnbpdhkdddaa
open Go.Ab
attribute [local irreducible] aggOk drwOK
set_option maxRecDepth 100000
set_option maxHeartbeats 4000000
abbrev u8 (n : Int) : SV := .int .u8 n
theorem one_wr {x : Int} (h : 0 ≤ x ∧ x < 256) : wr .i64 (Int.add 1 (wr .i64 x)) = 1 + x := by
  rw [show wr .i64 x = x from wr_id (by omega) (by omega)]
  exact wr_id (n := 1 + x) (by omega) (by omega)
theorem ad_wr {a b : Int} (h : -1000 ≤ a ∧ a ≤ 1000) (k : -1000 ≤ b ∧ b ≤ 1000) : wr .i64 (Int.add a b) = a + b := wr_id (n := a + b) (by omega) (by omega)
theorem getB {l : List Bool} {i : Nat} (h : i < l.length) : l.getD i false = l[i] := by rw [List.getD_eq_getElem?_getD, List.getElem?_eq_getElem h]; rfl
theorem law10 (F d : Nat) (hF : 1000 < F) (x0 x1 x2 x3 : Int) (h0 : 0 ≤ x0 ∧ x0 < 256) (h1 : 0 ≤ x1 ∧ x1 < 256) (h2 : 0 ≤ x2 ∧ x2 < 256) (h3 : 0 ≤ x3 ∧ x3 < 256) : PureC (CL F (d + 10)) 10 [.agg [u8 x0, u8 x1], .agg [u8 x2, u8 x3]] 216818 (.bool true) := by
  have e0 := one_wr h0
  have e1 := one_wr h1
  have e2 := one_wr h2
  have e3 := one_wr h3
  have hF1 : 100 < F := by omega
  intro m R
  have eR : addL R 216818 = addL (addL (addL (addL (addL (addL (addL ((addL (addL (addL (addL (addL (R + 18030) 2600) 10) 48002) 10) 48002) + 610) 3503) 10) 48002) 1) 10) 48002) 26 := by
    simp only [addL_eq]
  rw [eR]
  refine call_in (n := 280) Try.func10 rfl rfl rfl rfl rfl rfl rfl ?_
  repeat' ((conv => whnf); first
           | refine eqS_rfl ?_
           | refine eqA_rfl ?_
           | refine eqA_of (by assumption) ?_
           | refine eqS_of (by rfl) ?_
           | refine seS_rfl ?_
           | refine brS_tt ?_
           | refine brS_ff ?_
           | refine brS_not ?_
           | refine brS_t (iEq_self _) ?_
           | refine brS_t (by assumption) ?_
           | refine brS_f (by assumption) ?_
           | refine brS_intro (fun _ => ?_) (fun _ => ?_)
           | refine ltS_intro (by first | assumption | decide | exact Nat.le_of_ble_eq_true rfl | omega) ?_
           | refine ixS_of rfl (by first | assumption | decide | omega) ?_
           | refine okS_intro (by first | assumption | kernel_rfl) ?_
           | refine callS.cast (args' := [i64 (1 + x0), i64 (1 + x1)]) rfl (by show [Value.int .i64 _, Value.int .i64 _] = [Value.int .i64 (1 + x0), Value.int .i64 (1 + x1)]; rw [e0, e1]) (call_pure (c28 F _ _ _) ?_)
           | refine callS.cast (args' := [i64 (1 + x2), i64 (1 + x3)]) rfl (by show [Value.int .i64 _, Value.int .i64 _] = [Value.int .i64 (1 + x2), Value.int .i64 (1 + x3)]; rw [e2, e3]) (call_pure (c28 F _ _ _) ?_)
           | intro _)
  conv => whnf
  refine call_path hF1 ⟨by omega, by omega⟩ ⟨by omega, by omega⟩ fun ps ap hp => ?_
  repeat' ((conv => whnf); first
           | refine eqS_rfl ?_
           | refine eqA_rfl ?_
           | refine eqA_of (by assumption) ?_
           | refine eqS_of (by rfl) ?_
           | refine seS_rfl ?_
           | refine brS_tt ?_
           | refine brS_ff ?_
           | refine brS_not ?_
           | refine brS_t (iEq_self _) ?_
           | refine brS_t (by assumption) ?_
           | refine brS_f (by assumption) ?_
           | refine brS_intro (fun _ => ?_) (fun _ => ?_)
           | refine ltS_intro (by first | assumption | decide | exact Nat.le_of_ble_eq_true rfl | omega) ?_
           | refine ixS_of rfl (by first | assumption | decide | omega) ?_
           | refine okS_intro (by first | assumption | kernel_rfl) ?_
           | refine call_pure (c28 F _ _ _) ?_
           | intro _)
  conv => whnf
  refine call_path hF1 ⟨by omega, by omega⟩ ⟨by omega, by omega⟩ fun qs aq hq => ?_
  have hpx : 1 ≤ 1 + x0 ∧ 1 + x0 ≤ 512 := by omega
  have hpd : 1 ≤ 1 + x1 ∧ 1 + x1 ≤ 512 := by omega
  have hV : mvN qs qs.length = (mvN ps ps.length).map (!·) := hq.gd.eq hp.gd.not hq.fin hp.fin.not
  obtain ⟨hU, hU2⟩ : ∃ U, U = mvN ps ps.length := ⟨_, rfl⟩
  have hg := hp.gd.geo hpx.1 hpd.1
  have hle := hp.gd.le hpx.1 hpd.1
  have hen := hp.end_
  have hfin := hp.fin
  unfold Fin at hfin
  rw [← hen.1, ← hen.2] at hfin hle
  have g0 : wr .i64 (Int.mul ((stF ps).a + (stF ps).c) (1 + x1)) = wr .i64 (Int.mul (1 + x0) ((stF ps).b + (stF ps).d)) := by
    have : Int.mul ((stF ps).a + (stF ps).c) (1 + x1) = Int.mul (1 + x0) ((stF ps).b + (stF ps).d) := hfin.symm
    rw [this]
  have g1 : iEq (wr .i64 (Int.mul ((stF ps).a + (stF ps).c) (1 + x1))) (wr .i64 (Int.mul (1 + x0) ((stF ps).b + (stF ps).d))) = true := by rw [g0]; exact iEq_self _
  have g2 : iLt ((stF ps).b + (stF ps).d) 1 = false := by rw [iLt_eq]; exact decide_eq_false (by rw [hen.2]; omega)
  have g3 : iLt (1 + x1) ((stF ps).b + (stF ps).d) = false := by rw [iLt_eq]; exact decide_eq_false (by omega)
  have g4 : iEq (Int.ofNat (mvN ps ps.length).length) (Int.ofNat (mvN qs qs.length).length) = true := by rw [hV, List.length_map]; exact iEq_self _
  repeat' ((conv => whnf); first
           | refine eqS_rfl ?_
           | refine eqA_rfl ?_
           | refine eqA_of (by assumption) ?_
           | refine eqS_of (by rfl) ?_
           | refine seS_rfl ?_
           | refine brS_tt ?_
           | refine brS_ff ?_
           | refine brS_not ?_
           | refine brS_t (iEq_self _) ?_
           | refine brS_t (by assumption) ?_
           | refine brS_f (by assumption) ?_
           | refine brS_intro (fun _ => ?_) (fun _ => ?_)
           | refine ltS_intro (by first | assumption | decide | exact Nat.le_of_ble_eq_true rfl | omega) ?_
           | refine ixS_of rfl (by first | assumption | decide | omega) ?_
           | refine okS_intro (by first | assumption | kernel_rfl) ?_
           | refine call_follow hF1 hp hpx hpd _ rfl ?_
           | refine call_walked (by omega) hp hpx hpd _ rfl ?_
           | refine call_walked (by omega) hq hpd hpx _ rfl ?_
           | intro _)
  conv => whnf
  rename_i _ _ b5 b6 _ aU aV b17 b18
  have hVl : (mvN qs qs.length).length = (mvN ps ps.length).length := by rw [hV, List.length_map]
  have hUl : (mvN ps ps.length).length ≤ 511 := (hp.ok hpx hpd).2.2.2
  refine loS_i (fun j f m' R' ni => ∃ (i : Nat) (a b c e : Int), i ≤ (mvN ps ps.length).length ∧ nbL ((mvN ps ps.length).take i) = ⟨a, b, c, e⟩ ∧ j = 512 - i ∧ f = [(5, .ptr 5 b5 0), (6, .ptr 6 b6 0), (13, .sl 13 aU (mvN ps ps.length).length (mvN ps ps.length).length), (15, .sl 15 aV (mvN qs qs.length).length (mvN qs qs.length).length), (17, .ptr 17 b17 0), (18, .ptr 18 b18 0), (125, .sl 13 aU (mvN ps ps.length).length (mvN ps ps.length).length), (126, .int .i64 (Int.ofNat (mvN ps ps.length).length)), (127, .int .i64 (Int.ofNat i))] ∧
      m' = (18, .own b18 54 [i64 c, i64 e]) :: (17, .own b17 54 [i64 a, i64 b]) :: (15, roB aV (mvN qs qs.length)) :: (13, roB aU (mvN ps ps.length)) :: (6, .own b6 23 [i64 (1 + x2), i64 (1 + x3)]) :: (5, .own b5 23 [i64 (1 + x0), i64 (1 + x1)]) :: m ∧ R' = addL ((addL (addL (addL (addL (addL (R + 18030) 2600) 10) 48002) 10) 48002) + (600 - i)) 10 ∧ ni = 200) 512 (by omega)
    ⟨[(5, .ptr 5 b5 0), (6, .ptr 6 b6 0), (13, .sl 13 aU (mvN ps ps.length).length (mvN ps ps.length).length), (15, .sl 15 aV (mvN qs qs.length).length (mvN qs qs.length).length), (17, .ptr 17 b17 0), (18, .ptr 18 b18 0), (125, .sl 13 aU (mvN ps ps.length).length (mvN ps ps.length).length), (126, .int .i64 (Int.ofNat (mvN ps ps.length).length)), (127, .int .i64 (Int.ofNat 0))],
      (18, .own b18 54 [i64 1, i64 0]) :: (17, .own b17 54 [i64 0, i64 1]) :: (15, roB aV (mvN qs qs.length)) :: (13, roB aU (mvN ps ps.length)) :: (6, .own b6 23 [i64 (1 + x2), i64 (1 + x3)]) :: (5, .own b5 23 [i64 (1 + x0), i64 (1 + x1)]) :: m, addL ((addL (addL (addL (addL (addL (R + 18030) 2600) 10) 48002) 10) 48002) + (600 - 0)) 10, 200, ⟨⟨rfl, rfl⟩, ⟨rfl, rfl⟩, ⟨rfl, rfl⟩, ⟨rfl, rfl⟩, ⟨rfl, rfl⟩, ⟨rfl, rfl⟩, ⟨rfl, rfl⟩, ⟨rfl, rfl⟩, ⟨rfl, rfl⟩, trivial⟩,
      WkM.sub (.cons_cons _ (.cons_cons _ (.cons_cons _ (.cons_cons _ (.cons _ (.cons _ (.cons _ (.cons_cons _ (.cons_cons _ (.cons _ (.cons _ (.refl _)))))))))))), ?_, 0, 0, 1, 1, 0, by omega, rfl, rfl, rfl, rfl, rfl, rfl⟩ ?_
  · exact Nat.le_refl ((addL (addL (addL (addL (addL (R + 18030) 2600) 10) 48002) 10) 48002) + 610)
  · rintro j _ _ _ _ ⟨i, a, b, c, e, hi, hst, rfl, rfl, rfl, rfl, rfl⟩
    have hgi := (hp.gd.take i).geo hpx.1 hpd.1
    have hlei := (hp.gd.take i).le hpx.1 hpd.1
    rw [hst] at hgi hlei
    obtain ⟨i1, i2, i3, i4, i5, i6, i7⟩ := hgi
    have i1 : 0 ≤ a := i1
    have i2 : 1 ≤ b := i2
    have i3 : 1 ≤ c := i3
    have i4 : 0 ≤ e := i4
    have i8 : b + e ≤ 1 + x1 := hlei.1
    have i9 : a + c ≤ 1 + x0 := hlei.2
    have s1 : wr .i64 (Int.add a c) = a + c := ad_wr (by omega) (by omega)
    have s2 : wr .i64 (Int.add b e) = b + e := ad_wr (by omega) (by omega)
    have t1 : wr .i64 (Int.mul (wr .i64 (Int.add a c)) (1 + x1)) = (a + c) * (1 + x1) := wr_mul s1 rfl (Bd.of (B := 1000) (by omega) (by omega)) (Bd.of (B := 1000) (by omega) (by omega)) (by decide)
    have t2 : wr .i64 (Int.mul (1 + x0) (wr .i64 (Int.add b e))) = (1 + x0) * (b + e) := wr_mul rfl s2 (Bd.of (B := 1000) (by omega) (by omega)) (Bd.of (B := 1000) (by omega) (by omega)) (by decide)
    by_cases hlt : i < (mvN ps ps.length).length
    · have hc0 : iLt (Int.ofNat i) (Int.ofNat (mvN ps ps.length).length) = true := by rw [iLt_eq]; exact decide_eq_true (Int.ofNat_lt.2 hlt)
      have gat := hp.gd.at i hlt
      rw [hst] at gat
      have gat : ((mvN ps ps.length)[i] = true ∧ (a + c) * (1 + x1) < (1 + x0) * (b + e)) ∨ ((mvN ps ps.length)[i] = false ∧ (1 + x0) * (b + e) < (a + c) * (1 + x1)) := gat
      have q1 : ((mvN qs qs.length).getD i false == (mvN ps ps.length).getD i false) = false := by
        rw [hV, getB (by rw [List.length_map]; exact hlt), getB hlt, List.getElem_map]
        cases (mvN ps ps.length)[i] <;> rfl
      have q2 : (iLt (wr .i64 (Int.mul (wr .i64 (Int.add a c)) (1 + x1))) (wr .i64 (Int.mul (1 + x0) (wr .i64 (Int.add b e)))) == (mvN ps ps.length).getD i false) = true := by
        rw [t1, t2, getB hlt, iLt_eq]
        rcases gat with ⟨g1, g2⟩ | ⟨g1, g2⟩
        · rw [g1, decide_eq_true g2]; rfl
        · rw [g1, decide_eq_false (by omega)]; rfl
      have q3 : iEq (wr .i64 (Int.mul (wr .i64 (Int.add a c)) (1 + x1))) (wr .i64 (Int.mul (1 + x0) (wr .i64 (Int.add b e)))) = false := by
        rw [t1, t2, iEq_eq]
        rcases gat with ⟨g1, g2⟩ | ⟨g1, g2⟩ <;> simp <;> omega
      have hstep : nbL ((mvN ps ps.length).take (i + 1)) = mvS ⟨a, b, c, e⟩ (mvN ps ps.length)[i] := by rw [List.take_succ_eq_append_getElem hlt, nbL_snoc, hst]
      have hb := getB hlt
      repeat' ((conv => whnf); first
               | refine eqS_rfl ?_
               | refine eqA_rfl ?_
               | refine eqA_of (by assumption) ?_
               | refine eqS_of (by rfl) ?_
               | refine seS_rfl ?_
               | refine brS_tt ?_
               | refine brS_ff ?_
               | refine brS_not ?_
               | refine brS_t (iEq_self _) ?_
               | refine brS_t (by assumption) ?_
               | refine brS_f (by assumption) ?_
               | refine brS_intro (fun _ => ?_) (fun _ => ?_)
               | refine ltS_intro (by first | assumption | decide | exact Nat.le_of_ble_eq_true rfl | omega) ?_
               | refine ixS_of rfl (by first | assumption | decide | omega) ?_
               | refine okS_intro (by first | assumption | kernel_rfl) ?_
               | refine ltS_intro (by have := lt_of_iLt ‹iLt (Int.ofNat _) (Int.ofNat _) = true›; omega) ?_
               | refine ixS_of rfl (by have := lt_of_iLt ‹iLt (Int.ofNat _) (Int.ofNat _) = true›; omega) ?_
               | intro _)
      · conv => whnf
        refine ⟨512 - (i + 1), [(5, .ptr 5 b5 0), (6, .ptr 6 b6 0), (13, .sl 13 aU (mvN ps ps.length).length (mvN ps ps.length).length), (15, .sl 15 aV (mvN qs qs.length).length (mvN qs qs.length).length), (17, .ptr 17 b17 0), (18, .ptr 18 b18 0), (125, .sl 13 aU (mvN ps ps.length).length (mvN ps ps.length).length), (126, .int .i64 (Int.ofNat (mvN ps ps.length).length)), (127, .int .i64 (Int.ofNat (i + 1)))], _, addL ((addL (addL (addL (addL (addL (R + 18030) 2600) 10) 48002) 10) 48002) + (600 - (i + 1))) 10, 200, by omega, ⟨⟨rfl, rfl⟩, ⟨rfl, rfl⟩, ⟨rfl, rfl⟩, ⟨rfl, rfl⟩, ⟨rfl, rfl⟩, ⟨rfl, rfl⟩, ⟨rfl, rfl⟩, ⟨rfl, rfl⟩, ⟨congrArg (Value.int .i64) (wr_nat (i := i + 1) (by omega)), rfl⟩, trivial⟩, WkM.drop (WkM.refl _), ?_, i + 1, wr .i64 (Int.add a c), wr .i64 (Int.add b e), c, e, by omega, ?_, rfl, rfl, rfl, rfl, rfl⟩
        · show addL ((addL (addL (addL (addL (addL (R + 18030) 2600) 10) 48002) 10) 48002) + (600 - (i + 1))) 10 ≤ addL ((addL (addL (addL (addL (addL (R + 18030) 2600) 10) 48002) 10) 48002) + (600 - i)) 9
          rw [addL_eq ((addL (addL (addL (addL (addL (R + 18030) 2600) 10) 48002) 10) 48002) + (600 - (i + 1))) 10, addL_eq ((addL (addL (addL (addL (addL (R + 18030) 2600) 10) 48002) 10) 48002) + (600 - i)) 9]; omega
        · rw [hstep, ← hb, ‹(mvN ps ps.length).getD i false = true›, s1, s2]; rfl
      · conv => whnf
        refine ⟨512 - (i + 1), [(5, .ptr 5 b5 0), (6, .ptr 6 b6 0), (13, .sl 13 aU (mvN ps ps.length).length (mvN ps ps.length).length), (15, .sl 15 aV (mvN qs qs.length).length (mvN qs qs.length).length), (17, .ptr 17 b17 0), (18, .ptr 18 b18 0), (125, .sl 13 aU (mvN ps ps.length).length (mvN ps ps.length).length), (126, .int .i64 (Int.ofNat (mvN ps ps.length).length)), (127, .int .i64 (Int.ofNat (i + 1)))], _, addL ((addL (addL (addL (addL (addL (R + 18030) 2600) 10) 48002) 10) 48002) + (600 - (i + 1))) 10, 200, by omega, ⟨⟨rfl, rfl⟩, ⟨rfl, rfl⟩, ⟨rfl, rfl⟩, ⟨rfl, rfl⟩, ⟨rfl, rfl⟩, ⟨rfl, rfl⟩, ⟨rfl, rfl⟩, ⟨rfl, rfl⟩, ⟨congrArg (Value.int .i64) (wr_nat (i := i + 1) (by omega)), rfl⟩, trivial⟩, WkM.drop (WkM.refl _), ?_, i + 1, a, b, wr .i64 (Int.add a c), wr .i64 (Int.add b e), by omega, ?_, rfl, rfl, rfl, rfl, rfl⟩
        · show addL ((addL (addL (addL (addL (addL (R + 18030) 2600) 10) 48002) 10) 48002) + (600 - (i + 1))) 10 ≤ addL ((addL (addL (addL (addL (addL (R + 18030) 2600) 10) 48002) 10) 48002) + (600 - i)) 9
          rw [addL_eq ((addL (addL (addL (addL (addL (R + 18030) 2600) 10) 48002) 10) 48002) + (600 - (i + 1))) 10, addL_eq ((addL (addL (addL (addL (addL (R + 18030) 2600) 10) 48002) 10) 48002) + (600 - i)) 9]; omega
        · rw [hstep, ← hb, ‹(mvN ps ps.length).getD i false = false›, s1, s2]; rfl
    · have hc0 : iLt (Int.ofNat i) (Int.ofNat (mvN ps ps.length).length) = false := by rw [iLt_eq]; exact decide_eq_false (fun h => hlt (Int.ofNat_lt.1 h))
      have ei : i = (mvN ps ps.length).length := by omega
      subst ei
      rw [List.take_length] at hst
      have hfU := hp.fin
      unfold Fin at hfU
      rw [hst] at hfU
      have hfU : (1 + x0) * (b + e) = (a + c) * (1 + x1) := hfU
      have q4 : iEq (wr .i64 (Int.mul (wr .i64 (Int.add a c)) (1 + x1))) (wr .i64 (Int.mul (1 + x0) (wr .i64 (Int.add b e)))) = true := by rw [t1, t2, hfU]; exact iEq_self _
      have m1 : wr .i64 (Int.add (1 + x0) (1 + x2)) = (1 + x0) + (1 + x2) := ad_wr (by omega) (by omega)
      have m2 : wr .i64 (Int.add (1 + x1) (1 + x3)) = (1 + x1) + (1 + x3) := ad_wr (by omega) (by omega)
      repeat' ((conv => whnf); first
               | refine eqS_rfl ?_
               | refine eqA_rfl ?_
               | refine eqA_of (by assumption) ?_
               | refine eqS_of (by rfl) ?_
               | refine seS_rfl ?_
               | refine brS_tt ?_
               | refine brS_ff ?_
               | refine brS_not ?_
               | refine brS_t (iEq_self _) ?_
               | refine brS_t (by assumption) ?_
               | refine brS_f (by assumption) ?_
               | refine brS_intro (fun _ => ?_) (fun _ => ?_)
               | refine ltS_intro (by first | assumption | decide | exact Nat.le_of_ble_eq_true rfl | omega) ?_
               | refine ixS_of rfl (by first | assumption | decide | omega) ?_
               | refine okS_intro (by first | assumption | kernel_rfl) ?_
               | refine ltS_intro (by have := lt_of_iLt ‹iLt (Int.ofNat _) (Int.ofNat _) = true›; omega) ?_
               | refine ixS_of rfl (by have := lt_of_iLt ‹iLt (Int.ofNat _) (Int.ofNat _) = true›; omega) ?_
               | refine callS.cast (args' := [i64 ((1 + x0) + (1 + x2)), i64 ((1 + x1) + (1 + x3))]) rfl (by show [Value.int .i64 _, Value.int .i64 _] = [Value.int .i64 ((1 + x0) + (1 + x2)), Value.int .i64 ((1 + x1) + (1 + x3))]; rw [m1, m2]) (call_pure (c28 F _ _ _) ?_)
               | intro _)
      conv => whnf
      refine callS.less (R' := (addL (addL (addL (addL (addL (R + 18030) 2600) 10) 48002) 10) 48002)) (Nat.le_trans (Nat.le_add_right _ _) (addL_le' ((addL (addL (addL (addL (addL (R + 18030) 2600) 10) 48002) 10) 48002) + (600 - (mvN ps ps.length).length)) 8)) (call_path hF1 ⟨by omega, by omega⟩ ⟨by omega, by omega⟩ fun ss aS hsP => ?_)
      repeat' ((conv => whnf); first
               | refine eqS_rfl ?_
               | refine eqA_rfl ?_
               | refine eqA_of (by assumption) ?_
               | refine eqS_of (by rfl) ?_
               | refine seS_rfl ?_
               | refine brS_tt ?_
               | refine brS_ff ?_
               | refine brS_not ?_
               | refine brS_t (iEq_self _) ?_
               | refine brS_t (by assumption) ?_
               | refine brS_f (by assumption) ?_
               | refine brS_intro (fun _ => ?_) (fun _ => ?_)
               | refine ltS_intro (by first | assumption | decide | exact Nat.le_of_ble_eq_true rfl | omega) ?_
               | refine ixS_of rfl (by first | assumption | decide | omega) ?_
               | refine okS_intro (by first | assumption | kernel_rfl) ?_
               | intro _)
      conv => whnf
      refine call_path hF1 ⟨by omega, by omega⟩ ⟨by omega, by omega⟩ fun ts aT htP => ?_
      repeat' ((conv => whnf); first
               | refine eqS_rfl ?_
               | refine eqA_rfl ?_
               | refine eqA_of (by assumption) ?_
               | refine eqS_of (by rfl) ?_
               | refine seS_rfl ?_
               | refine brS_tt ?_
               | refine brS_ff ?_
               | refine brS_not ?_
               | refine brS_t (iEq_self _) ?_
               | refine brS_t (by assumption) ?_
               | refine brS_f (by assumption) ?_
               | refine brS_intro (fun _ => ?_) (fun _ => ?_)
               | refine ltS_intro (by first | assumption | decide | exact Nat.le_of_ble_eq_true rfl | omega) ?_
               | refine ixS_of rfl (by first | assumption | decide | omega) ?_
               | refine okS_intro (by first | assumption | kernel_rfl) ?_
               | refine call_walked (by omega) hsP ⟨by omega, by omega⟩ ⟨by omega, by omega⟩ _ rfl ?_
               | refine call_walked (by omega) htP ⟨by omega, by omega⟩ ⟨by omega, by omega⟩ _ rfl ?_
               | intro _)
      conv => whnf
      rename_i b22 aW aZ
      refine loS_i (fun j f m' R' ni => ∃ i : Nat, i ≤ (mvN ps ps.length).length ∧ i ≤ (mvN ss ss.length).length ∧ i ≤ (mvN ts ts.length).length ∧ (mvN ps ps.length).take i = (mvN ss ss.length).take i ∧ (mvN ps ps.length).take i = (mvN ts ts.length).take i ∧ j = 512 - i ∧ f = [(13, .sl 13 aU (mvN ps ps.length).length (mvN ps ps.length).length), (25, .sl 25 aW (mvN ss ss.length).length (mvN ss ss.length).length), (26, .sl 26 aZ (mvN ts ts.length).length (mvN ts ts.length).length), (243, .sl 13 aU (mvN ps ps.length).length (mvN ps ps.length).length), (244, .int .i64 (Int.ofNat (mvN ps ps.length).length)), (245, .int .i64 (Int.ofNat i))] ∧ m' = (26, roB aZ (mvN ts ts.length)) :: (25, roB aW (mvN ss ss.length)) :: (13, roB aU (mvN ps ps.length)) :: m ∧ R' = addL (R + 30 * (600 - i)) 30 ∧ ni = 300) 512 (by omega)
        ⟨[(13, .sl 13 aU (mvN ps ps.length).length (mvN ps ps.length).length), (25, .sl 25 aW (mvN ss ss.length).length (mvN ss ss.length).length), (26, .sl 26 aZ (mvN ts ts.length).length (mvN ts ts.length).length), (243, .sl 13 aU (mvN ps ps.length).length (mvN ps ps.length).length), (244, .int .i64 (Int.ofNat (mvN ps ps.length).length)), (245, .int .i64 (Int.ofNat 0))], (26, roB aZ (mvN ts ts.length)) :: (25, roB aW (mvN ss ss.length)) :: (13, roB aU (mvN ps ps.length)) :: m, addL (R + 30 * (600 - 0)) 30, 300, ⟨⟨rfl, rfl⟩, ⟨rfl, rfl⟩, ⟨rfl, rfl⟩, ⟨rfl, rfl⟩, ⟨rfl, rfl⟩, ⟨rfl, rfl⟩, trivial⟩, WkM.sub (.cons_cons _ (.cons_cons _ (.cons _ (.cons _ (.cons _ (.cons _ (.cons _ (.cons _ (.cons_cons _ (.cons _ (.cons _ (.refl _)))))))))))), Nat.le_refl (R + 18030), 0, by omega, by omega, by omega, rfl, rfl, rfl, rfl, rfl, rfl, rfl⟩ ?_
      rintro j _ _ _ _ ⟨i, hi, hiW, hiZ, hUW, hUZ, rfl, rfl, rfl, rfl, rfl⟩
      by_cases hlt : i < (mvN ps ps.length).length
      · have hc0 : iLt (Int.ofNat i) (Int.ofNat (mvN ps ps.length).length) = true := by rw [iLt_eq]; exact decide_eq_true (Int.ofNat_lt.2 hlt)
        by_cases hW : i < (mvN ss ss.length).length
        · have hc1 : iLt (Int.ofNat i) (Int.ofNat (mvN ss ss.length).length) = true := by rw [iLt_eq]; exact decide_eq_true (Int.ofNat_lt.2 hW)
          by_cases hE : (mvN ss ss.length)[i] = (mvN ps ps.length)[i]
          · have r1 : ((mvN ss ss.length).getD i false == (mvN ps ps.length).getD i false) = true := by rw [getB hW, getB hlt, hE]; simp
            obtain ⟨hZ, hZe⟩ := Gd.between hp.gd hsP.gd htP.gd htP.fin i hlt hW hUW hUZ hE
            have hc2 : iLt (Int.ofNat i) (Int.ofNat (mvN ts ts.length).length) = true := by rw [iLt_eq]; exact decide_eq_true (Int.ofNat_lt.2 hZ)
            have r2 : ((mvN ts ts.length).getD i false == (mvN ps ps.length).getD i false) = true := by rw [getB hZ, getB hlt, hZe]; simp
            repeat' ((conv => whnf); first
                     | refine eqS_rfl ?_
                     | refine eqA_rfl ?_
                     | refine eqA_of (by assumption) ?_
                     | refine eqS_of (by rfl) ?_
                     | refine seS_rfl ?_
                     | refine brS_tt ?_
                     | refine brS_ff ?_
                     | refine brS_not ?_
                     | refine brS_t (iEq_self _) ?_
                     | refine brS_t (by assumption) ?_
                     | refine brS_f (by assumption) ?_
                     | refine brS_intro (fun _ => ?_) (fun _ => ?_)
                     | refine ltS_intro (by first | assumption | decide | exact Nat.le_of_ble_eq_true rfl | omega) ?_
                     | refine ixS_of rfl (by first | assumption | decide | omega) ?_
                     | refine okS_intro (by first | assumption | kernel_rfl) ?_
                     | refine ltS_intro (by have := lt_of_iLt ‹iLt (Int.ofNat _) (Int.ofNat _) = true›; omega) ?_
                     | refine ixS_of rfl (by have := lt_of_iLt ‹iLt (Int.ofNat _) (Int.ofNat _) = true›; omega) ?_
                     | refine call_w rfl ?_
                     | intro _)
            conv => whnf
            refine ⟨512 - (i + 1), [(13, .sl 13 aU (mvN ps ps.length).length (mvN ps ps.length).length), (25, .sl 25 aW (mvN ss ss.length).length (mvN ss ss.length).length), (26, .sl 26 aZ (mvN ts ts.length).length (mvN ts ts.length).length), (243, .sl 13 aU (mvN ps ps.length).length (mvN ps ps.length).length), (244, .int .i64 (Int.ofNat (mvN ps ps.length).length)), (245, .int .i64 (Int.ofNat (i + 1)))], _, addL (R + 30 * (600 - (i + 1))) 30, 300, by omega, ⟨⟨rfl, rfl⟩, ⟨rfl, rfl⟩, ⟨rfl, rfl⟩, ⟨rfl, rfl⟩, ⟨rfl, rfl⟩, ⟨congrArg (Value.int .i64) (wr_nat (i := i + 1) (by omega)), rfl⟩, trivial⟩, WkM.refl _, ?_, i + 1, by omega, by omega, by omega, ?_, ?_, rfl, rfl, rfl, rfl, rfl⟩
            · show addL (R + 30 * (600 - (i + 1))) 30 ≤ addL (R + 30 * (600 - i)) 0
              rw [addL_eq, addL_eq]; omega
            · rw [List.take_succ_eq_append_getElem hlt, List.take_succ_eq_append_getElem hW, hUW, hE]
            · rw [List.take_succ_eq_append_getElem hlt, List.take_succ_eq_append_getElem hZ, hUZ, hZe]
          · have r1 : ((mvN ss ss.length).getD i false == (mvN ps ps.length).getD i false) = false := by rw [getB hW, getB hlt]; simpa using hE
            repeat' ((conv => whnf); first
                     | refine eqS_rfl ?_
                     | refine eqA_rfl ?_
                     | refine eqA_of (by assumption) ?_
                     | refine eqS_of (by rfl) ?_
                     | refine seS_rfl ?_
                     | refine brS_tt ?_
                     | refine brS_ff ?_
                     | refine brS_not ?_
                     | refine brS_t (iEq_self _) ?_
                     | refine brS_t (by assumption) ?_
                     | refine brS_f (by assumption) ?_
                     | refine brS_intro (fun _ => ?_) (fun _ => ?_)
                     | refine ltS_intro (by first | assumption | decide | exact Nat.le_of_ble_eq_true rfl | omega) ?_
                     | refine ixS_of rfl (by first | assumption | decide | omega) ?_
                     | refine okS_intro (by first | assumption | kernel_rfl) ?_
                     | refine ltS_intro (by have := lt_of_iLt ‹iLt (Int.ofNat _) (Int.ofNat _) = true›; omega) ?_
                     | refine ixS_of rfl (by have := lt_of_iLt ‹iLt (Int.ofNat _) (Int.ofNat _) = true›; omega) ?_
                     | refine call_w rfl ?_
                     | intro _)
            conv => whnf
            refine ⟨rfl, by repeat' (first | exact WkM.refl _ | refine WkM.drop ?_), Nat.le_trans (Nat.le_add_right R _) (addL_le' (R + 30 * (600 - i)) 15)⟩
        · have hc1 : iLt (Int.ofNat i) (Int.ofNat (mvN ss ss.length).length) = false := by rw [iLt_eq]; exact decide_eq_false (fun h => hW (Int.ofNat_lt.1 h))
          repeat' ((conv => whnf); first
                   | refine eqS_rfl ?_
                   | refine eqA_rfl ?_
                   | refine eqA_of (by assumption) ?_
                   | refine eqS_of (by rfl) ?_
                   | refine seS_rfl ?_
                   | refine brS_tt ?_
                   | refine brS_ff ?_
                   | refine brS_not ?_
                   | refine brS_t (iEq_self _) ?_
                   | refine brS_t (by assumption) ?_
                   | refine brS_f (by assumption) ?_
                   | refine brS_intro (fun _ => ?_) (fun _ => ?_)
                   | refine ltS_intro (by first | assumption | decide | exact Nat.le_of_ble_eq_true rfl | omega) ?_
                   | refine ixS_of rfl (by first | assumption | decide | omega) ?_
                   | refine okS_intro (by first | assumption | kernel_rfl) ?_
                   | refine ltS_intro (by have := lt_of_iLt ‹iLt (Int.ofNat _) (Int.ofNat _) = true›; omega) ?_
                   | refine ixS_of rfl (by have := lt_of_iLt ‹iLt (Int.ofNat _) (Int.ofNat _) = true›; omega) ?_
                   | refine call_w rfl ?_
                   | intro _)
          conv => whnf
          refine ⟨rfl, by repeat' (first | exact WkM.refl _ | refine WkM.drop ?_), Nat.le_trans (Nat.le_add_right R _) (addL_le' (R + 30 * (600 - i)) 15)⟩
      · have hc0 : iLt (Int.ofNat i) (Int.ofNat (mvN ps ps.length).length) = false := by rw [iLt_eq]; exact decide_eq_false (fun h => hlt (Int.ofNat_lt.1 h))
        repeat' ((conv => whnf); first
                 | refine eqS_rfl ?_
                 | refine eqA_rfl ?_
                 | refine eqA_of (by assumption) ?_
                 | refine eqS_of (by rfl) ?_
                 | refine seS_rfl ?_
                 | refine brS_tt ?_
                 | refine brS_ff ?_
                 | refine brS_not ?_
                 | refine brS_t (iEq_self _) ?_
                 | refine brS_t (by assumption) ?_
                 | refine brS_f (by assumption) ?_
                 | refine brS_intro (fun _ => ?_) (fun _ => ?_)
                 | refine ltS_intro (by first | assumption | decide | exact Nat.le_of_ble_eq_true rfl | omega) ?_
                 | refine ixS_of rfl (by first | assumption | decide | omega) ?_
                 | refine okS_intro (by first | assumption | kernel_rfl) ?_
                 | refine ltS_intro (by have := lt_of_iLt ‹iLt (Int.ofNat _) (Int.ofNat _) = true›; omega) ?_
                 | refine ixS_of rfl (by have := lt_of_iLt ‹iLt (Int.ofNat _) (Int.ofNat _) = true›; omega) ?_
                 | refine call_w rfl ?_
                 | intro _)
        conv => whnf
        refine ⟨rfl, by repeat' (first | exact WkM.refl _ | refine WkM.drop ?_), Nat.le_trans (Nat.le_add_right R _) (addL_le' (R + 30 * (600 - i)) 30)⟩
end Go.Proofs.Ytildnbpdhkdddaa
