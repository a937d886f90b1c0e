/- Runs over open values: numbers that do not wrap. -/
import Derived.Test.YtkpiaipbbpfodaaEngSg
namespace Go.Ab
theorem wr_id {n : Int} (h1 : -9223372036854775808 ≤ n) (h2 : n < 9223372036854775808) : wr .i64 n = n := by
  cases n with
  | ofNat m => exact wr_nat (by have h2 : (m : Int) < 9223372036854775808 := h2; omega)
  | negSucc m =>
    unfold wr
    have : m < 9223372036854775808 := by omega
    simp only [blt_of this, cond_true]
/-- a number's size -/
def Bd (n : Int) (B : Nat) : Prop := n.natAbs ≤ B
theorem Bd.mono {n : Int} {B C : Nat} (h : Bd n B) (hle : B ≤ C) : Bd n C := Nat.le_trans h hle
theorem Bd.of {n : Int} {B : Nat} (h1 : -(B : Int) ≤ n) (h2 : n ≤ B) : Bd n B := by unfold Bd; omega
theorem Bd.le {n : Int} {B : Nat} (h : Bd n B) : -(B : Int) ≤ n ∧ n ≤ B := by unfold Bd at h; omega
theorem Bd.sub {a b : Int} {A B : Nat} (h : Bd a A) (k : Bd b B) : Bd (a - b) (A + B) := by unfold Bd at *; omega
theorem Bd.add {a b : Int} {A B : Nat} (h : Bd a A) (k : Bd b B) : Bd (a + b) (A + B) := by unfold Bd at *; omega
theorem Bd.neg {a : Int} {A : Nat} (h : Bd a A) : Bd (-a) A := by unfold Bd at *; omega
theorem Bd.mul {a b : Int} {A B : Nat} (h : Bd a A) (k : Bd b B) : Bd (a * b) (A * B) := by
  unfold Bd at *
  rw [Int.natAbs_mul]
  exact Nat.mul_le_mul h k
theorem wr_sub {a b a' b' : Int} {A B : Nat} (ea : a' = a) (eb : b' = b) (h : Bd a A) (k : Bd b B) (hl : A + B < 9223372036854775808) : wr .i64 (Int.sub a' b') = a - b := by
  subst ea eb; have := (h.sub k).le; exact wr_id (n := a' - b') (by omega) (by omega)
theorem wr_add {a b a' b' : Int} {A B : Nat} (ea : a' = a) (eb : b' = b) (h : Bd a A) (k : Bd b B) (hl : A + B < 9223372036854775808) : wr .i64 (Int.add a' b') = a + b := by
  subst ea eb; have := (h.add k).le; exact wr_id (n := a' + b') (by omega) (by omega)
theorem wr_mul {a b a' b' : Int} {A B : Nat} (ea : a' = a) (eb : b' = b) (h : Bd a A) (k : Bd b B) (hl : A * B < 9223372036854775808) : wr .i64 (Int.mul a' b') = a * b := by
  subst ea eb; have := (h.mul k).le; exact wr_id (n := a' * b') (by omega) (by omega)
/-- a law: what its contract says of a run -/
theorem PureC.run {P : Program} {F : Nat} {fs0 : List FuncId} {w d : Nat} {g : FuncId} {args : List SV} {N : Nat} (h : PureC (callF P F (extB fs0 w) (d + 1)) g args N (.bool true)) (hg : Nat.beq g w = false) (hg2 : memF g fs0 = false) {s : St} (hs : s.nx + N ≤ 262144) (hf : s.fl ≤ s.nx) :
    (cFun P F g).run (callF P F (extB fs0 w) d) (dens args) (isTrue true) s = true := by
  have h1 := (h [] 0).run _ _ s s (MemOK.start (R := addL 0 N) (by rw [addL_eq, Nat.zero_add]; exact hs) hf) (isTrue true) true fun v _ _ _ _ _ hv => by rw [hv.1]; rfl
  have h1 : callF P F (extB fs0 w) (d + 1) (.func (.func g) ⟨[]⟩ ⟨[]⟩) (dens args) (isTrue true) s = true := h1
  rw [callF_B3 hg hg2, List.nil_append, List.append_nil] at h1
  exact h1
theorem stOf_fl (W : World) (Bs : List Nat) : (stOf W Bs).fl ≤ (stOf W Bs).nx := by
  have h : ∀ (l : List (Option AObj)) (s : St), (l.foldl addO s).fl = s.fl := by
    intro l
    induction l with
    | nil => intro s; rfl
    | cons o l ih => intro s; rw [List.foldl_cons, ih]; rfl
  unfold stOf
  rw [h]
  exact Nat.zero_le _
end Go.Ab
