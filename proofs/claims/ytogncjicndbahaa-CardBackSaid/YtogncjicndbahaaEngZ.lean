/- For open runs: loops by an invariant; reads of memory. -/
import Derived.Test.YtogncjicndbahaaEngY
namespace Go.Ab
/-- a loop that comes to the same whatever is left: by what holds before each round, and how many rounds are left at most -/
theorem runLoop_rule {k : Nat} {cc : Clo k} {call : CallT} {rd : Option Nat} {K : KC k} {r : Bool} (I : Nat → List Nat → Fm Value k → St → Prop)
    (hstep : ∀ j m t s (ih : List Nat → Fm Value k → St → Bool), I j m t s → (∀ j' m' t' s', j' < j → I j' m' t' s' → ih m' t' s' = r) → cc.run call rd ⟨ih, K.x⟩ m t s = r) :
    ∀ fuel j m t s, j < fuel → I j m t s → runLoop cc call rd K fuel m t s = r
  | 0, _, _, _, _, h, _ => absurd h (Nat.not_lt_zero _)
  | fuel + 1, j, m, t, s, h, hI => hstep j m t s _ hI fun j' m' t' s' hlt hI' => runLoop_rule I hstep fuel j' m' t' s' (by omega) hI'
theorem ld1_at {s : St} {b a a' : Nat} {v : Value} (h : ∀ K, ld1 s b a K = K v) (e : a' = a) (K : Value → Bool) : ld1 s b a' K = K v := by rw [e]; exact h K
theorem ldN_at {s : St} {b a a' m : Nat} {l : List Value} (h : ∀ K, ldN s b a m K = K l) (e : a' = a) (K : List Value → Bool) : ldN s b a' m K = K l := by rw [e]; exact h K
/-- a list of numbers lies from some place on -/
def Ints (s : St) (b o : Nat) (l : List Int) : Prop := ∀ i x, l[i]? = some x → ∀ K, ld1 s b (o + i) K = K (.int .i64 x)
theorem wr_nat {i : Nat} (h : i < 9223372036854775808) : wr .i64 (Int.ofNat i) = Int.ofNat i := by
  unfold wr
  simp only [blt_of h, cond_true]
/-- what was there stays as it was -/
def Keep (s s' : St) : Prop := s.nx ≤ s'.nx ∧ (∀ b, b < s.nx → s'.at b = s.at b) ∧ s'.fl = s.fl
theorem Keep.refl (s : St) : Keep s s := ⟨Nat.le_refl _, fun _ _ => rfl, rfl⟩
theorem Keep.trans {s s' s'' : St} (h : Keep s s') (k : Keep s' s'') : Keep s s'' := ⟨Nat.le_trans h.1 k.1, fun b hb => (k.2.1 b (Nat.lt_of_lt_of_le hb h.1)).trans (h.2.1 b hb), k.2.2.trans h.2.2⟩
theorem Keep.push {s : St} (o : AObj) (h : s.nx < 4398046511104) : Keep s (s.push o) := ⟨by rw [St.nx_push]; omega, fun b hb => by rw [St.at_push h, if_neg (by omega)], rfl⟩
theorem Keep.set {s0 s : St} (h : Keep s0 s) {b : Nat} {o : Option AObj} (hb : s0.nx ≤ b) (hl : b < 4398046511104) : Keep s0 (s.set b o) := ⟨h.1, fun c hc => by rw [St.at_set hl, if_neg (by omega)]; exact h.2.1 c hc, h.2.2⟩
theorem ld1_keep {s s' : St} (h : Keep s s') {b : Nat} (hb : b < s.nx) (a : Nat) (K : Value → Bool) : ld1 s' b a K = ld1 s b a K := by
  unfold ld1 onCells
  rw [h.2.1 b hb]
theorem ldN_keep {s s' : St} (h : Keep s s') {b : Nat} (hb : b < s.nx) (a m : Nat) (K : List Value → Bool) : ldN s' b a m K = ldN s b a m K := by
  unfold ldN onCells
  rw [h.2.1 b hb]
theorem ld1_push {s : St} (h : s.nx < 4398046511104) {k n : Nat} {t : Fm Value k} {e : TypeId} {g : Bool} (a : Nat) (K : Value → Bool) : ld1 (s.push (.cells k n t e g)) s.nx a K = bif Nat.blt a n then K ((getW k a).g t) else false := by
  unfold ld1 onCells
  rw [St.at_push h, if_pos rfl]
theorem ldN_push {s : St} (h : s.nx < 4398046511104) {k n : Nat} {t : Fm Value k} {e : TypeId} {g : Bool} (a m : Nat) (K : List Value → Bool) : ldN (s.push (.cells k n t e g)) s.nx a m K = bif Nat.ble (Nat.add a m) n then K (gets k t a m) else false := by
  unfold ldN onCells
  rw [St.at_push h, if_pos rfl]
end Go.Ab
