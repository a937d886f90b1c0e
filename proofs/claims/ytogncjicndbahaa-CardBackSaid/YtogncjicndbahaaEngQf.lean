/- A law of few numbers: all inputs are run. -/
import Derived.Test.YtogncjicndbahaaEngQe
namespace Go.Ab
open Go.RowKit
variable {P : Program}
def upTo (p : Nat → Bool) : Nat → Bool
  | 0 => true
  | n + 1 => p n && upTo p n
theorem upTo_all {p : Nat → Bool} : ∀ {n : Nat}, upTo p n = true → ∀ q, q < n → p q = true
  | 0, _, q, h => absurd h (Nat.not_lt_zero q)
  | n + 1, h, q, hq => by
    obtain ⟨h1, h2⟩ := and_true h
    rcases Nat.lt_or_ge q n with hlt | hge
    · exact upTo_all h2 q hlt
    · have : q = n := by omega
      subst this; exact h1
/-- a run over numbers, from no memory -/
def argRun (P : Program) (ext : CallT → CallT) (f : FuncId) (args : List Value) : Bool := (cFun P loopFuel f).run (callF P loopFuel ext 10000) args (isTrue true) st0
theorem calls_args (hd : DrawH P) (hn : NameH P) {ext : CallT → CallT} (hext : ∀ call, CallOK P call → CallOK P (ext call)) {f : FuncId} {args : List Value} (hargs : args.map (alV []) = args) (hrun : argRun P ext f args = true) (W : World) :
    Calls P f ⟨args⟩ W fun e W' => e = .returned (.bool true) ∧ Below W.heap.size W W' := by
  refine calls_open (Bs := []) hd hn hext List.nodup_nil (Nat.zero_le _) (F := loopFuel) (D := 10000) ?_
  rw [hargs]; exact hrun
/-- a byte, a word and the like, read -/
theorem small_of {k : IntKind} {n : Int} (m : Nat) (hw : (Lit.int k n).wf = true) (h0 : IntKind.min k = 0) (h1 : IntKind.max k < (m : Int)) : ∃ q : Nat, q < m ∧ n = Int.ofNat q := by
  have h : IntKind.min k ≤ n ∧ n ≤ IntKind.max k := by simpa [Lit.wf] using hw
  rw [h0] at h
  exact ⟨n.toNat, by omega, (Int.toNat_of_nonneg h.1).symm⟩
end Go.Ab
