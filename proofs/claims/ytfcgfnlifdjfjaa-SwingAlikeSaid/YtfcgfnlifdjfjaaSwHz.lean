/- Swing: runs whose results are known; rows by numbers. -/
import Derived.Test.YtfcgfnlifdjfjaaRunB
import Derived.Test.YtfcgfnlifdjfjaaEngQf
import Derived.Test.YtfcgfnlifdjfjaaEngSy
import Derived.KernelRfl
namespace Go.Proofs.Ytfcgfnlifdjfjaa
open Go.Ab Go.RowKit
set_option maxRecDepth 100000 in
/-- a run whose result is known: what the function does -/
theorem calls_pure {P : Program} (hd : DrawH P) (hn : NameH P) {ext : CallT → CallT} (hext : ∀ call, CallOK P call → CallOK P (ext call)) {F D : Nat} {f : FuncId} {args : List Value} {v : Value} (hp : pureC 4 v = true) (ha : ∀ x ∈ args, pureC 4 x = true)
    (h : ∀ K' : Value → Bool, (cFun P F f).run (callF P F ext D) args (fun x _ => K' x) st0 = K' v) (W : World) : Calls P f ⟨args⟩ W fun e W' => e = .returned v ∧ Below W.heap.size W W' := by
  have h1 : (cFun P F f).run (callF P F ext D) args (fun x _ => (fun x => @decide (x = v) (Classical.propDecidable _)) x) st0 = true := (h _).trans (by simp)
  obtain ⟨_, hc⟩ := cFun_ok hd (callF_ok hd hn hext D) h1 (pureC_VsR _ 4 args ha) (SR.st0 W)
  have hc : CallsIn Fence.wide 0 P f ⟨args⟩ W _ := hc none 0
  refine (callsIn_wide.1 hc).mono fun e W' ⟨X, he, ρ', x, s', hst, hv, hk⟩ => ?_
  have hx : x = v := by simpa using hk
  subst hx
  have hX := pureC_eq 4 hv hp
  subst hX
  exact ⟨he, hst.os, hst.tape, hst.output, hst.size, fun B hB => hst.frame B hB fun b o r h => by simp [at_st0] at h⟩
def known : ByteArray := ⟨⟨[48, 49]⟩⟩
/-- marks -/
def marks (w : ByteArray) : Prop := ∀ x, x ∈ w.data.toList → x = 48 ∨ x = 49
def anB (b : Int) (i : Nat) : Int := andI .u64 (shrV .u64 b i) 1
def bytI (b : Int) (i : Nat) : Int := wr .u8 (wr .u64 (Int.add 48 (anB b i)))
def intsM (b : Int) : Nat → Nat → List Int
  | 0, _ => []
  | n + 1, i => bytI b i :: intsM b n (i + 1)
def mkR (m : Nat) (b : Int) : ByteArray := ⟨⟨bytesU8 (intsM b m 0)⟩⟩
noncomputable def rowRun (b : Int) (c : Nat) (K' : Value → Bool) : Bool := (cFun Try.prog 1000 33).run (callF Try.prog 1000 (extX (libL 80 54) 14) 3) [.agg ⟨[.int .u64 b, .int .u8 (.ofNat c)]⟩, .int .i64 1, .int .i64 64] (fun x _ => K' x) st0
end Go.Proofs.Ytfcgfnlifdjfjaa
