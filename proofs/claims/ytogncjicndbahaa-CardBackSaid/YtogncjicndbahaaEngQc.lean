/- Open runs: calls, where some functions' answers are run once, and one function's answer is known. -/
import Derived.Test.YtogncjicndbahaaEngQb
import Derived.Test.YtogncjicndbahaaEngUa
namespace Go.Ab
variable {P : Program}
abbrev extB (fs : List FuncId) (w : FuncId) : CallT → CallT := fun call => extP fs (extK w true call)
theorem callF_B {fs : List FuncId} {w : FuncId} {F d : Nat} {g : FuncId} (hg : Nat.beq g w = false) (hg2 : memF g fs = false) (args cs : List Value) (K : KV) (s : St) :
    callF P F (extB fs w) (d + 1) (.func (.func g) ⟨[]⟩ ⟨cs⟩) args K s = (cFun P F g).run (callF P F (extB fs w) d) (args ++ cs) K s := by
  unfold callF extB extP extK
  simp only [hg, hg2, cond_false, List.nil_append]
theorem callF_B_w {fs : List FuncId} {w : FuncId} {F d : Nat} (hg2 : memF w fs = false) (K : KV) (s : St) : callF P F (extB fs w) (d + 1) (.func (.func w) ⟨[]⟩ ⟨[]⟩) [] K s = K (.bool true) s := by
  unfold callF extB extP extK
  simp only [hg2, Nat.beq_refl, cond_true, cond_false, List.append_nil]
theorem extB_ok (hn : NameH P) {fs : List FuncId} {w : FuncId} {fn : Func} (hf : P.funcs[w]? = some fn) (hb : fn.body.isNone = false) (hr : Ab.Returns P w true) (call : CallT) (hc : CallOK P call) : CallOK P (extB fs w call) :=
  extP_ok fs _ (extK_ok hn hf hb hr call hc)
/-- what a call comes to: what its function's run does -/
theorem Sat.callB {fs : List FuncId} {w : FuncId} {F d : Nat} {g : FuncId} {args cs : List Value} {s : St} {Post : Value → St → Prop} (hg : Nat.beq g w = false) (hg2 : memF g fs = false)
    (h : Sat (fun K => (cFun P F g).run (callF P F (extB fs w) d) (args ++ cs) K s) Post) : Sat (fun K => callF P F (extB fs w) (d + 1) (.func (.func g) ⟨[]⟩ ⟨cs⟩) args K s) Post :=
  fun K r hK => (callF_B hg hg2 args cs K s).trans (h K r hK)
end Go.Ab
