/- What the machine asks of the program besides: no function bears a certain name; operands may come in any order; works returns true. -/
import Derived.Test.YtogncjicndbahaaRunW
namespace Go.Proofs.Ytogncjicndbahaa
open Go.Ab
def noGor (P : Program) : Bool := P.funcs.toList.all fun fn => !(fn.name == "runtime.NumGoroutine")
theorem no_gor : noGor Try.prog = true := by kernel_rfl
theorem name_ok : NameH Try.prog := fun f fn hf hn => by
  have h := no_gor
  unfold noGor at h
  rw [List.all_eq_true] at h
  have := h fn (by rw [Array.mem_toList_iff]; exact Array.mem_of_getElem? hf)
  rw [hn] at this
  simp at this
theorem mixed : Try.prog.follows .mixedOrders = true := by kernel_rfl
theorem draws : DrawH Try.prog := draw_ok mixed
theorem returns_works : Go.Ab.Returns Try.prog 15 true := returns_of_run draws name_ok (ext := extP []) (fun call h => extP_ok [] call h) run_works
end Go.Proofs.Ytogncjicndbahaa
