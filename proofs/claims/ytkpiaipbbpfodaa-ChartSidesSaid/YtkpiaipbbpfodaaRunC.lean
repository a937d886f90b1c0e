/- Calls that are run by themselves; what the machine asks of the program besides. -/
import Derived.Test.YtkpiaipbbpfodaaProg
import Derived.Test.YtkpiaipbbpfodaaEngUc
import Derived.KernelRfl
namespace Go.Proofs.Ytkpiaipbbpfodaa
open Go.Ab
def noGor (P : Program) : Bool := P.funcs.toList.all fun fn => !(fn.name == "runtime.NumGoroutine")
theorem no_gor : noGor Try.prog = true := by kernel_rfl
theorem name_ok : NameH Try.prog := fun f fn hf hn => by
  have h := no_gor
  unfold noGor at h
  rw [List.all_eq_true] at h
  have := h fn (by rw [Array.mem_toList_iff]; exact Array.mem_of_getElem? hf)
  rw [hn] at this
  simp at this
theorem mixed : Try.prog.follows .mixedOrders = true := by kernel_rfl
theorem draws : DrawH Try.prog := draw_ok mixed
def z (n : Int) : Value := .int .i64 n
def ext0 : CallT → CallT := extP []
theorem ext0_ok : ∀ call, CallOK Try.prog call → CallOK Try.prog (ext0 call) := fun call h => extP_ok [] call h
def cellsS : List Value := [z 0, z 0, z 0, z 0, z 10, z 0, z 100, z 100, z 0, z 10, z 200, z 200, z 9, z 9, z 90, z 110, z 4, z 3, z 50, z 50]
def at50 : Value := .tuple ⟨[.agg ⟨[z 0, z 1, z 4]⟩, z 0]⟩
theorem run_memo1 : memoRun Try.prog ext0 25 5 cellsS [] (z 0) = true := by kernel_rfl
def ext1 : CallT → CallT := fun call => extM 25 5 cellsS [] (z 0) (ext0 call)
theorem ext1_ok : ∀ call, CallOK Try.prog call → CallOK Try.prog (ext1 call) := fun call h => extM_ok draws name_ok ext0_ok (by kernel_rfl) (by kernel_rfl) (by kernel_rfl) (by kernel_rfl) run_memo1 _ (ext0_ok call h)
theorem run_memo2 : memoRun Try.prog ext1 29 5 cellsS [z 5, z 0] at50 = true := by kernel_rfl
def ext2 : CallT → CallT := fun call => extM 29 5 cellsS [z 5, z 0] at50 (ext1 call)
theorem ext2_ok : ∀ call, CallOK Try.prog call → CallOK Try.prog (ext2 call) := fun call h => extM_ok draws name_ok ext1_ok (by kernel_rfl) (by kernel_rfl) (by kernel_rfl) (by kernel_rfl) run_memo2 _ (ext1_ok call h)
end Go.Proofs.Ytkpiaipbbpfodaa
