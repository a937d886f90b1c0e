/- ChartKnown: its whole run, in the kernel; works is answered by what is known of it. -/
import Derived.Test.YtkpiaipbbpfodaaRunB
namespace Go.Proofs.Ytkpiaipbbpfodaa
open Go.Ab
def extw : CallT → CallT := fun call => ext2 (extK 19 true call)
theorem extw_ok : ∀ call, CallOK Try.prog call → CallOK Try.prog (extw call) := fun call h => ext2_ok _ (extK_ok name_ok Try.func19 (by kernel_rfl) returns_works call h)
theorem run_known : topRun Try.prog extw 13 true = true := by kernel_rfl
theorem returns_known : Go.Ab.Returns Try.prog 13 true := returns_of_run draws name_ok (ext := extw) extw_ok run_known
end Go.Proofs.Ytkpiaipbbpfodaa
