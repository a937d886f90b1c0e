/- NeutralKnown: its whole run, in the kernel; works is answered by what is known of it. -/
import Derived.Test.YtcmabiciomifdaaRunB
namespace Go.Proofs.Ytcmabiciomifdaa
open Go.Ab
theorem run_known : topRun Try.prog (fun call => extP [] (extK 12 true call)) 11 true = true := by kernel_rfl
theorem returns_known : Go.Ab.Returns Try.prog 11 true :=
  returns_of_run draws name_ok (ext := fun call => extP [] (extK 12 true call)) (fun call h => extP_ok [] _ (extK_ok name_ok Try.func12 (by kernel_rfl) returns_works call h)) run_known
end Go.Proofs.Ytcmabiciomifdaa
