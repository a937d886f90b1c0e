/- KeysKnown: its whole run, in the kernel; works is answered by what is known of it. -/
import Derived.Test.YtoocmgefoagfnaaRunB
namespace Go.Proofs.Ytoocmgefoagfnaa
open Go.Ab
theorem run_known : topRun Try.prog (fun call => extP [] (extK 15 true call)) 14 true = true := by kernel_rfl
theorem returns_known : Go.Ab.Returns Try.prog 14 true :=
  returns_of_run draws name_ok (ext := fun call => extP [] (extK 15 true call)) (fun call h => extP_ok [] _ (extK_ok name_ok Try.func15 (by kernel_rfl) returns_works call h)) run_known
end Go.Proofs.Ytoocmgefoagfnaa
