/- TotalKnown: its whole run, in the kernel; works is answered by what is known of it. -/
import Derived.Test.YtmmaccdkinlclaaRunB
namespace Go.Proofs.Ytmmaccdkinlclaa
open Go.Ab
theorem run_known : topRun Try.prog (fun call => extP [70] (extK 16 true call)) 14 true = true := by kernel_rfl
theorem returns_known : Go.Ab.Returns Try.prog 14 true :=
  returns_of_run draws name_ok (ext := fun call => extP [70] (extK 16 true call)) (fun call h => extP_ok [70] _ (extK_ok name_ok Try.func16 (by kernel_rfl) returns_works call h)) run_known
end Go.Proofs.Ytmmaccdkinlclaa
