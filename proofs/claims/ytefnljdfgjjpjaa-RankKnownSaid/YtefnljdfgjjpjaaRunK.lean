/- RankKnown: its whole run, in the kernel; works is answered by what is known of it. -/
import Derived.Test.YtefnljdfgjjpjaaRunB
namespace Go.Proofs.Ytefnljdfgjjpjaa
open Go.Ab
theorem run_known : topRun Try.prog (fun call => extP [] (extK 14 true call)) 13 true = true := by kernel_rfl
theorem returns_known : Go.Ab.Returns Try.prog 13 true :=
  returns_of_run draws name_ok (ext := fun call => extP [] (extK 14 true call)) (fun call h => extP_ok [] _ (extK_ok name_ok Try.func14 (by kernel_rfl) returns_works call h)) run_known
end Go.Proofs.Ytefnljdfgjjpjaa
