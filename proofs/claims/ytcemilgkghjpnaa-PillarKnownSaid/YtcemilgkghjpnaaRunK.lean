/- PillarKnown: its whole run, in the kernel; works is answered by what is known of it. -/
import Derived.Test.YtcemilgkghjpnaaRunB
namespace Go.Proofs.Ytcemilgkghjpnaa
open Go.Ab
theorem run_known : topRun Try.prog (extK 15 true) 13 true = true := by kernel_rfl
theorem returns_known : Go.Ab.Returns Try.prog 13 true :=
  returns_of_run draws name_ok (ext := extK 15 true) (fun call h => extK_ok name_ok Try.func15 (by kernel_rfl) returns_works call h) run_known
end Go.Proofs.Ytcemilgkghjpnaa
