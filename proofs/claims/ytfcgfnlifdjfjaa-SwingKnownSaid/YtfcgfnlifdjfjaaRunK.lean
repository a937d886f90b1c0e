/- SwingKnown: its whole run, in the kernel; works is answered by what is known of it. -/
import Derived.Test.YtfcgfnlifdjfjaaRunB
namespace Go.Proofs.Ytfcgfnlifdjfjaa
open Go.Ab
theorem run_known : topRun Try.prog ext1 13 true = true := by kernel_rfl
theorem returns_known : Go.Ab.Returns Try.prog 13 true := returns_of_run draws name_ok ext1_ok run_known
end Go.Proofs.Ytfcgfnlifdjfjaa
