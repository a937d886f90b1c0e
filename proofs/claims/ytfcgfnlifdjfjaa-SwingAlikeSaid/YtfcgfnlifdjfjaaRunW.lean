/- works: its whole run, in the kernel. -/
import Derived.Test.YtfcgfnlifdjfjaaRunC
namespace Go.Proofs.Ytfcgfnlifdjfjaa
open Go.Ab
theorem run_works : topRun Try.prog ext0 14 true = true := by kernel_rfl
end Go.Proofs.Ytfcgfnlifdjfjaa
