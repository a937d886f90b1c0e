/- SwingRings: the runs for 1 to 5. -/
import Derived.Test.YtfcgfnlifdjfjaaRunB
import Derived.Test.YtfcgfnlifdjfjaaEngQf
import Derived.KernelRfl
namespace Go.Proofs.Ytfcgfnlifdjfjaa
open Go.Ab
theorem rings_1 : argRun Try.prog ext1 5 [.int .i64 1] = true := by kernel_rfl
theorem rings_2 : argRun Try.prog ext1 5 [.int .i64 2] = true := by kernel_rfl
theorem rings_3 : argRun Try.prog ext1 5 [.int .i64 3] = true := by kernel_rfl
theorem rings_4 : argRun Try.prog ext1 5 [.int .i64 4] = true := by kernel_rfl
theorem rings_5 : argRun Try.prog ext1 5 [.int .i64 5] = true := by kernel_rfl
end Go.Proofs.Ytfcgfnlifdjfjaa
