/- SwingRings: the runs for 28 to 40. -/
import Derived.Test.YtfcgfnlifdjfjaaRunB
import Derived.Test.YtfcgfnlifdjfjaaEngQf
import Derived.KernelRfl
namespace Go.Proofs.Ytfcgfnlifdjfjaa
open Go.Ab
theorem rings_28 : argRun Try.prog ext1 5 [.int .i64 28] = true := by kernel_rfl
theorem rings_29 : argRun Try.prog ext1 5 [.int .i64 29] = true := by kernel_rfl
theorem rings_30 : argRun Try.prog ext1 5 [.int .i64 30] = true := by kernel_rfl
theorem rings_31 : argRun Try.prog ext1 5 [.int .i64 31] = true := by kernel_rfl
theorem rings_32 : argRun Try.prog ext1 5 [.int .i64 32] = true := by kernel_rfl
theorem rings_33 : argRun Try.prog ext1 5 [.int .i64 33] = true := by kernel_rfl
theorem rings_34 : argRun Try.prog ext1 5 [.int .i64 34] = true := by kernel_rfl
theorem rings_35 : argRun Try.prog ext1 5 [.int .i64 35] = true := by kernel_rfl
theorem rings_36 : argRun Try.prog ext1 5 [.int .i64 36] = true := by kernel_rfl
theorem rings_37 : argRun Try.prog ext1 5 [.int .i64 37] = true := by kernel_rfl
theorem rings_38 : argRun Try.prog ext1 5 [.int .i64 38] = true := by kernel_rfl
theorem rings_39 : argRun Try.prog ext1 5 [.int .i64 39] = true := by kernel_rfl
theorem rings_40 : argRun Try.prog ext1 5 [.int .i64 40] = true := by kernel_rfl
end Go.Proofs.Ytfcgfnlifdjfjaa
