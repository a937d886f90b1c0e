/- SwingRings: the runs for 7 to 27. -/
import Derived.Test.YtfcgfnlifdjfjaaRunB
import Derived.Test.YtfcgfnlifdjfjaaEngQf
import Derived.KernelRfl
namespace Go.Proofs.Ytfcgfnlifdjfjaa
open Go.Ab
theorem rings_7 : argRun Try.prog ext1 5 [.int .i64 7] = true := by kernel_rfl
theorem rings_8 : argRun Try.prog ext1 5 [.int .i64 8] = true := by kernel_rfl
theorem rings_9 : argRun Try.prog ext1 5 [.int .i64 9] = true := by kernel_rfl
theorem rings_10 : argRun Try.prog ext1 5 [.int .i64 10] = true := by kernel_rfl
theorem rings_11 : argRun Try.prog ext1 5 [.int .i64 11] = true := by kernel_rfl
theorem rings_12 : argRun Try.prog ext1 5 [.int .i64 12] = true := by kernel_rfl
theorem rings_13 : argRun Try.prog ext1 5 [.int .i64 13] = true := by kernel_rfl
theorem rings_14 : argRun Try.prog ext1 5 [.int .i64 14] = true := by kernel_rfl
theorem rings_15 : argRun Try.prog ext1 5 [.int .i64 15] = true := by kernel_rfl
theorem rings_16 : argRun Try.prog ext1 5 [.int .i64 16] = true := by kernel_rfl
theorem rings_17 : argRun Try.prog ext1 5 [.int .i64 17] = true := by kernel_rfl
theorem rings_18 : argRun Try.prog ext1 5 [.int .i64 18] = true := by kernel_rfl
theorem rings_19 : argRun Try.prog ext1 5 [.int .i64 19] = true := by kernel_rfl
theorem rings_20 : argRun Try.prog ext1 5 [.int .i64 20] = true := by kernel_rfl
theorem rings_21 : argRun Try.prog ext1 5 [.int .i64 21] = true := by kernel_rfl
theorem rings_22 : argRun Try.prog ext1 5 [.int .i64 22] = true := by kernel_rfl
theorem rings_23 : argRun Try.prog ext1 5 [.int .i64 23] = true := by kernel_rfl
theorem rings_24 : argRun Try.prog ext1 5 [.int .i64 24] = true := by kernel_rfl
theorem rings_25 : argRun Try.prog ext1 5 [.int .i64 25] = true := by kernel_rfl
theorem rings_26 : argRun Try.prog ext1 5 [.int .i64 26] = true := by kernel_rfl
theorem rings_27 : argRun Try.prog ext1 5 [.int .i64 27] = true := by kernel_rfl
end Go.Proofs.Ytfcgfnlifdjfjaa
