/- works: its whole run, in the kernel. -/
import Derived.Test.YtkkmgaigingmpaaProg
import Derived.Test.YtkkmgaigingmpaaEngY
import Derived.KernelRfl
namespace Go.Proofs.Ytkkmgaigingmpaa
open Go.Ab
theorem run_works : topRun Try.prog (fun c => c) 16 true = true := by kernel_rfl
end Go.Proofs.Ytkkmgaigingmpaa
