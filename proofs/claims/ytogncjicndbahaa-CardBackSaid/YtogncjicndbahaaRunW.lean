/- works: its whole run, in the kernel. -/
import Derived.Test.YtogncjicndbahaaProg
import Derived.Test.YtogncjicndbahaaEngUa
import Derived.Test.YtogncjicndbahaaEngY
import Derived.KernelRfl
namespace Go.Proofs.Ytogncjicndbahaa
open Go.Ab
theorem run_works : topRun Try.prog (extP []) 15 true = true := by kernel_rfl
end Go.Proofs.Ytogncjicndbahaa
