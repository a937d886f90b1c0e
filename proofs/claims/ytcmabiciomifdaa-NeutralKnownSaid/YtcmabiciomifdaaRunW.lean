/- works: its whole run, in the kernel. -/
import Derived.Test.YtcmabiciomifdaaProg
import Derived.Test.YtcmabiciomifdaaEngUa
import Derived.Test.YtcmabiciomifdaaEngY
import Derived.KernelRfl
namespace Go.Proofs.Ytcmabiciomifdaa
open Go.Ab
theorem run_works : topRun Try.prog (extP []) 12 true = true := by kernel_rfl
end Go.Proofs.Ytcmabiciomifdaa
