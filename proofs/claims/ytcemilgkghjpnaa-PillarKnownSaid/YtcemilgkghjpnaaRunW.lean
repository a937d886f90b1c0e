/- works: its whole run, in the kernel. -/
import Derived.Test.YtcemilgkghjpnaaProg
import Derived.Test.YtcemilgkghjpnaaEngY
import Derived.KernelRfl
namespace Go.Proofs.Ytcemilgkghjpnaa
open Go.Ab
theorem run_works : topRun Try.prog (fun c => c) 15 true = true := by kernel_rfl
end Go.Proofs.Ytcemilgkghjpnaa
