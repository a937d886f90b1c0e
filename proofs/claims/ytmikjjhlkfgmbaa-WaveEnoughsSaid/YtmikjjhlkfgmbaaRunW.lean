/- works: its whole run, in the kernel. -/
import Derived.Test.YtmikjjhlkfgmbaaProg
import Derived.Test.YtmikjjhlkfgmbaaEngUa
import Derived.Test.YtmikjjhlkfgmbaaEngY
import Derived.KernelRfl
namespace Go.Proofs.Ytmikjjhlkfgmbaa
open Go.Ab
theorem run_works : topRun Try.prog (extP []) 15 true = true := by kernel_rfl
end Go.Proofs.Ytmikjjhlkfgmbaa
