/- works: its whole run, in the kernel. -/
import Derived.Test.YtbpdmbgkoijfbaaProg
import Derived.Test.YtbpdmbgkoijfbaaEngUa
import Derived.Test.YtbpdmbgkoijfbaaEngY
import Derived.KernelRfl
namespace Go.Proofs.Ytbpdmbgkoijfbaa
open Go.Ab
theorem run_works : topRun Try.prog (extP []) 14 true = true := by kernel_rfl
end Go.Proofs.Ytbpdmbgkoijfbaa
