/- works: its whole run, in the kernel. -/
import Derived.Test.YtildnbpdhkdddaaProg
import Derived.Test.YtildnbpdhkdddaaEngUa
import Derived.Test.YtildnbpdhkdddaaEngY
import Derived.KernelRfl
namespace Go.Proofs.Ytildnbpdhkdddaa
open Go.Ab
theorem run_works : topRun Try.prog (extP []) 12 true = true := by kernel_rfl
end Go.Proofs.Ytildnbpdhkdddaa
