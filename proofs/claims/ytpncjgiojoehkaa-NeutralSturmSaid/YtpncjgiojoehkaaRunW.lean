/- works: its whole run, in the kernel. -/
import Derived.Test.YtpncjgiojoehkaaProg
import Derived.Test.YtpncjgiojoehkaaEngUa
import Derived.Test.YtpncjgiojoehkaaEngY
import Derived.KernelRfl
namespace Go.Proofs.Ytpncjgiojoehkaa
open Go.Ab
theorem run_works : topRun Try.prog (extP []) 12 true = true := by kernel_rfl
end Go.Proofs.Ytpncjgiojoehkaa
