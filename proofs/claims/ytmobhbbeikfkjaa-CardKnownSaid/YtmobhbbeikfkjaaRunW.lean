/- works: its whole run, in the kernel. -/
import Derived.Test.YtmobhbbeikfkjaaProg
import Derived.Test.YtmobhbbeikfkjaaEngUa
import Derived.Test.YtmobhbbeikfkjaaEngY
import Derived.KernelRfl
namespace Go.Proofs.Ytmobhbbeikfkjaa
open Go.Ab
theorem run_works : topRun Try.prog (extP []) 15 true = true := by kernel_rfl
end Go.Proofs.Ytmobhbbeikfkjaa
