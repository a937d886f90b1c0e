/- works: its whole run, in the kernel. -/
import Derived.Test.YtefnljdfgjjpjaaProg
import Derived.Test.YtefnljdfgjjpjaaEngUa
import Derived.Test.YtefnljdfgjjpjaaEngY
import Derived.KernelRfl
namespace Go.Proofs.Ytefnljdfgjjpjaa
open Go.Ab
theorem run_works : topRun Try.prog (extP []) 14 true = true := by kernel_rfl
end Go.Proofs.Ytefnljdfgjjpjaa
