/- works: its whole run, in the kernel. -/
import Derived.Test.YtlgglfmbcbfdmaaProg
import Derived.Test.YtlgglfmbcbfdmaaEngUa
import Derived.Test.YtlgglfmbcbfdmaaEngY
import Derived.KernelRfl
namespace Go.Proofs.Ytlgglfmbcbfdmaa
open Go.Ab
theorem run_works : topRun Try.prog (extP []) 13 true = true := by kernel_rfl
end Go.Proofs.Ytlgglfmbcbfdmaa
