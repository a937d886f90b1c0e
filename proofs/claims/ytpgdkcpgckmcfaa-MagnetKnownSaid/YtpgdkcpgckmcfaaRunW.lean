/- works: its whole run, in the kernel. -/
import Derived.Test.YtpgdkcpgckmcfaaProg
import Derived.Test.YtpgdkcpgckmcfaaEngUa
import Derived.Test.YtpgdkcpgckmcfaaEngY
import Derived.KernelRfl
namespace Go.Proofs.Ytpgdkcpgckmcfaa
open Go.Ab
theorem run_works : topRun Try.prog (extP []) 22 true = true := by kernel_rfl
end Go.Proofs.Ytpgdkcpgckmcfaa
