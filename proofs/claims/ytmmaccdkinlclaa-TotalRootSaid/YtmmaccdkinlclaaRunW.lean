/- works: its whole run, in the kernel. -/
import Derived.Test.YtmmaccdkinlclaaProg
import Derived.Test.YtmmaccdkinlclaaEngUa
import Derived.Test.YtmmaccdkinlclaaEngY
import Derived.KernelRfl
namespace Go.Proofs.Ytmmaccdkinlclaa
open Go.Ab
theorem run_works : topRun Try.prog (extP [70]) 16 true = true := by kernel_rfl
end Go.Proofs.Ytmmaccdkinlclaa
