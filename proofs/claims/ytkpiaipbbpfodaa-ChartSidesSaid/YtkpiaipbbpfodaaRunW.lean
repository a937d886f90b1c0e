/- works: its whole run, in the kernel. -/
import Derived.Test.YtkpiaipbbpfodaaRunC
namespace Go.Proofs.Ytkpiaipbbpfodaa
open Go.Ab
theorem run_works : topRun Try.prog ext2 19 true = true := by kernel_rfl
end Go.Proofs.Ytkpiaipbbpfodaa
