/- works: its whole run, in the kernel. -/
import Derived.Test.YtiininfcjdnlaabProg
import Derived.Test.YtiininfcjdnlaabEngY
import Derived.KernelRfl
namespace Go.Proofs.Ytiininfcjdnlaab
open Go.Ab
theorem run_works : topRun Try.prog (fun c => c) 12 true = true := by kernel_rfl
end Go.Proofs.Ytiininfcjdnlaab
