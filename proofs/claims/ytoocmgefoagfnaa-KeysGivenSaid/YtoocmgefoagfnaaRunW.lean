/- works: its whole run, in the kernel. -/
import Derived.Test.YtoocmgefoagfnaaProg
import Derived.Test.YtoocmgefoagfnaaEngUa
import Derived.Test.YtoocmgefoagfnaaEngY
import Derived.KernelRfl
namespace Go.Proofs.Ytoocmgefoagfnaa
open Go.Ab
theorem run_works : topRun Try.prog (extP []) 15 true = true := by kernel_rfl
end Go.Proofs.Ytoocmgefoagfnaa
