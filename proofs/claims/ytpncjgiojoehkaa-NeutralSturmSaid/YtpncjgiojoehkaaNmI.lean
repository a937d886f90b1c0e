/- Neutral: texts Xa Xb. -/
import Derived.Test.YtpncjgiojoehkaaNmK
import Derived.KernelRfl
namespace Go.Proofs.Ytpncjgiojoehkaa
open Go.Ab
set_option maxRecDepth 100000
theorem k3_0 : ck3 0 = true := by kernel_rfl
theorem k3_1 : ck3 1 = true := by kernel_rfl
end Go.Proofs.Ytpncjgiojoehkaa
namespace Go.Proofs.Ytpncjgiojoehkaa
open Go.Ab
set_option maxRecDepth 100000
theorem k3_2 : ck3 2 = true := by kernel_rfl
theorem k3_3 : ck3 3 = true := by kernel_rfl
end Go.Proofs.Ytpncjgiojoehkaa
