/- Neutral: texts Xc Xd Xe. -/
import Derived.Test.YtpncjgiojoehkaaNmK
import Derived.KernelRfl
namespace Go.Proofs.Ytpncjgiojoehkaa
open Go.Ab
set_option maxRecDepth 100000
theorem k3_4 : ck3 4 = true := by kernel_rfl
theorem k3_5 : ck3 5 = true := by kernel_rfl
theorem k3_6 : ck3 6 = true := by kernel_rfl
end Go.Proofs.Ytpncjgiojoehkaa
namespace Go.Proofs.Ytpncjgiojoehkaa
open Go.Ab
set_option maxRecDepth 100000
theorem k3_7 : ck3 7 = true := by kernel_rfl
theorem k3_8 : ck3 8 = true := by kernel_rfl
theorem k3_9 : ck3 9 = true := by kernel_rfl
theorem k3_10 : ck3 10 = true := by kernel_rfl
theorem k3_11 : ck3 11 = true := by kernel_rfl
theorem k3_12 : ck3 12 = true := by kernel_rfl
theorem k3_13 : ck3 13 = true := by kernel_rfl
theorem pm_0 : pm3 0 = true := by kernel_rfl
theorem pm_1 : pm3 1 = true := by kernel_rfl
theorem pm_2 : pm3 2 = true := by kernel_rfl
theorem pm_3 : pm3 3 = true := by kernel_rfl
theorem pm_4 : pm3 4 = true := by kernel_rfl
theorem pm_5 : pm3 5 = true := by kernel_rfl
theorem pm_6 : pm3 6 = true := by kernel_rfl
theorem pm_7 : pm3 7 = true := by kernel_rfl
theorem pm_8 : pm3 8 = true := by kernel_rfl
theorem pm_9 : pm3 9 = true := by kernel_rfl
theorem pm_10 : pm3 10 = true := by kernel_rfl
theorem pm_11 : pm3 11 = true := by kernel_rfl
theorem pm_12 : pm3 12 = true := by kernel_rfl
theorem pm_13 : pm3 13 = true := by kernel_rfl
end Go.Proofs.Ytpncjgiojoehkaa
namespace Go.Proofs.Ytpncjgiojoehkaa
open Go.Ab
set_option maxRecDepth 100000
theorem k2_0 : ck2 0 = true := by kernel_rfl
theorem k2_1 : ck2 1 = true := by kernel_rfl
theorem k2_2 : ck2 2 = true := by kernel_rfl
theorem k2_3 : ck2 3 = true := by kernel_rfl
theorem k2_4 : ck2 4 = true := by kernel_rfl
theorem k2_5 : ck2 5 = true := by kernel_rfl
theorem k2_6 : ck2 6 = true := by kernel_rfl
theorem k2_7 : ck2 7 = true := by kernel_rfl
theorem k2_8 : ck2 8 = true := by kernel_rfl
theorem k2_9 : ck2 9 = true := by kernel_rfl
theorem k2_10 : ck2 10 = true := by kernel_rfl
theorem k2_11 : ck2 11 = true := by kernel_rfl
theorem k2_12 : ck2 12 = true := by kernel_rfl
theorem k2_13 : ck2 13 = true := by kernel_rfl
theorem k1_e : ck1 [1] 2 = true := by kernel_rfl
theorem k1_1 : ck1 [1, 1, 1] 4 = true := by kernel_rfl
theorem k1_2 : ck1 [2, 0, 1] 4 = true := by kernel_rfl
theorem k0_1 : ck2s [1, 1, 1] 3 0 [] = true := by kernel_rfl
theorem k0_2 : ck2s [2, 0, 1] 3 0 [] = true := by kernel_rfl
end Go.Proofs.Ytpncjgiojoehkaa
