/- works returns true; calls answered: works, and two functions of the library. -/
import Derived.Test.YtfcgfnlifdjfjaaRunW
namespace Go.Proofs.Ytfcgfnlifdjfjaa
open Go.Ab
theorem returns_works : Go.Ab.Returns Try.prog 14 true := returns_of_run draws name_ok ext0_ok run_works
abbrev ext1 : CallT → CallT := extX (libL 80 54) 14
theorem ext1_ok : ∀ call, CallOK Try.prog call → CallOK Try.prog (ext1 call) := fun call h => extX_ok name_ok lib_ok Try.func14 (by kernel_rfl) returns_works call h
end Go.Proofs.Ytfcgfnlifdjfjaa
