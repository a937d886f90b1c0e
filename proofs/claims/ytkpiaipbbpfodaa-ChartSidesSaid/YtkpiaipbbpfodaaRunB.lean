/- works returns true. -/
import Derived.Test.YtkpiaipbbpfodaaRunW
namespace Go.Proofs.Ytkpiaipbbpfodaa
open Go.Ab
theorem returns_works : Go.Ab.Returns Try.prog 19 true := returns_of_run draws name_ok (ext := ext2) ext2_ok run_works
end Go.Proofs.Ytkpiaipbbpfodaa
