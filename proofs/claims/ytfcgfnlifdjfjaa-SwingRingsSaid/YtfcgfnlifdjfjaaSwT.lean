/- SwingRings: for all numbers. -/
import Derived.Test.YtfcgfnlifdjfjaaSwR
import Derived.Test.YtfcgfnlifdjfjaaSwS
namespace Go.Proofs.Ytfcgfnlifdjfjaa
open Go.Ab Go.RowKit
attribute [local irreducible] callF cFun
theorem rings_open (n : Int) (h : PureC (CL 1000 6) 5 [.int .i64 n] 60 (.bool true)) (W : World) : Calls Try.prog 5 ⟨[.int .i64 n]⟩ W fun e W' => e = .returned (.bool true) ∧ Below W.heap.size W W' := by
  have hs : (stOf W []).nx + 60 ≤ 4398046511104 := by rw [stOf_nx]; decide
  have h1 := h.run (d := 5) rfl rfl hs (stOf_fl W [])
  exact calls_open (F := 1000) (D := 5) (ext := ext1) (f := 5) (args := [.int .i64 n]) (W := W) (Bs := []) draws name_ok ext1_ok List.nodup_nil (Nat.zero_le _) h1
theorem rings_calls (n : Int) (W : World) : Calls Try.prog 5 ⟨[.int .i64 n]⟩ W fun e W' => e = .returned (.bool true) ∧ Below W.heap.size W W' := by
  by_cases h1 : n < 1
  · exact rings_open n (c5_lo 1000 0 (by decide) n h1) W
  by_cases h2 : 40 < n
  · exact rings_open n (c5_hi 1000 0 (by decide) n h2) W
  obtain ⟨q, rfl⟩ := Int.eq_ofNat_of_zero_le (show 0 ≤ n by omega)
  by_cases h6 : q = 6
  · subst h6
    exact calls_args draws name_ok ext1p_ok (args := [.int .i64 6]) rfl rings_6 W
  exact calls_args draws name_ok ext1_ok (args := [.int .i64 (Int.ofNat q)]) rfl (rings_all q (by omega) (by omega) h6) W
end Go.Proofs.Ytfcgfnlifdjfjaa
