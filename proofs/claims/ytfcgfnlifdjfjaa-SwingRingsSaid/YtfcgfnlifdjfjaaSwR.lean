/- SwingRings: the runs for 1 to 40. -/
import Derived.Test.YtfcgfnlifdjfjaaSwRa
import Derived.Test.YtfcgfnlifdjfjaaSwRb
import Derived.Test.YtfcgfnlifdjfjaaSwRc
import Derived.Test.YtfcgfnlifdjfjaaSwRd
namespace Go.Proofs.Ytfcgfnlifdjfjaa
open Go.Ab
theorem rings_all (n : Nat) (h : n < 41) (h0 : 0 < n) (h6 : n ≠ 6) : argRun Try.prog ext1 5 [.int .i64 (Int.ofNat n)] = true := by
  match n, h with
  | 0, _ => exact absurd h0 (by decide)
  | 1, _ => exact rings_1
  | 2, _ => exact rings_2
  | 3, _ => exact rings_3
  | 4, _ => exact rings_4
  | 5, _ => exact rings_5
  | 6, _ => exact absurd rfl h6
  | 7, _ => exact rings_7
  | 8, _ => exact rings_8
  | 9, _ => exact rings_9
  | 10, _ => exact rings_10
  | 11, _ => exact rings_11
  | 12, _ => exact rings_12
  | 13, _ => exact rings_13
  | 14, _ => exact rings_14
  | 15, _ => exact rings_15
  | 16, _ => exact rings_16
  | 17, _ => exact rings_17
  | 18, _ => exact rings_18
  | 19, _ => exact rings_19
  | 20, _ => exact rings_20
  | 21, _ => exact rings_21
  | 22, _ => exact rings_22
  | 23, _ => exact rings_23
  | 24, _ => exact rings_24
  | 25, _ => exact rings_25
  | 26, _ => exact rings_26
  | 27, _ => exact rings_27
  | 28, _ => exact rings_28
  | 29, _ => exact rings_29
  | 30, _ => exact rings_30
  | 31, _ => exact rings_31
  | 32, _ => exact rings_32
  | 33, _ => exact rings_33
  | 34, _ => exact rings_34
  | 35, _ => exact rings_35
  | 36, _ => exact rings_36
  | 37, _ => exact rings_37
  | 38, _ => exact rings_38
  | 39, _ => exact rings_39
  | 40, _ => exact rings_40
  | n + 41, h => exact absurd h (by omega)
end Go.Proofs.Ytfcgfnlifdjfjaa
