/- SwingRing: the runs of the law for the orders 4 and 5. -/
import Derived.Test.YtfcgfnlifdjfjaaSwY
namespace Go.Proofs.Ytfcgfnlifdjfjaa
open Go.Ab Go.RowKit
set_option maxRecDepth 100000 in
theorem law_3 (A : Asks) (b c : Int) (q : Nat) (hq : q < 256) (hr : q % 6 = 3) : argRun Try.prog (ext2 A) 9 [.int .u8 (Int.ofNat q), .agg ⟨[.int .u64 b, .int .u8 c]⟩] = ends A b c := by
  unfold argRun
  refine run_fn (k := 3) (n := 197) (c := _) Try.func9 rfl rfl rfl rfl rfl rfl ?_
  refine Eq.trans run_seq ?_
  refine Eq.trans run_region0 ?_
  refine step_al rfl rfl rfl (fun _ => rfl) rfl ?_
  refine step_sil (v := .bool false) rfl rfl rfl (fun _ => rfl) ?_
  refine Eq.trans ops_nil ?_
  dsimp only
  refine Eq.trans run_seq ?_
  refine Eq.trans run_region0 ?_
  refine step_sil (v := .int .u8 (Int.ofNat q)) rfl rfl rfl (fun _ => rfl) ?_
  refine step_sil (v := .int .i64 (Int.ofNat q)) rfl rfl rfl (fun K' => congrArg (fun z => K' (.int .i64 z)) (wr_small q (by omega))) ?_
  refine step_sil (v := .int .i64 (Int.ofNat 3)) rfl rfl rfl (fun K' => congrArg (fun z => K' (.int .i64 (Int.ofNat z))) hr) ?_
  refine step_sil (v := .int .i64 (Int.ofNat 4)) rfl rfl rfl (fun K' => rfl) ?_
  refine step_sil (v := .int .i64 (Int.ofNat 4)) rfl rfl rfl (fun _ => rfl) ?_
  refine Eq.trans ops_nil ?_
  clear hr hq
  generalize Int.ofNat q = z
  kernel_rfl
end Go.Proofs.Ytfcgfnlifdjfjaa
namespace Go.Proofs.Ytfcgfnlifdjfjaa
open Go.Ab Go.RowKit
set_option maxRecDepth 100000 in
theorem law_4 (A : Asks) (b c : Int) (q : Nat) (hq : q < 256) (hr : q % 6 = 4) : argRun Try.prog (ext2 A) 9 [.int .u8 (Int.ofNat q), .agg ⟨[.int .u64 b, .int .u8 c]⟩] = ends A b c := by
  unfold argRun
  refine run_fn (k := 3) (n := 197) (c := _) Try.func9 rfl rfl rfl rfl rfl rfl ?_
  refine Eq.trans run_seq ?_
  refine Eq.trans run_region0 ?_
  refine step_al rfl rfl rfl (fun _ => rfl) rfl ?_
  refine step_sil (v := .bool false) rfl rfl rfl (fun _ => rfl) ?_
  refine Eq.trans ops_nil ?_
  dsimp only
  refine Eq.trans run_seq ?_
  refine Eq.trans run_region0 ?_
  refine step_sil (v := .int .u8 (Int.ofNat q)) rfl rfl rfl (fun _ => rfl) ?_
  refine step_sil (v := .int .i64 (Int.ofNat q)) rfl rfl rfl (fun K' => congrArg (fun z => K' (.int .i64 z)) (wr_small q (by omega))) ?_
  refine step_sil (v := .int .i64 (Int.ofNat 4)) rfl rfl rfl (fun K' => congrArg (fun z => K' (.int .i64 (Int.ofNat z))) hr) ?_
  refine step_sil (v := .int .i64 (Int.ofNat 5)) rfl rfl rfl (fun K' => rfl) ?_
  refine step_sil (v := .int .i64 (Int.ofNat 5)) rfl rfl rfl (fun _ => rfl) ?_
  refine Eq.trans ops_nil ?_
  clear hr hq
  generalize Int.ofNat q = z
  kernel_rfl
end Go.Proofs.Ytfcgfnlifdjfjaa
