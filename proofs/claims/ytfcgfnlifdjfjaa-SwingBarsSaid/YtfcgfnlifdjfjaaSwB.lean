/- SwingBars: the run depends on a remainder alone, and each remainder is run in the kernel; works and two functions of the library are answered by what is known of them. -/
import Derived.Test.YtfcgfnlifdjfjaaRunB
import Derived.Test.YtfcgfnlifdjfjaaEngQd
import Derived.Test.YtfcgfnlifdjfjaaEngQf
namespace Go.Proofs.Ytfcgfnlifdjfjaa
open Go.Ab
theorem wr_small10 (q : Nat) (h : q < 1000) : wr .i64 (Int.ofNat q) = Int.ofNat q := by
  unfold wr
  have : q < 9223372036854775808 := by omega
  simp only [blt_of this, cond_true]
set_option maxRecDepth 100000 in
theorem run10_0 (q : Nat) (hq : q < 256) (hr : q % 6 = 0) : argRun Try.prog ext1 10 [.int .u8 (Int.ofNat q)] = true := by
  unfold argRun
  refine run_fn (k := 3) (n := 78) (c := _) Try.func10 rfl rfl rfl rfl rfl rfl ?_
  refine Eq.trans run_seq ?_
  refine Eq.trans run_region0 ?_
  refine step_sil (v := .bool false) rfl rfl rfl (fun _ => rfl) ?_
  refine Eq.trans ops_nil ?_
  dsimp only
  refine Eq.trans run_seq ?_
  refine Eq.trans run_region0 ?_
  refine step_sil (v := .int .u8 (Int.ofNat q)) rfl rfl rfl (fun _ => rfl) ?_
  refine step_sil (v := .int .i64 (Int.ofNat q)) rfl rfl rfl (fun K' => congrArg (fun z => K' (.int .i64 z)) (wr_small10 q (by omega))) ?_
  refine step_sil (v := .int .i64 (Int.ofNat 0)) rfl rfl rfl (fun K' => congrArg (fun z => K' (.int .i64 (Int.ofNat z))) hr) ?_
  refine step_sil (v := .int .i64 (Int.ofNat 1)) rfl rfl rfl (fun K' => rfl) ?_
  refine step_sil (v := .int .i64 (Int.ofNat 1)) rfl rfl rfl (fun _ => rfl) ?_
  refine Eq.trans ops_nil ?_
  clear hr hq
  generalize Int.ofNat q = z
  kernel_rfl
set_option maxRecDepth 100000 in
theorem run10_1 (q : Nat) (hq : q < 256) (hr : q % 6 = 1) : argRun Try.prog ext1 10 [.int .u8 (Int.ofNat q)] = true := by
  unfold argRun
  refine run_fn (k := 3) (n := 78) (c := _) Try.func10 rfl rfl rfl rfl rfl rfl ?_
  refine Eq.trans run_seq ?_
  refine Eq.trans run_region0 ?_
  refine step_sil (v := .bool false) rfl rfl rfl (fun _ => rfl) ?_
  refine Eq.trans ops_nil ?_
  dsimp only
  refine Eq.trans run_seq ?_
  refine Eq.trans run_region0 ?_
  refine step_sil (v := .int .u8 (Int.ofNat q)) rfl rfl rfl (fun _ => rfl) ?_
  refine step_sil (v := .int .i64 (Int.ofNat q)) rfl rfl rfl (fun K' => congrArg (fun z => K' (.int .i64 z)) (wr_small10 q (by omega))) ?_
  refine step_sil (v := .int .i64 (Int.ofNat 1)) rfl rfl rfl (fun K' => congrArg (fun z => K' (.int .i64 (Int.ofNat z))) hr) ?_
  refine step_sil (v := .int .i64 (Int.ofNat 2)) rfl rfl rfl (fun K' => rfl) ?_
  refine step_sil (v := .int .i64 (Int.ofNat 2)) rfl rfl rfl (fun _ => rfl) ?_
  refine Eq.trans ops_nil ?_
  clear hr hq
  generalize Int.ofNat q = z
  kernel_rfl
set_option maxRecDepth 100000 in
theorem run10_2 (q : Nat) (hq : q < 256) (hr : q % 6 = 2) : argRun Try.prog ext1 10 [.int .u8 (Int.ofNat q)] = true := by
  unfold argRun
  refine run_fn (k := 3) (n := 78) (c := _) Try.func10 rfl rfl rfl rfl rfl rfl ?_
  refine Eq.trans run_seq ?_
  refine Eq.trans run_region0 ?_
  refine step_sil (v := .bool false) rfl rfl rfl (fun _ => rfl) ?_
  refine Eq.trans ops_nil ?_
  dsimp only
  refine Eq.trans run_seq ?_
  refine Eq.trans run_region0 ?_
  refine step_sil (v := .int .u8 (Int.ofNat q)) rfl rfl rfl (fun _ => rfl) ?_
  refine step_sil (v := .int .i64 (Int.ofNat q)) rfl rfl rfl (fun K' => congrArg (fun z => K' (.int .i64 z)) (wr_small10 q (by omega))) ?_
  refine step_sil (v := .int .i64 (Int.ofNat 2)) rfl rfl rfl (fun K' => congrArg (fun z => K' (.int .i64 (Int.ofNat z))) hr) ?_
  refine step_sil (v := .int .i64 (Int.ofNat 3)) rfl rfl rfl (fun K' => rfl) ?_
  refine step_sil (v := .int .i64 (Int.ofNat 3)) rfl rfl rfl (fun _ => rfl) ?_
  refine Eq.trans ops_nil ?_
  clear hr hq
  generalize Int.ofNat q = z
  kernel_rfl
set_option maxRecDepth 100000 in
theorem run10_3 (q : Nat) (hq : q < 256) (hr : q % 6 = 3) : argRun Try.prog ext1 10 [.int .u8 (Int.ofNat q)] = true := by
  unfold argRun
  refine run_fn (k := 3) (n := 78) (c := _) Try.func10 rfl rfl rfl rfl rfl rfl ?_
  refine Eq.trans run_seq ?_
  refine Eq.trans run_region0 ?_
  refine step_sil (v := .bool false) rfl rfl rfl (fun _ => rfl) ?_
  refine Eq.trans ops_nil ?_
  dsimp only
  refine Eq.trans run_seq ?_
  refine Eq.trans run_region0 ?_
  refine step_sil (v := .int .u8 (Int.ofNat q)) rfl rfl rfl (fun _ => rfl) ?_
  refine step_sil (v := .int .i64 (Int.ofNat q)) rfl rfl rfl (fun K' => congrArg (fun z => K' (.int .i64 z)) (wr_small10 q (by omega))) ?_
  refine step_sil (v := .int .i64 (Int.ofNat 3)) rfl rfl rfl (fun K' => congrArg (fun z => K' (.int .i64 (Int.ofNat z))) hr) ?_
  refine step_sil (v := .int .i64 (Int.ofNat 4)) rfl rfl rfl (fun K' => rfl) ?_
  refine step_sil (v := .int .i64 (Int.ofNat 4)) rfl rfl rfl (fun _ => rfl) ?_
  refine Eq.trans ops_nil ?_
  clear hr hq
  generalize Int.ofNat q = z
  kernel_rfl
set_option maxRecDepth 100000 in
theorem run10_4 (q : Nat) (hq : q < 256) (hr : q % 6 = 4) : argRun Try.prog ext1 10 [.int .u8 (Int.ofNat q)] = true := by
  unfold argRun
  refine run_fn (k := 3) (n := 78) (c := _) Try.func10 rfl rfl rfl rfl rfl rfl ?_
  refine Eq.trans run_seq ?_
  refine Eq.trans run_region0 ?_
  refine step_sil (v := .bool false) rfl rfl rfl (fun _ => rfl) ?_
  refine Eq.trans ops_nil ?_
  dsimp only
  refine Eq.trans run_seq ?_
  refine Eq.trans run_region0 ?_
  refine step_sil (v := .int .u8 (Int.ofNat q)) rfl rfl rfl (fun _ => rfl) ?_
  refine step_sil (v := .int .i64 (Int.ofNat q)) rfl rfl rfl (fun K' => congrArg (fun z => K' (.int .i64 z)) (wr_small10 q (by omega))) ?_
  refine step_sil (v := .int .i64 (Int.ofNat 4)) rfl rfl rfl (fun K' => congrArg (fun z => K' (.int .i64 (Int.ofNat z))) hr) ?_
  refine step_sil (v := .int .i64 (Int.ofNat 5)) rfl rfl rfl (fun K' => rfl) ?_
  refine step_sil (v := .int .i64 (Int.ofNat 5)) rfl rfl rfl (fun _ => rfl) ?_
  refine Eq.trans ops_nil ?_
  clear hr hq
  generalize Int.ofNat q = z
  kernel_rfl
set_option maxRecDepth 100000 in
theorem run10_5 (q : Nat) (hq : q < 256) (hr : q % 6 = 5) : argRun Try.prog ext1 10 [.int .u8 (Int.ofNat q)] = true := by
  unfold argRun
  refine run_fn (k := 3) (n := 78) (c := _) Try.func10 rfl rfl rfl rfl rfl rfl ?_
  refine Eq.trans run_seq ?_
  refine Eq.trans run_region0 ?_
  refine step_sil (v := .bool false) rfl rfl rfl (fun _ => rfl) ?_
  refine Eq.trans ops_nil ?_
  dsimp only
  refine Eq.trans run_seq ?_
  refine Eq.trans run_region0 ?_
  refine step_sil (v := .int .u8 (Int.ofNat q)) rfl rfl rfl (fun _ => rfl) ?_
  refine step_sil (v := .int .i64 (Int.ofNat q)) rfl rfl rfl (fun K' => congrArg (fun z => K' (.int .i64 z)) (wr_small10 q (by omega))) ?_
  refine step_sil (v := .int .i64 (Int.ofNat 5)) rfl rfl rfl (fun K' => congrArg (fun z => K' (.int .i64 (Int.ofNat z))) hr) ?_
  refine step_sil (v := .int .i64 (Int.ofNat 6)) rfl rfl rfl (fun K' => rfl) ?_
  refine step_sil (v := .int .i64 (Int.ofNat 6)) rfl rfl rfl (fun _ => rfl) ?_
  refine Eq.trans ops_nil ?_
  clear hr hq
  generalize Int.ofNat q = z
  kernel_rfl
theorem run10 (q : Nat) (hq : q < 256) : argRun Try.prog ext1 10 [.int .u8 (Int.ofNat q)] = true := by
  have hr : q % 6 < 6 := Nat.mod_lt _ (by decide)
  generalize h : q % 6 = r at hr
  match r, hr with
  | 0, _ => exact run10_0 q hq h
  | 1, _ => exact run10_1 q hq h
  | 2, _ => exact run10_2 q hq h
  | 3, _ => exact run10_3 q hq h
  | 4, _ => exact run10_4 q hq h
  | 5, _ => exact run10_5 q hq h
end Go.Proofs.Ytfcgfnlifdjfjaa
