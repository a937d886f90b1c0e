/- OreCertain returns true for all arguments, whatever the memory and the order in which operands come: an open run over what the slice reads as; works is answered by what is known of it. No condition. -/
import Derived.Test.YtbpdmbgkoijfbaaRows
import Derived.WalkKit
import Derived.ProofKit
import Derived.OpenShut
import Derived.Test.YtbpdmbgkoijfbaaEngSx
import Derived.Test.YtbpdmbgkoijfbaaOrCx
import Derived.Test.YtbpdmbgkoijfbaaRunB
namespace Go.Proofs.Ytbpdmbgkoijfbaa.oreCertain
open Go.ChangeShapes Go.WideShapes Go.ChangeAt Go.RowKit Go.Ab

set_option maxHeartbeats 8000000
theorem own : ownKnob Try.prog.godebug = none := by kernel_rfl
attribute [local irreducible] callF cFun
theorem h_ext : ∀ call, CallOK Try.prog call → CallOK Try.prog (extB [] 14 call) := fun call h => extB_ok name_ok Try.func14 (by kernel_rfl) returns_works call h
theorem h_calls (W : World) (Bs : List Nat) (hB : Bs.Nodup) (hl : Bs.length ≤ 1) (args l : List Value) (hargs : args.map (alV Bs) = l) (h : (cFun Try.prog 400 8).run (callF Try.prog 400 (extB [] 14) (0 + (10 - 1))) l (isTrue true) (stOf W Bs) = true) :
    Calls Try.prog 8 ⟨args⟩ W fun e' W' => e' = .returned (.bool true) ∧ Below W.heap.size W W' := by
  subst hargs
  exact calls_open (F := 400) (D := 0 + (10 - 1)) (ext := extB [] 14) (f := 8) (args := args) (W := W) (Bs := Bs) draws name_ok h_ext hB (Nat.le_trans hl (Nat.le_of_ble_eq_true rfl)) h
theorem nodup1 : ∀ {l : List Nat}, l.length ≤ 1 → l.Nodup
  | [], _ => List.nodup_nil
  | [x], _ => List.nodup_cons.2 ⟨by simp, List.nodup_nil⟩
  | _ :: _ :: _, h => by simp at h
set_option maxRecDepth 100000 in
theorem h_args (x0 : Int) (x1 : Int) (x2 : Int) (x3 : Int) (x4 : Int) (x5 : Int) (x6 : Int) (x7 : Int) (x8 : Int) (x9 : Int) (x10 : Int) (x11 : Int) (x12 : Int) (x13 : Int) (x14 : Int) (x15 : Int) (x16 : Int) (x17 : Int) (x18 : Int) (x19 : Int) (x20 : Int) (x21 : Int) (x22 : Int) (x23 : Int) (x24 : Int) (x25 : Int) (x26 : Int) (x27 : Int) (x28 : Int) (x29 : Int) (x30 : Int) (x31 : Int) (x32 : Int) (x33 : Int) (x34 : Int) (x35 : Int) (x36 : Int) (x37 : Int) (x38 : Int) (x39 : Int) (x40 : Int) (x41 : Int) (x42 : Int) (Bs : List Nat) (v : Value) : ([.agg ⟨[.int .u8 x0, .int .u8 x1, .int .u8 x2, v]⟩, .agg ⟨[.int .u8 x3, .int .u8 x4, .int .u8 x5, .int .u8 x6]⟩, .agg ⟨[.int .i8 x7, .int .i8 x8, .int .i8 x9, .int .i8 x10, .int .i8 x11, .int .i8 x12, .int .i8 x13, .int .i8 x14, .int .i8 x15, .int .i8 x16, .int .i8 x17, .int .i8 x18, .int .i8 x19, .int .i8 x20, .int .i8 x21, .int .i8 x22, .int .i8 x23, .int .i8 x24, .int .i8 x25, .int .i8 x26, .int .i8 x27, .int .i8 x28, .int .i8 x29, .int .i8 x30, .int .i8 x31, .int .i8 x32, .int .i8 x33, .int .i8 x34, .int .i8 x35, .int .i8 x36, .int .i8 x37, .int .i8 x38, .int .i8 x39, .int .i8 x40, .int .i8 x41, .int .i8 x42]⟩] : List Value).map (alV Bs) = [.agg ⟨[.int .u8 x0, .int .u8 x1, .int .u8 x2, al1 Bs v]⟩, .agg ⟨[.int .u8 x3, .int .u8 x4, .int .u8 x5, .int .u8 x6]⟩, .agg ⟨[.int .i8 x7, .int .i8 x8, .int .i8 x9, .int .i8 x10, .int .i8 x11, .int .i8 x12, .int .i8 x13, .int .i8 x14, .int .i8 x15, .int .i8 x16, .int .i8 x17, .int .i8 x18, .int .i8 x19, .int .i8 x20, .int .i8 x21, .int .i8 x22, .int .i8 x23, .int .i8 x24, .int .i8 x25, .int .i8 x26, .int .i8 x27, .int .i8 x28, .int .i8 x29, .int .i8 x30, .int .i8 x31, .int .i8 x32, .int .i8 x33, .int .i8 x34, .int .i8 x35, .int .i8 x36, .int .i8 x37, .int .i8 x38, .int .i8 x39, .int .i8 x40, .int .i8 x41, .int .i8 x42]⟩] := by
  simp only [List.map_cons, List.map_nil, alV]
  rfl
set_option maxRecDepth 100000 in
theorem h_run (x0 : Int) (x1 : Int) (x2 : Int) (hx0 : 0 ≤ x0 ∧ x0 < 256) (hx1 : 0 ≤ x1 ∧ x1 < 256) (hx2 : 0 ≤ x2 ∧ x2 < 256) (x3 : Int) (x4 : Int) (x5 : Int) (x6 : Int) (x7 : Int) (x8 : Int) (x9 : Int) (x10 : Int) (x11 : Int) (x12 : Int) (x13 : Int) (x14 : Int) (x15 : Int) (x16 : Int) (x17 : Int) (x18 : Int) (x19 : Int) (x20 : Int) (x21 : Int) (x22 : Int) (x23 : Int) (x24 : Int) (x25 : Int) (x26 : Int) (x27 : Int) (x28 : Int) (x29 : Int) (x30 : Int) (x31 : Int) (x32 : Int) (x33 : Int) (x34 : Int) (x35 : Int) (x36 : Int) (x37 : Int) (x38 : Int) (x39 : Int) (x40 : Int) (x41 : Int) (x42 : Int) (hx3 : 0 ≤ x3 ∧ x3 < 256) (hx4 : 0 ≤ x4 ∧ x4 < 256) (hx5 : 0 ≤ x5 ∧ x5 < 256) (hx6 : 0 ≤ x6 ∧ x6 < 256) (hx7 : -128 ≤ x7 ∧ x7 < 128) (hx8 : -128 ≤ x8 ∧ x8 < 128) (hx9 : -128 ≤ x9 ∧ x9 < 128) (hx10 : -128 ≤ x10 ∧ x10 < 128) (hx11 : -128 ≤ x11 ∧ x11 < 128) (hx12 : -128 ≤ x12 ∧ x12 < 128) (hx13 : -128 ≤ x13 ∧ x13 < 128) (hx14 : -128 ≤ x14 ∧ x14 < 128) (hx15 : -128 ≤ x15 ∧ x15 < 128) (hx16 : -128 ≤ x16 ∧ x16 < 128) (hx17 : -128 ≤ x17 ∧ x17 < 128) (hx18 : -128 ≤ x18 ∧ x18 < 128) (hx19 : -128 ≤ x19 ∧ x19 < 128) (hx20 : -128 ≤ x20 ∧ x20 < 128) (hx21 : -128 ≤ x21 ∧ x21 < 128) (hx22 : -128 ≤ x22 ∧ x22 < 128) (hx23 : -128 ≤ x23 ∧ x23 < 128) (hx24 : -128 ≤ x24 ∧ x24 < 128) (hx25 : -128 ≤ x25 ∧ x25 < 128) (hx26 : -128 ≤ x26 ∧ x26 < 128) (hx27 : -128 ≤ x27 ∧ x27 < 128) (hx28 : -128 ≤ x28 ∧ x28 < 128) (hx29 : -128 ≤ x29 ∧ x29 < 128) (hx30 : -128 ≤ x30 ∧ x30 < 128) (hx31 : -128 ≤ x31 ∧ x31 < 128) (hx32 : -128 ≤ x32 ∧ x32 < 128) (hx33 : -128 ≤ x33 ∧ x33 < 128) (hx34 : -128 ≤ x34 ∧ x34 < 128) (hx35 : -128 ≤ x35 ∧ x35 < 128) (hx36 : -128 ≤ x36 ∧ x36 < 128) (hx37 : -128 ≤ x37 ∧ x37 < 128) (hx38 : -128 ≤ x38 ∧ x38 < 128) (hx39 : -128 ≤ x39 ∧ x39 < 128) (hx40 : -128 ≤ x40 ∧ x40 < 128) (hx41 : -128 ≤ x41 ∧ x41 < 128) (hx42 : -128 ≤ x42 ∧ x42 < 128) (W : World) (v : Value) (l : List Int) (hv : SlW W 1 (Rk .u8) v l) (a : Option Addr) (c : Nat) (hE : EntOK (fun _ => False) (fun _ => True) (stOf W (blkOf v)) (stOf W (blkOf v)) (.ro a l.length 0 1 fun j => [.int .u8 (l.getD j 0)])) (w : Value) (e1 : w = .slice a l.length c) : (cFun Try.prog 400 8).run (callF Try.prog 400 (extB [] 14) (0 + (10 - 1))) [.agg ⟨[.int .u8 x0, .int .u8 x1, .int .u8 x2, w]⟩, .agg ⟨[.int .u8 x3, .int .u8 x4, .int .u8 x5, .int .u8 x6]⟩, .agg ⟨[.int .i8 x7, .int .i8 x8, .int .i8 x9, .int .i8 x10, .int .i8 x11, .int .i8 x12, .int .i8 x13, .int .i8 x14, .int .i8 x15, .int .i8 x16, .int .i8 x17, .int .i8 x18, .int .i8 x19, .int .i8 x20, .int .i8 x21, .int .i8 x22, .int .i8 x23, .int .i8 x24, .int .i8 x25, .int .i8 x26, .int .i8 x27, .int .i8 x28, .int .i8 x29, .int .i8 x30, .int .i8 x31, .int .i8 x32, .int .i8 x33, .int .i8 x34, .int .i8 x35, .int .i8 x36, .int .i8 x37, .int .i8 x38, .int .i8 x39, .int .i8 x40, .int .i8 x41, .int .i8 x42]⟩] (isTrue true) (stOf W (blkOf v)) = true := by
  have hl := blkOf_len v
  have hs : (stOf W (blkOf v)).nx + (700000 + 100) ≤ maxB := by rw [stOf_nx]; exact Nat.le_trans (Nat.add_le_add_right hl _) (Nat.le_of_ble_eq_true rfl)
  rw [e1]
  exact (l8 400 0 (by omega) x0 x1 x2 hx0 hx1 hx2 a l.length c (fun j => l.getD j 0) (fun j hj => by show l.getD j 0 = 0; rw [List.getD_eq_getElem?_getD, List.getElem?_eq_none hj]; rfl) (fun j => wf_u8 (wf_getD hv rfl j)) x3 x4 x5 x6 x7 x8 x9 x10 x11 x12 x13 x14 x15 x16 x17 x18 x19 x20 x21 x22 x23 x24 x25 x26 x27 x28 x29 x30 x31 x32 x33 x34 x35 x36 x37 x38 x39 x40 x41 x42 hx3 hx4 hx5 hx6 hx7 hx8 hx9 hx10 hx11 hx12 hx13 hx14 hx15 hx16 hx17 hx18 hx19 hx20 hx21 hx22 hx23 hx24 hx25 hx26 hx27 hx28 hx29 hx30 hx31 hx32 hx33 hx34 hx35 hx36 hx37 hx38 hx39 hx40 hx41 hx42).run rfl rfl hs (stOf_fl W (blkOf v)) hE
set_option maxRecDepth 100000 in
theorem returns_law (x0 : Int) (x1 : Int) (x2 : Int) (hx0 : 0 ≤ x0 ∧ x0 < 256) (hx1 : 0 ≤ x1 ∧ x1 < 256) (hx2 : 0 ≤ x2 ∧ x2 < 256) (x3 : Int) (x4 : Int) (x5 : Int) (x6 : Int) (x7 : Int) (x8 : Int) (x9 : Int) (x10 : Int) (x11 : Int) (x12 : Int) (x13 : Int) (x14 : Int) (x15 : Int) (x16 : Int) (x17 : Int) (x18 : Int) (x19 : Int) (x20 : Int) (x21 : Int) (x22 : Int) (x23 : Int) (x24 : Int) (x25 : Int) (x26 : Int) (x27 : Int) (x28 : Int) (x29 : Int) (x30 : Int) (x31 : Int) (x32 : Int) (x33 : Int) (x34 : Int) (x35 : Int) (x36 : Int) (x37 : Int) (x38 : Int) (x39 : Int) (x40 : Int) (x41 : Int) (x42 : Int) (hx3 : 0 ≤ x3 ∧ x3 < 256) (hx4 : 0 ≤ x4 ∧ x4 < 256) (hx5 : 0 ≤ x5 ∧ x5 < 256) (hx6 : 0 ≤ x6 ∧ x6 < 256) (hx7 : -128 ≤ x7 ∧ x7 < 128) (hx8 : -128 ≤ x8 ∧ x8 < 128) (hx9 : -128 ≤ x9 ∧ x9 < 128) (hx10 : -128 ≤ x10 ∧ x10 < 128) (hx11 : -128 ≤ x11 ∧ x11 < 128) (hx12 : -128 ≤ x12 ∧ x12 < 128) (hx13 : -128 ≤ x13 ∧ x13 < 128) (hx14 : -128 ≤ x14 ∧ x14 < 128) (hx15 : -128 ≤ x15 ∧ x15 < 128) (hx16 : -128 ≤ x16 ∧ x16 < 128) (hx17 : -128 ≤ x17 ∧ x17 < 128) (hx18 : -128 ≤ x18 ∧ x18 < 128) (hx19 : -128 ≤ x19 ∧ x19 < 128) (hx20 : -128 ≤ x20 ∧ x20 < 128) (hx21 : -128 ≤ x21 ∧ x21 < 128) (hx22 : -128 ≤ x22 ∧ x22 < 128) (hx23 : -128 ≤ x23 ∧ x23 < 128) (hx24 : -128 ≤ x24 ∧ x24 < 128) (hx25 : -128 ≤ x25 ∧ x25 < 128) (hx26 : -128 ≤ x26 ∧ x26 < 128) (hx27 : -128 ≤ x27 ∧ x27 < 128) (hx28 : -128 ≤ x28 ∧ x28 < 128) (hx29 : -128 ≤ x29 ∧ x29 < 128) (hx30 : -128 ≤ x30 ∧ x30 < 128) (hx31 : -128 ≤ x31 ∧ x31 < 128) (hx32 : -128 ≤ x32 ∧ x32 < 128) (hx33 : -128 ≤ x33 ∧ x33 < 128) (hx34 : -128 ≤ x34 ∧ x34 < 128) (hx35 : -128 ≤ x35 ∧ x35 < 128) (hx36 : -128 ≤ x36 ∧ x36 < 128) (hx37 : -128 ≤ x37 ∧ x37 < 128) (hx38 : -128 ≤ x38 ∧ x38 < 128) (hx39 : -128 ≤ x39 ∧ x39 < 128) (hx40 : -128 ≤ x40 ∧ x40 < 128) (hx41 : -128 ≤ x41 ∧ x41 < 128) (hx42 : -128 ≤ x42 ∧ x42 < 128) (W : World) (v : Value) (l : List Int) (hv : SlW W 1 (Rk .u8) v l) : Calls Try.prog 8 ⟨[.agg ⟨[.int .u8 x0, .int .u8 x1, .int .u8 x2, v]⟩, .agg ⟨[.int .u8 x3, .int .u8 x4, .int .u8 x5, .int .u8 x6]⟩, .agg ⟨[.int .i8 x7, .int .i8 x8, .int .i8 x9, .int .i8 x10, .int .i8 x11, .int .i8 x12, .int .i8 x13, .int .i8 x14, .int .i8 x15, .int .i8 x16, .int .i8 x17, .int .i8 x18, .int .i8 x19, .int .i8 x20, .int .i8 x21, .int .i8 x22, .int .i8 x23, .int .i8 x24, .int .i8 x25, .int .i8 x26, .int .i8 x27, .int .i8 x28, .int .i8 x29, .int .i8 x30, .int .i8 x31, .int .i8 x32, .int .i8 x33, .int .i8 x34, .int .i8 x35, .int .i8 x36, .int .i8 x37, .int .i8 x38, .int .i8 x39, .int .i8 x40, .int .i8 x41, .int .i8 x42]⟩]⟩ W fun e W' => e = .returned (.bool true) ∧ Below W.heap.size W W' := by
  have hl := blkOf_len v
  obtain ⟨a, c, e1, hE⟩ := named_ro (Bs := blkOf v) (Nat.le_trans hl (Nat.le_of_ble_eq_true rfl)) hv (fun B h => h) 0
  exact h_calls W (blkOf v) (nodup1 hl) hl _ _ (h_args x0 x1 x2 x3 x4 x5 x6 x7 x8 x9 x10 x11 x12 x13 x14 x15 x16 x17 x18 x19 x20 x21 x22 x23 x24 x25 x26 x27 x28 x29 x30 x31 x32 x33 x34 x35 x36 x37 x38 x39 x40 x41 x42 (blkOf v) v) (h_run x0 x1 x2 hx0 hx1 hx2 x3 x4 x5 x6 x7 x8 x9 x10 x11 x12 x13 x14 x15 x16 x17 x18 x19 x20 x21 x22 x23 x24 x25 x26 x27 x28 x29 x30 x31 x32 x33 x34 x35 x36 x37 x38 x39 x40 x41 x42 hx3 hx4 hx5 hx6 hx7 hx8 hx9 hx10 hx11 hx12 hx13 hx14 hx15 hx16 hx17 hx18 hx19 hx20 hx21 hx22 hx23 hx24 hx25 hx26 hx27 hx28 hx29 hx30 hx31 hx32 hx33 hx34 hx35 hx36 hx37 hx38 hx39 hx40 hx41 hx42 W v l hv a c hE _ e1)

set_option maxRecDepth 100000 in
theorem lifted (os : Os) (started : os.Started) (H : Type) (enc : TypeId × Value → H) :
    ReturnsInHanded {} Try.checked os 8 .any (Rows.oreCertainSpec.pre6 enc Try.prog Try.f8 Rows.oreCertainRow.domain false) (Rows.oreCertainSpec.post enc Try.prog Try.f8 false true false false) := by
  refine returnsInHanded_of_change (C := Try.checked) own started (by kernel_rfl) Try.func8
    (ChangeSpec.witness6 (enc := enc) (C := Try.checked) false ⟨#[], #[.agg #[.int .u8 0, .int .u8 0, .int .u8 0, .slice none 0 0], .agg #[.int .u8 0, .int .u8 0, .int .u8 0, .int .u8 0], .agg #[.int .i8 0, .int .i8 0, .int .i8 0, .int .i8 0, .int .i8 0, .int .i8 0, .int .i8 0, .int .i8 0, .int .i8 0, .int .i8 0, .int .i8 0, .int .i8 0, .int .i8 0, .int .i8 0, .int .i8 0, .int .i8 0, .int .i8 0, .int .i8 0, .int .i8 0, .int .i8 0, .int .i8 0, .int .i8 0, .int .i8 0, .int .i8 0, .int .i8 0, .int .i8 0, .int .i8 0, .int .i8 0, .int .i8 0, .int .i8 0, .int .i8 0, .int .i8 0, .int .i8 0, .int .i8 0, .int .i8 0, .int .i8 0]], []⟩ 8 (by kernel_rfl) (by kernel_rfl) (by kernel_rfl) (by kernel_rfl)) ?_
  intro W base args ds gs before hval0 hW hcnd _
  have hval : ∀ (j : Nat) t v, Try.f8.params[j]? = some t → args[j]? = some v → Value.okWide Try.prog W .any base t v := hval0
  have hW' := hW
  obtain ⟨p, q, hA0, hV, rfl, hfz, hnd⟩ := hW
  have hA : DataW.TrodAll enc Try.prog W 0 (fun _ => true) true Try.f8.params.toList args.toList ds p := hA0
  rw [Try.params8] at hA hval
  have hA1 := hA
  obtain ⟨v0, v1, v2, d0, d1, d2, p0, p1, p2, rfl, rfl, rfl, t0, t1, t2⟩ := trodAll_three hA
  obtain ⟨rfl, rfl⟩ := trodVars_none hV
  clear hA0 hval0
  simp only [List.append_nil] at hW'
  obtain ⟨⟨c0⟩, rfl, z0⟩ := okWide_struct Try.underlying59 (hval 0 59 v0 rfl rfl)
  obtain ⟨u0, t0⟩ := t0
  have t0 : DataW.trod enc Try.prog W 0 (fun _ => true) true u0 59 c0 = some (d0, p0) := t0
  have z4 : Try.prog.cellsOf 59 = 4 := by kernel_rfl
  have z0 : c0.length = 4 := by rw [← z4]; exact z0
  obtain ⟨y0, y1, y2, v, r0, r1, r2, r3, g0, rfl, q0, q1, q2, q3⟩ := four_of Try.underlying59 z4 rfl rfl rfl rfl (by kernel_rfl) (by kernel_rfl) (by kernel_rfl) (by kernel_rfl) z0 t0
  obtain ⟨x0, ex0, _, wx0⟩ := DataW.trod_int Try.underlying5 q0
  injection ex0 with ex0 _; subst ex0
  obtain ⟨x1, ex1, _, wx1⟩ := DataW.trod_int Try.underlying5 q1
  injection ex1 with ex1 _; subst ex1
  obtain ⟨x2, ex2, _, wx2⟩ := DataW.trod_int Try.underlying5 q2
  injection ex2 with ex2 _; subst ex2
  obtain ⟨v', l, hvv, hv⟩ := nums_of (k := .u8) Try.underlying57 Try.underlying5 (by kernel_rfl) q3
  injection hvv with hvv _; subst hvv
  obtain ⟨cs1, rfl, k1⟩ := agg_of (d := 30) (l := [.i .u8, .i .u8, .i .u8, .i .u8]) (by kernel_rfl) (by kernel_rfl) (by kernel_rfl) (hval 1 60 v1 rfl rfl) t1
  obtain ⟨_, _, rfl, ⟨x3, rfl, wx3⟩, e1⟩ := k1
  obtain ⟨_, _, rfl, ⟨x4, rfl, wx4⟩, e1⟩ := e1
  obtain ⟨_, _, rfl, ⟨x5, rfl, wx5⟩, e1⟩ := e1
  obtain ⟨_, _, rfl, ⟨x6, rfl, wx6⟩, e1⟩ := e1
  have e1 : _ = [] := e1
  subst e1
  obtain ⟨cs2, rfl, k2⟩ := agg_of (d := 30) (l := [.i .i8, .i .i8, .i .i8, .i .i8, .i .i8, .i .i8, .i .i8, .i .i8, .i .i8, .i .i8, .i .i8, .i .i8, .i .i8, .i .i8, .i .i8, .i .i8, .i .i8, .i .i8, .i .i8, .i .i8, .i .i8, .i .i8, .i .i8, .i .i8, .i .i8, .i .i8, .i .i8, .i .i8, .i .i8, .i .i8, .i .i8, .i .i8, .i .i8, .i .i8, .i .i8, .i .i8]) (by kernel_rfl) (by kernel_rfl) (by kernel_rfl) (hval 2 67 v2 rfl rfl) t2
  obtain ⟨_, _, rfl, ⟨x7, rfl, wx7⟩, e2⟩ := k2
  obtain ⟨_, _, rfl, ⟨x8, rfl, wx8⟩, e2⟩ := e2
  obtain ⟨_, _, rfl, ⟨x9, rfl, wx9⟩, e2⟩ := e2
  obtain ⟨_, _, rfl, ⟨x10, rfl, wx10⟩, e2⟩ := e2
  obtain ⟨_, _, rfl, ⟨x11, rfl, wx11⟩, e2⟩ := e2
  obtain ⟨_, _, rfl, ⟨x12, rfl, wx12⟩, e2⟩ := e2
  obtain ⟨_, _, rfl, ⟨x13, rfl, wx13⟩, e2⟩ := e2
  obtain ⟨_, _, rfl, ⟨x14, rfl, wx14⟩, e2⟩ := e2
  obtain ⟨_, _, rfl, ⟨x15, rfl, wx15⟩, e2⟩ := e2
  obtain ⟨_, _, rfl, ⟨x16, rfl, wx16⟩, e2⟩ := e2
  obtain ⟨_, _, rfl, ⟨x17, rfl, wx17⟩, e2⟩ := e2
  obtain ⟨_, _, rfl, ⟨x18, rfl, wx18⟩, e2⟩ := e2
  obtain ⟨_, _, rfl, ⟨x19, rfl, wx19⟩, e2⟩ := e2
  obtain ⟨_, _, rfl, ⟨x20, rfl, wx20⟩, e2⟩ := e2
  obtain ⟨_, _, rfl, ⟨x21, rfl, wx21⟩, e2⟩ := e2
  obtain ⟨_, _, rfl, ⟨x22, rfl, wx22⟩, e2⟩ := e2
  obtain ⟨_, _, rfl, ⟨x23, rfl, wx23⟩, e2⟩ := e2
  obtain ⟨_, _, rfl, ⟨x24, rfl, wx24⟩, e2⟩ := e2
  obtain ⟨_, _, rfl, ⟨x25, rfl, wx25⟩, e2⟩ := e2
  obtain ⟨_, _, rfl, ⟨x26, rfl, wx26⟩, e2⟩ := e2
  obtain ⟨_, _, rfl, ⟨x27, rfl, wx27⟩, e2⟩ := e2
  obtain ⟨_, _, rfl, ⟨x28, rfl, wx28⟩, e2⟩ := e2
  obtain ⟨_, _, rfl, ⟨x29, rfl, wx29⟩, e2⟩ := e2
  obtain ⟨_, _, rfl, ⟨x30, rfl, wx30⟩, e2⟩ := e2
  obtain ⟨_, _, rfl, ⟨x31, rfl, wx31⟩, e2⟩ := e2
  obtain ⟨_, _, rfl, ⟨x32, rfl, wx32⟩, e2⟩ := e2
  obtain ⟨_, _, rfl, ⟨x33, rfl, wx33⟩, e2⟩ := e2
  obtain ⟨_, _, rfl, ⟨x34, rfl, wx34⟩, e2⟩ := e2
  obtain ⟨_, _, rfl, ⟨x35, rfl, wx35⟩, e2⟩ := e2
  obtain ⟨_, _, rfl, ⟨x36, rfl, wx36⟩, e2⟩ := e2
  obtain ⟨_, _, rfl, ⟨x37, rfl, wx37⟩, e2⟩ := e2
  obtain ⟨_, _, rfl, ⟨x38, rfl, wx38⟩, e2⟩ := e2
  obtain ⟨_, _, rfl, ⟨x39, rfl, wx39⟩, e2⟩ := e2
  obtain ⟨_, _, rfl, ⟨x40, rfl, wx40⟩, e2⟩ := e2
  obtain ⟨_, _, rfl, ⟨x41, rfl, wx41⟩, e2⟩ := e2
  obtain ⟨_, _, rfl, ⟨x42, rfl, wx42⟩, e2⟩ := e2
  have e2 : _ = [] := e2
  subst e2
  refine (returns_law x0 x1 x2 (wf_u8 wx0) (wf_u8 wx1) (wf_u8 wx2) x3 x4 x5 x6 x7 x8 x9 x10 x11 x12 x13 x14 x15 x16 x17 x18 x19 x20 x21 x22 x23 x24 x25 x26 x27 x28 x29 x30 x31 x32 x33 x34 x35 x36 x37 x38 x39 x40 x41 x42 (wf_u8 wx3) (wf_u8 wx4) (wf_u8 wx5) (wf_u8 wx6) (wf_i8 wx7) (wf_i8 wx8) (wf_i8 wx9) (wf_i8 wx10) (wf_i8 wx11) (wf_i8 wx12) (wf_i8 wx13) (wf_i8 wx14) (wf_i8 wx15) (wf_i8 wx16) (wf_i8 wx17) (wf_i8 wx18) (wf_i8 wx19) (wf_i8 wx20) (wf_i8 wx21) (wf_i8 wx22) (wf_i8 wx23) (wf_i8 wx24) (wf_i8 wx25) (wf_i8 wx26) (wf_i8 wx27) (wf_i8 wx28) (wf_i8 wx29) (wf_i8 wx30) (wf_i8 wx31) (wf_i8 wx32) (wf_i8 wx33) (wf_i8 wx34) (wf_i8 wx35) (wf_i8 wx36) (wf_i8 wx37) (wf_i8 wx38) (wf_i8 wx39) (wf_i8 wx40) (wf_i8 wx41) (wf_i8 wx42) W v l hv).mono fun e' W' ⟨he, hg⟩ => ?_
  subst he
  have hback := trodAll_below (by kernel_rfl) hg (by kernel_rfl) hA1 (fun x hx => hW'.lt x hx)
  exact ⟨_, rfl, [d0, d1, d2], [], _, [], _, [], hW', (trodAll_cons_mk (shut_bool Try.underlying4 _) trodAll_mk0), hback, rfl, hg.frame _, fun h => by cases h⟩

theorem over : Rows.oreCertainRow.holds Try.pinned (OpenSpec.ofChange Rows.oreCertainSpec) :=
  OpenClaim.holds_of_wide 8 Try.f8 rfl rfl rfl rfl rfl rfl rfl ⟨rfl, rfl, rfl, rfl, rfl⟩ rfl rfl rfl rfl rfl (by kernel_rfl) Try.func8 (by kernel_rfl)
    (of_decide_eq_true (by kernel_rfl)) (by unfold Func.isWrapper; first | (rw [if_pos (by decide +kernel)]; kernel_rfl) | (rw [if_neg (by decide +kernel)]; exact ⟨rfl, rfl⟩))
    (fun os started H enc _ => lifted os started H enc)

/-- THE STATEMENT -/
theorem proved : Rows.OreCertainSaid :=
  over
#print axioms proved
end Go.Proofs.Ytbpdmbgkoijfbaa.oreCertain
