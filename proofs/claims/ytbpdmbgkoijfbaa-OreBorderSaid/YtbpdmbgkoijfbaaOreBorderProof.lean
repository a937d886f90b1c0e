/- OreBorder returns true for all arguments, whatever the memory and the order in which operands come: an open run over what the slice reads as; works is answered by what is known of it. No condition. -/
import Derived.Test.YtbpdmbgkoijfbaaRows
import Derived.WalkKit
import Derived.ProofKit
import Derived.OpenShut
import Derived.Test.YtbpdmbgkoijfbaaEngSx
import Derived.Test.YtbpdmbgkoijfbaaOrV
import Derived.Test.YtbpdmbgkoijfbaaRunB
namespace Go.Proofs.Ytbpdmbgkoijfbaa.oreBorder
open Go.ChangeShapes Go.WideShapes Go.ChangeAt Go.RowKit Go.Ab

theorem own : ownKnob Try.prog.godebug = none := by kernel_rfl
attribute [local irreducible] callF cFun
theorem h_ext : ∀ call, CallOK Try.prog call → CallOK Try.prog (extB [] 14 call) := fun call h => extB_ok name_ok Try.func14 (by kernel_rfl) returns_works call h
theorem h_calls (W : World) (Bs : List Nat) (hB : Bs.Nodup) (hl : Bs.length ≤ 1) (args l : List Value) (hargs : args.map (alV Bs) = l) (h : (cFun Try.prog 400 7).run (callF Try.prog 400 (extB [] 14) (0 + (10 - 1))) l (isTrue true) (stOf W Bs) = true) :
    Calls Try.prog 7 ⟨args⟩ W fun e' W' => e' = .returned (.bool true) ∧ Below W.heap.size W W' := by
  subst hargs
  exact calls_open (F := 400) (D := 0 + (10 - 1)) (ext := extB [] 14) (f := 7) (args := args) (W := W) (Bs := Bs) draws name_ok h_ext hB (Nat.le_trans hl (Nat.le_of_ble_eq_true rfl)) h
theorem nodup1 : ∀ {l : List Nat}, l.length ≤ 1 → l.Nodup
  | [], _ => List.nodup_nil
  | [x], _ => List.nodup_cons.2 ⟨by simp, List.nodup_nil⟩
  | _ :: _ :: _, h => by simp at h
set_option maxRecDepth 100000 in
theorem returns_law (x0 : Int) (x1 : Int) (x2 : Int) (hx0 : 0 ≤ x0 ∧ x0 < 256) (hx1 : 0 ≤ x1 ∧ x1 < 256) (hx2 : 0 ≤ x2 ∧ x2 < 256) (x3 : Int) (x4 : Int) (x5 : Int) (x6 : Int) (hx3 : 0 ≤ x3 ∧ x3 < 256) (hx4 : 0 ≤ x4 ∧ x4 < 256) (hx5 : 0 ≤ x5 ∧ x5 < 256) (hx6 : 0 ≤ x6 ∧ x6 < 256) (W : World) (v : Value) (l : List Int) (hv : SlW W 1 (Rk .u8) v l) : Calls Try.prog 7 ⟨[.agg ⟨[.int .u8 x0, .int .u8 x1, .int .u8 x2, v]⟩, .agg ⟨[.int .u8 x3, .int .u8 x4, .int .u8 x5, .int .u8 x6]⟩]⟩ W fun e W' => e = .returned (.bool true) ∧ Below W.heap.size W W' := by
  have hl := blkOf_len v
  obtain ⟨a, c, e1, hE⟩ := named_ro (Bs := blkOf v) (Nat.le_trans hl (Nat.le_of_ble_eq_true rfl)) hv (fun B h => h) 0
  refine h_calls W (blkOf v) (nodup1 hl) hl [.agg ⟨[.int .u8 x0, .int .u8 x1, .int .u8 x2, v]⟩, .agg ⟨[.int .u8 x3, .int .u8 x4, .int .u8 x5, .int .u8 x6]⟩] [.agg ⟨[.int .u8 x0, .int .u8 x1, .int .u8 x2, .slice a l.length c]⟩, .agg ⟨[.int .u8 x3, .int .u8 x4, .int .u8 x5, .int .u8 x6]⟩] (by rw [← e1, ← alV_slice hv]; simp only [List.map_cons, List.map_nil, alV_slice hv]; rfl) ?_
  have hs : (stOf W (blkOf v)).nx + (2400000 + 100) ≤ maxB := by rw [stOf_nx]; exact Nat.le_trans (Nat.add_le_add_right hl _) (Nat.le_of_ble_eq_true rfl)
  exact (l7 400 0 (by omega) x0 x1 x2 hx0 hx1 hx2 a l.length c (fun j => l.getD j 0) (fun j hj => by show l.getD j 0 = 0; rw [List.getD_eq_getElem?_getD, List.getElem?_eq_none hj]; rfl) (fun j => wf_u8 (wf_getD hv rfl j)) x3 x4 x5 x6 hx3 hx4 hx5 hx6).run rfl rfl hs (stOf_fl W (blkOf v)) hE

set_option maxRecDepth 100000 in
theorem lifted (os : Os) (started : os.Started) (H : Type) (enc : TypeId × Value → H) :
    ReturnsInHanded {} Try.checked os 7 .any (Rows.oreBorderSpec.pre6 enc Try.prog Try.f7 Rows.oreBorderRow.domain false) (Rows.oreBorderSpec.post enc Try.prog Try.f7 false true false false) := by
  refine returnsInHanded_of_change (C := Try.checked) own started (by kernel_rfl) Try.func7
    (ChangeSpec.witness6 (enc := enc) (C := Try.checked) false ⟨#[], #[.agg #[.int .u8 0, .int .u8 0, .int .u8 0, .slice none 0 0], .agg #[.int .u8 0, .int .u8 0, .int .u8 0, .int .u8 0]], []⟩ 8 (by kernel_rfl) (by kernel_rfl) (by kernel_rfl) (by kernel_rfl)) ?_
  intro W base args ds gs before hval0 hW hcnd _
  have hval : ∀ (j : Nat) t v, Try.f7.params[j]? = some t → args[j]? = some v → Value.okWide Try.prog W .any base t v := hval0
  have hW' := hW
  obtain ⟨p, q, hA0, hV, rfl, hfz, hnd⟩ := hW
  have hA : DataW.TrodAll enc Try.prog W 0 (fun _ => true) true Try.f7.params.toList args.toList ds p := hA0
  rw [Try.params7] at hA hval
  have hA1 := hA
  obtain ⟨v0, v1, d0, d1, p0, p1, rfl, rfl, rfl, t0, t1⟩ := trodAll_two hA
  obtain ⟨rfl, rfl⟩ := trodVars_none hV
  clear hA0 hval0
  simp only [List.append_nil] at hW'
  obtain ⟨⟨c0⟩, rfl, z0⟩ := okWide_struct Try.underlying59 (hval 0 59 v0 rfl rfl)
  obtain ⟨u0, t0⟩ := t0
  have t0 : DataW.trod enc Try.prog W 0 (fun _ => true) true u0 59 c0 = some (d0, p0) := t0
  have z4 : Try.prog.cellsOf 59 = 4 := by kernel_rfl
  have z0 : c0.length = 4 := by rw [← z4]; exact z0
  obtain ⟨y0, y1, y2, v, r0, r1, r2, r3, g0, rfl, q0, q1, q2, q3⟩ := four_of Try.underlying59 z4 rfl rfl rfl rfl (by kernel_rfl) (by kernel_rfl) (by kernel_rfl) (by kernel_rfl) z0 t0
  obtain ⟨x0, ex0, _, wx0⟩ := DataW.trod_int Try.underlying5 q0
  injection ex0 with ex0 _; subst ex0
  obtain ⟨x1, ex1, _, wx1⟩ := DataW.trod_int Try.underlying5 q1
  injection ex1 with ex1 _; subst ex1
  obtain ⟨x2, ex2, _, wx2⟩ := DataW.trod_int Try.underlying5 q2
  injection ex2 with ex2 _; subst ex2
  obtain ⟨v', l, hvv, hv⟩ := nums_of (k := .u8) Try.underlying57 Try.underlying5 (by kernel_rfl) q3
  injection hvv with hvv _; subst hvv
  obtain ⟨cs1, rfl, k1⟩ := agg_of (d := 30) (l := [.i .u8, .i .u8, .i .u8, .i .u8]) (by kernel_rfl) (by kernel_rfl) (by kernel_rfl) (hval 1 60 v1 rfl rfl) t1
  obtain ⟨_, _, rfl, ⟨x3, rfl, wx3⟩, e1⟩ := k1
  obtain ⟨_, _, rfl, ⟨x4, rfl, wx4⟩, e1⟩ := e1
  obtain ⟨_, _, rfl, ⟨x5, rfl, wx5⟩, e1⟩ := e1
  obtain ⟨_, _, rfl, ⟨x6, rfl, wx6⟩, e1⟩ := e1
  have e1 : _ = [] := e1
  subst e1
  refine (returns_law x0 x1 x2 (wf_u8 wx0) (wf_u8 wx1) (wf_u8 wx2) x3 x4 x5 x6 (wf_u8 wx3) (wf_u8 wx4) (wf_u8 wx5) (wf_u8 wx6) W v l hv).mono fun e' W' ⟨he, hg⟩ => ?_
  subst he
  have hback := trodAll_below (by kernel_rfl) hg (by kernel_rfl) hA1 (fun x hx => hW'.lt x hx)
  exact ⟨_, rfl, [d0, d1], [], _, [], _, [], hW', (trodAll_cons_mk (shut_bool Try.underlying4 _) trodAll_mk0), hback, rfl, hg.frame _, fun h => by cases h⟩

theorem over : Rows.oreBorderRow.holds Try.pinned (OpenSpec.ofChange Rows.oreBorderSpec) :=
  OpenClaim.holds_of_wide 7 Try.f7 rfl rfl rfl rfl rfl rfl rfl ⟨rfl, rfl, rfl, rfl, rfl⟩ rfl rfl rfl rfl rfl (by kernel_rfl) Try.func7 (by kernel_rfl)
    (of_decide_eq_true (by kernel_rfl)) (by unfold Func.isWrapper; first | (rw [if_pos (by decide +kernel)]; kernel_rfl) | (rw [if_neg (by decide +kernel)]; exact ⟨rfl, rfl⟩))
    (fun os started H enc _ => lifted os started H enc)

/-- THE STATEMENT -/
theorem proved : Rows.OreBorderSaid :=
  over
#print axioms proved
end Go.Proofs.Ytbpdmbgkoijfbaa.oreBorder
