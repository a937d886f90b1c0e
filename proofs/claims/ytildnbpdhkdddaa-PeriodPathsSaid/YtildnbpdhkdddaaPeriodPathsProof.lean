/- PeriodPaths returns true for all arguments, whatever the memory and the order in which operands come: an open run; works is answered by what is known of it. No condition. -/
import Derived.Test.YtildnbpdhkdddaaRows
import Derived.WalkKit
import Derived.ProofKit
import Derived.OpenShut
import Derived.Test.YtildnbpdhkdddaaEngSx
import Derived.Test.YtildnbpdhkdddaaPp
import Derived.Test.YtildnbpdhkdddaaRunB
namespace Go.Proofs.Ytildnbpdhkdddaa.periodPaths
open Go.ChangeShapes Go.WideShapes Go.ChangeAt Go.RowKit Go.Ab

theorem own : ownKnob Try.prog.godebug = none := by kernel_rfl
attribute [local irreducible] callF cFun
theorem h_ext : ∀ call, CallOK Try.prog call → CallOK Try.prog (extB [] 12 call) := fun call h => extB_ok name_ok Try.func12 (by kernel_rfl) returns_works call h
theorem h_run (x0 : Int) (x1 : Int) (x2 : Int) (x3 : Int) (hx0 : 0 ≤ x0 ∧ x0 < 256) (hx1 : 0 ≤ x1 ∧ x1 < 256) (hx2 : 0 ≤ x2 ∧ x2 < 256) (hx3 : 0 ≤ x3 ∧ x3 < 256) (W : World) : (cFun Try.prog 2000 10).run (CL 2000 (0 + (10 - 1))) [.agg ⟨[.int .u8 x0, .int .u8 x1]⟩, .agg ⟨[.int .u8 x2, .int .u8 x3]⟩] (isTrue true) (stOf W []) = true := by
  have hs : (stOf W []).nx + 216818 ≤ maxB := by rw [stOf_nx]; exact Nat.le_of_ble_eq_true rfl
  exact (law10 2000 0 (by omega) x0 x1 x2 x3 hx0 hx1 hx2 hx3).run rfl rfl hs (stOf_fl W [])
theorem h_args (x0 : Int) (x1 : Int) (x2 : Int) (x3 : Int) : ([.agg ⟨[.int .u8 x0, .int .u8 x1]⟩, .agg ⟨[.int .u8 x2, .int .u8 x3]⟩] : List Value).map (alV []) = [.agg ⟨[.int .u8 x0, .int .u8 x1]⟩, .agg ⟨[.int .u8 x2, .int .u8 x3]⟩] := rfl
theorem h_run2 (x0 : Int) (x1 : Int) (x2 : Int) (x3 : Int) (hx0 : 0 ≤ x0 ∧ x0 < 256) (hx1 : 0 ≤ x1 ∧ x1 < 256) (hx2 : 0 ≤ x2 ∧ x2 < 256) (hx3 : 0 ≤ x3 ∧ x3 < 256) (W : World) (l : List Value) (hl : l = [.agg ⟨[.int .u8 x0, .int .u8 x1]⟩, .agg ⟨[.int .u8 x2, .int .u8 x3]⟩]) : (cFun Try.prog 2000 10).run (callF Try.prog 2000 (extB [] 12) (0 + (10 - 1))) l (isTrue true) (stOf W []) = true := by
  subst hl
  exact h_run x0 x1 x2 x3 hx0 hx1 hx2 hx3 W
set_option maxRecDepth 100000 in
theorem returns_law (x0 : Int) (x1 : Int) (x2 : Int) (x3 : Int) (hx0 : 0 ≤ x0 ∧ x0 < 256) (hx1 : 0 ≤ x1 ∧ x1 < 256) (hx2 : 0 ≤ x2 ∧ x2 < 256) (hx3 : 0 ≤ x3 ∧ x3 < 256) (W : World) : Calls Try.prog 10 ⟨[.agg ⟨[.int .u8 x0, .int .u8 x1]⟩, .agg ⟨[.int .u8 x2, .int .u8 x3]⟩]⟩ W fun e W' => e = .returned (.bool true) ∧ Below W.heap.size W W' := by
  have h := h_run2 x0 x1 x2 x3 hx0 hx1 hx2 hx3 W _ (h_args x0 x1 x2 x3)
  have h2 := @calls_open Try.prog draws name_ok 2000 (0 + (10 - 1)) (extB [] 12) h_ext 10 [.agg ⟨[.int .u8 x0, .int .u8 x1]⟩, .agg ⟨[.int .u8 x2, .int .u8 x3]⟩] W []
  have h3 := h2 List.nodup_nil
  have h4 := h3 (Nat.zero_le _)
  have h5 := h4 h
  exact h5

set_option maxRecDepth 100000 in
theorem lifted (os : Os) (started : os.Started) (H : Type) (enc : TypeId × Value → H) :
    ReturnsInHanded {} Try.checked os 10 .any (Rows.periodPathsSpec.pre6 enc Try.prog Try.f10 Rows.periodPathsRow.domain false) (Rows.periodPathsSpec.post enc Try.prog Try.f10 false true false false) := by
  refine returnsInHanded_of_change (C := Try.checked) own started (by kernel_rfl) Try.func10
    (ChangeSpec.witness6 (enc := enc) (C := Try.checked) false ⟨#[], #[.agg #[.int .u8 0, .int .u8 0], .agg #[.int .u8 0, .int .u8 0]], []⟩ 8 (by kernel_rfl) (by kernel_rfl) (by kernel_rfl) (by kernel_rfl)) ?_
  intro W base args ds gs before hval0 hW hcnd _
  have hval : ∀ (j : Nat) t v, Try.f10.params[j]? = some t → args[j]? = some v → Value.okWide Try.prog W .any base t v := hval0
  have hW' := hW
  obtain ⟨p, q, hA0, hV, rfl, hfz, hnd⟩ := hW
  have hA : DataW.TrodAll enc Try.prog W 0 (fun _ => true) true Try.f10.params.toList args.toList ds p := hA0
  rw [Try.params10] at hA hval
  have hA1 := hA
  obtain ⟨v0, v1, d0, d1, p0, p1, rfl, rfl, rfl, t0, t1⟩ := trodAll_two hA
  obtain ⟨rfl, rfl⟩ := trodVars_none hV
  clear hA0 hval0
  simp only [List.append_nil] at hW'
  obtain ⟨cs0, rfl, k0⟩ := agg_of (d := 30) (l := [.i .u8, .i .u8]) (by kernel_rfl) (by kernel_rfl) (by kernel_rfl) (hval 0 34 v0 rfl rfl) t0
  obtain ⟨_, _, rfl, ⟨x0, rfl, wx0⟩, e0⟩ := k0
  obtain ⟨_, _, rfl, ⟨x1, rfl, wx1⟩, e0⟩ := e0
  have e0 : _ = [] := e0
  subst e0
  obtain ⟨cs1, rfl, k1⟩ := agg_of (d := 30) (l := [.i .u8, .i .u8]) (by kernel_rfl) (by kernel_rfl) (by kernel_rfl) (hval 1 34 v1 rfl rfl) t1
  obtain ⟨_, _, rfl, ⟨x2, rfl, wx2⟩, e1⟩ := k1
  obtain ⟨_, _, rfl, ⟨x3, rfl, wx3⟩, e1⟩ := e1
  have e1 : _ = [] := e1
  subst e1
  refine (returns_law x0 x1 x2 x3 (wf_u8 wx0) (wf_u8 wx1) (wf_u8 wx2) (wf_u8 wx3) W).mono fun e' W' ⟨he, hg⟩ => ?_
  subst he
  have hback := trodAll_below (by kernel_rfl) hg (by kernel_rfl) hA1 (fun x hx => hW'.lt x hx)
  exact ⟨_, rfl, [d0, d1], [], _, [], _, [], hW', (trodAll_cons_mk (shut_bool Try.underlying4 _) trodAll_mk0), hback, rfl, hg.frame _, fun h => by cases h⟩

theorem over : Rows.periodPathsRow.holds Try.pinned (OpenSpec.ofChange Rows.periodPathsSpec) :=
  OpenClaim.holds_of_wide 10 Try.f10 rfl rfl rfl rfl rfl rfl rfl ⟨rfl, rfl, rfl, rfl, rfl⟩ rfl rfl rfl rfl rfl (by kernel_rfl) Try.func10 (by kernel_rfl)
    (of_decide_eq_true (by kernel_rfl)) (by unfold Func.isWrapper; first | (rw [if_pos (by decide +kernel)]; kernel_rfl) | (rw [if_neg (by decide +kernel)]; exact ⟨rfl, rfl⟩))
    (fun os started H enc _ => lifted os started H enc)

/-- THE STATEMENT -/
theorem proved : Rows.PeriodPathsSaid :=
  over
#print axioms proved
end Go.Proofs.Ytildnbpdhkdddaa.periodPaths
