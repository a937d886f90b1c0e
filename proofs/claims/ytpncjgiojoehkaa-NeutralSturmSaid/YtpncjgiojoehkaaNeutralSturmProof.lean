/- NeutralSturm returns true for all arguments, whatever the memory and the order in which operands come: an open run; works is answered by what is known of it. No condition. -/
import Derived.Test.YtpncjgiojoehkaaRows
import Derived.WalkKit
import Derived.ProofKit
import Derived.OpenShut
import Derived.Test.YtpncjgiojoehkaaEngSy
import Derived.Test.YtpncjgiojoehkaaNmL
import Derived.Test.YtpncjgiojoehkaaRunB
namespace Go.Proofs.Ytpncjgiojoehkaa.neutralSturm
open Go.ChangeShapes Go.WideShapes Go.ChangeAt Go.RowKit Go.Ab

set_option maxHeartbeats 8000000
theorem own : ownKnob Try.prog.godebug = none := by kernel_rfl
attribute [local irreducible] callF cFun
theorem h_ext : ∀ call, CallOK Try.prog call → CallOK Try.prog (extB [] 12 call) := fun call h => extB_ok name_ok Try.func12 (by kernel_rfl) returns_works call h
theorem h_run (x0 : Int) (x1 : Int) (x2 : Int) (x3 : Int) (x4 : Int) (x5 : Int) (x6 : Int) (x7 : Bool) (x8 : Int) (x9 : Int) (x10 : Int) (x11 : Int) (x12 : Int) (hx0 : -128 ≤ x0 ∧ x0 < 128) (hx1 : -128 ≤ x1 ∧ x1 < 128) (hx2 : -128 ≤ x2 ∧ x2 < 128) (hx3 : -128 ≤ x3 ∧ x3 < 128) (hx4 : -128 ≤ x4 ∧ x4 < 128) (hx5 : -128 ≤ x5 ∧ x5 < 128) (hx6 : 0 ≤ x6 ∧ x6 < 256) (hx8 : -128 ≤ x8 ∧ x8 < 128) (hx9 : -128 ≤ x9 ∧ x9 < 128) (hx10 : -128 ≤ x10 ∧ x10 < 128) (hx11 : -128 ≤ x11 ∧ x11 < 128) (hx12 : -128 ≤ x12 ∧ x12 < 128) (W : World) : (cFun Try.prog 600 6).run (callF Try.prog 600 (extB [] 12) 11) [.agg ⟨[.int .i8 x0, .int .i8 x1, .int .i8 x2, .int .i8 x3, .int .i8 x4, .int .i8 x5, .int .u8 x6, .bool x7, .int .i8 x8]⟩, .agg ⟨[.int .i8 x9, .int .i8 x10]⟩, .agg ⟨[.int .i8 x11, .int .i8 x12]⟩] (isTrue true) (stOf W []) = true := by
  have hs : (stOf W []).nx + (1300000 + 100) ≤ maxB := by rw [stOf_nx]; exact Nat.le_of_ble_eq_true rfl
  have h := run0 (l6_flat 600 0 (by omega) x0 x1 x2 x3 x4 x5 x6 x7 x8 x9 x10 x11 x12 hx0 hx1 hx2 hx3 hx4 hx5 hx6 hx8 hx9 hx10 hx11 hx12) rfl rfl hs (stOf_fl W [])
  have e : dens [.agg [.int .i8 x0, .int .i8 x1, .int .i8 x2, .int .i8 x3, .int .i8 x4, .int .i8 x5, .int .u8 x6, .bool x7, .int .i8 x8], .agg [.int .i8 x9, .int .i8 x10], .agg [.int .i8 x11, .int .i8 x12]] = [.agg ⟨[.int .i8 x0, .int .i8 x1, .int .i8 x2, .int .i8 x3, .int .i8 x4, .int .i8 x5, .int .u8 x6, .bool x7, .int .i8 x8]⟩, .agg ⟨[.int .i8 x9, .int .i8 x10]⟩, .agg ⟨[.int .i8 x11, .int .i8 x12]⟩] := rfl
  rw [e] at h
  exact h
theorem h_args (x0 : Int) (x1 : Int) (x2 : Int) (x3 : Int) (x4 : Int) (x5 : Int) (x6 : Int) (x7 : Bool) (x8 : Int) (x9 : Int) (x10 : Int) (x11 : Int) (x12 : Int) : ([.agg ⟨[.int .i8 x0, .int .i8 x1, .int .i8 x2, .int .i8 x3, .int .i8 x4, .int .i8 x5, .int .u8 x6, .bool x7, .int .i8 x8]⟩, .agg ⟨[.int .i8 x9, .int .i8 x10]⟩, .agg ⟨[.int .i8 x11, .int .i8 x12]⟩] : List Value).map (alV []) = [.agg ⟨[.int .i8 x0, .int .i8 x1, .int .i8 x2, .int .i8 x3, .int .i8 x4, .int .i8 x5, .int .u8 x6, .bool x7, .int .i8 x8]⟩, .agg ⟨[.int .i8 x9, .int .i8 x10]⟩, .agg ⟨[.int .i8 x11, .int .i8 x12]⟩] := rfl
theorem h_run2 (x0 : Int) (x1 : Int) (x2 : Int) (x3 : Int) (x4 : Int) (x5 : Int) (x6 : Int) (x7 : Bool) (x8 : Int) (x9 : Int) (x10 : Int) (x11 : Int) (x12 : Int) (hx0 : -128 ≤ x0 ∧ x0 < 128) (hx1 : -128 ≤ x1 ∧ x1 < 128) (hx2 : -128 ≤ x2 ∧ x2 < 128) (hx3 : -128 ≤ x3 ∧ x3 < 128) (hx4 : -128 ≤ x4 ∧ x4 < 128) (hx5 : -128 ≤ x5 ∧ x5 < 128) (hx6 : 0 ≤ x6 ∧ x6 < 256) (hx8 : -128 ≤ x8 ∧ x8 < 128) (hx9 : -128 ≤ x9 ∧ x9 < 128) (hx10 : -128 ≤ x10 ∧ x10 < 128) (hx11 : -128 ≤ x11 ∧ x11 < 128) (hx12 : -128 ≤ x12 ∧ x12 < 128) (W : World) (l : List Value) (hl : l = [.agg ⟨[.int .i8 x0, .int .i8 x1, .int .i8 x2, .int .i8 x3, .int .i8 x4, .int .i8 x5, .int .u8 x6, .bool x7, .int .i8 x8]⟩, .agg ⟨[.int .i8 x9, .int .i8 x10]⟩, .agg ⟨[.int .i8 x11, .int .i8 x12]⟩]) : (cFun Try.prog 600 6).run (callF Try.prog 600 (extB [] 12) 11) l (isTrue true) (stOf W []) = true := by
  subst hl
  exact h_run x0 x1 x2 x3 x4 x5 x6 x7 x8 x9 x10 x11 x12 hx0 hx1 hx2 hx3 hx4 hx5 hx6 hx8 hx9 hx10 hx11 hx12 W
set_option maxRecDepth 100000 in
theorem returns_law (x0 : Int) (x1 : Int) (x2 : Int) (x3 : Int) (x4 : Int) (x5 : Int) (x6 : Int) (x7 : Bool) (x8 : Int) (x9 : Int) (x10 : Int) (x11 : Int) (x12 : Int) (hx0 : -128 ≤ x0 ∧ x0 < 128) (hx1 : -128 ≤ x1 ∧ x1 < 128) (hx2 : -128 ≤ x2 ∧ x2 < 128) (hx3 : -128 ≤ x3 ∧ x3 < 128) (hx4 : -128 ≤ x4 ∧ x4 < 128) (hx5 : -128 ≤ x5 ∧ x5 < 128) (hx6 : 0 ≤ x6 ∧ x6 < 256) (hx8 : -128 ≤ x8 ∧ x8 < 128) (hx9 : -128 ≤ x9 ∧ x9 < 128) (hx10 : -128 ≤ x10 ∧ x10 < 128) (hx11 : -128 ≤ x11 ∧ x11 < 128) (hx12 : -128 ≤ x12 ∧ x12 < 128) (W : World) : Calls Try.prog 6 ⟨[.agg ⟨[.int .i8 x0, .int .i8 x1, .int .i8 x2, .int .i8 x3, .int .i8 x4, .int .i8 x5, .int .u8 x6, .bool x7, .int .i8 x8]⟩, .agg ⟨[.int .i8 x9, .int .i8 x10]⟩, .agg ⟨[.int .i8 x11, .int .i8 x12]⟩]⟩ W fun e W' => e = .returned (.bool true) ∧ Below W.heap.size W W' := by
  have h := h_run2 x0 x1 x2 x3 x4 x5 x6 x7 x8 x9 x10 x11 x12 hx0 hx1 hx2 hx3 hx4 hx5 hx6 hx8 hx9 hx10 hx11 hx12 W _ (h_args x0 x1 x2 x3 x4 x5 x6 x7 x8 x9 x10 x11 x12)
  have h2 := @calls_open Try.prog draws name_ok 600 11 (extB [] 12) h_ext 6 [.agg ⟨[.int .i8 x0, .int .i8 x1, .int .i8 x2, .int .i8 x3, .int .i8 x4, .int .i8 x5, .int .u8 x6, .bool x7, .int .i8 x8]⟩, .agg ⟨[.int .i8 x9, .int .i8 x10]⟩, .agg ⟨[.int .i8 x11, .int .i8 x12]⟩] W []
  have h3 := h2 List.nodup_nil
  have h4 := h3 (Nat.zero_le _)
  have h5 := h4 h
  exact h5

set_option maxRecDepth 100000 in
theorem lifted (os : Os) (started : os.Started) (H : Type) (enc : TypeId × Value → H) :
    ReturnsInHanded {} Try.checked os 6 .any (Rows.neutralSturmSpec.pre6 enc Try.prog Try.f6 Rows.neutralSturmRow.domain false) (Rows.neutralSturmSpec.post enc Try.prog Try.f6 false true false false) := by
  refine returnsInHanded_of_change (C := Try.checked) own started (by kernel_rfl) Try.func6
    (ChangeSpec.witness6 (enc := enc) (C := Try.checked) false ⟨#[], #[.agg #[.int .i8 0, .int .i8 0, .int .i8 0, .int .i8 0, .int .i8 0, .int .i8 0, .int .u8 0, .bool false, .int .i8 0], .agg #[.int .i8 0, .int .i8 0], .agg #[.int .i8 0, .int .i8 0]], []⟩ 8 (by kernel_rfl) (by kernel_rfl) (by kernel_rfl) (by kernel_rfl)) ?_
  intro W base args ds gs before hval0 hW hcnd _
  have hval : ∀ (j : Nat) t v, Try.f6.params[j]? = some t → args[j]? = some v → Value.okWide Try.prog W .any base t v := hval0
  have hW' := hW
  obtain ⟨p, q, hA0, hV, rfl, hfz, hnd⟩ := hW
  have hA : DataW.TrodAll enc Try.prog W 0 (fun _ => true) true Try.f6.params.toList args.toList ds p := hA0
  rw [Try.params6] at hA hval
  have hA1 := hA
  obtain ⟨v0, v1, v2, d0, d1, d2, p0, p1, p2, rfl, rfl, rfl, t0, t1, t2⟩ := trodAll_three hA
  obtain ⟨rfl, rfl⟩ := trodVars_none hV
  clear hA0 hval0
  simp only [List.append_nil] at hW'
  obtain ⟨cs0, rfl, k0⟩ := agg_of (d := 30) (l := [.i .i8, .i .i8, .i .i8, .i .i8, .i .i8, .i .i8, .i .u8, .b, .i .i8]) (by kernel_rfl) (by kernel_rfl) (by kernel_rfl) (hval 0 54 v0 rfl rfl) t0
  obtain ⟨_, _, rfl, ⟨x0, rfl, wx0⟩, e0⟩ := k0
  obtain ⟨_, _, rfl, ⟨x1, rfl, wx1⟩, e0⟩ := e0
  obtain ⟨_, _, rfl, ⟨x2, rfl, wx2⟩, e0⟩ := e0
  obtain ⟨_, _, rfl, ⟨x3, rfl, wx3⟩, e0⟩ := e0
  obtain ⟨_, _, rfl, ⟨x4, rfl, wx4⟩, e0⟩ := e0
  obtain ⟨_, _, rfl, ⟨x5, rfl, wx5⟩, e0⟩ := e0
  obtain ⟨_, _, rfl, ⟨x6, rfl, wx6⟩, e0⟩ := e0
  obtain ⟨_, _, rfl, ⟨x7, rfl⟩, e0⟩ := e0
  obtain ⟨_, _, rfl, ⟨x8, rfl, wx8⟩, e0⟩ := e0
  have e0 : _ = [] := e0
  subst e0
  obtain ⟨cs1, rfl, k1⟩ := agg_of (d := 30) (l := [.i .i8, .i .i8]) (by kernel_rfl) (by kernel_rfl) (by kernel_rfl) (hval 1 51 v1 rfl rfl) t1
  obtain ⟨_, _, rfl, ⟨x9, rfl, wx9⟩, e1⟩ := k1
  obtain ⟨_, _, rfl, ⟨x10, rfl, wx10⟩, e1⟩ := e1
  have e1 : _ = [] := e1
  subst e1
  obtain ⟨cs2, rfl, k2⟩ := agg_of (d := 30) (l := [.i .i8, .i .i8]) (by kernel_rfl) (by kernel_rfl) (by kernel_rfl) (hval 2 51 v2 rfl rfl) t2
  obtain ⟨_, _, rfl, ⟨x11, rfl, wx11⟩, e2⟩ := k2
  obtain ⟨_, _, rfl, ⟨x12, rfl, wx12⟩, e2⟩ := e2
  have e2 : _ = [] := e2
  subst e2
  refine (returns_law x0 x1 x2 x3 x4 x5 x6 x7 x8 x9 x10 x11 x12 (wf_i8 wx0) (wf_i8 wx1) (wf_i8 wx2) (wf_i8 wx3) (wf_i8 wx4) (wf_i8 wx5) (wf_u8 wx6) (wf_i8 wx8) (wf_i8 wx9) (wf_i8 wx10) (wf_i8 wx11) (wf_i8 wx12) W).mono fun e' W' ⟨he, hg⟩ => ?_
  subst he
  have hback := trodAll_below (by kernel_rfl) hg (by kernel_rfl) hA1 (fun x hx => hW'.lt x hx)
  exact ⟨_, rfl, [d0, d1, d2], [], _, [], _, [], hW', (trodAll_cons_mk (shut_bool Try.underlying4 _) trodAll_mk0), hback, rfl, hg.frame _, fun h => by cases h⟩

theorem over : Rows.neutralSturmRow.holds Try.pinned (OpenSpec.ofChange Rows.neutralSturmSpec) :=
  OpenClaim.holds_of_wide 6 Try.f6 rfl rfl rfl rfl rfl rfl rfl ⟨rfl, rfl, rfl, rfl, rfl⟩ rfl rfl rfl rfl rfl (by kernel_rfl) Try.func6 (by kernel_rfl)
    (of_decide_eq_true (by kernel_rfl)) (by unfold Func.isWrapper; first | (rw [if_pos (by decide +kernel)]; kernel_rfl) | (rw [if_neg (by decide +kernel)]; exact ⟨rfl, rfl⟩))
    (fun os started H enc _ => lifted os started H enc)

/-- THE STATEMENT -/
theorem proved : Rows.NeutralSturmSaid :=
  over
#print axioms proved
end Go.Proofs.Ytpncjgiojoehkaa.neutralSturm
