/- MagnetRests returns true for all arguments, whatever the memory and the order in which operands come: an open run; works is answered by what is known of it. No condition. -/
import Derived.Test.YtlgglfmbcbfdmaaRows
import Derived.WalkKit
import Derived.ProofKit
import Derived.OpenShut
import Derived.Test.YtlgglfmbcbfdmaaEngSx
import Derived.Test.YtlgglfmbcbfdmaaMgC
import Derived.Test.YtlgglfmbcbfdmaaRunB
namespace Go.Proofs.Ytlgglfmbcbfdmaa.magnetRests
open Go.ChangeShapes Go.WideShapes Go.ChangeAt Go.RowKit Go.Ab

set_option maxHeartbeats 8000000
theorem own : ownKnob Try.prog.godebug = none := by kernel_rfl
attribute [local irreducible] callF cFun
theorem h_ext : ∀ call, CallOK Try.prog call → CallOK Try.prog (extB [] 13 call) := fun call h => extB_ok name_ok Try.func13 (by kernel_rfl) returns_works call h
theorem h_run (x0 : Int) (x1 : Int) (x2 : Int) (x3 : Int) (x4 : Int) (x5 : Int) (x6 : Int) (x7 : Int)  (W : World) : (cFun Try.prog 400 3).run (callF Try.prog 400 (extB [] 13) 5) [.agg ⟨[.int .i64 x0, .int .i64 x1, .int .i64 x2, .int .i64 x3]⟩, .agg ⟨[.int .i64 x4, .int .i64 x5]⟩, .agg ⟨[.int .i64 x6, .int .i64 x7]⟩] (isTrue true) (stOf W []) = true := by
  have hs : (stOf W []).nx + 2000 ≤ maxB := by rw [stOf_nx]; exact Nat.le_of_ble_eq_true rfl
  have h := (l3 400 0 (by omega) x0 x1 x2 x3 x4 x5 x6 x7 ).run rfl rfl hs (stOf_fl W [])
  have e : dens [kt x0 x1 x2 x3, pt x4 x5, pt x6 x7] = [.agg ⟨[.int .i64 x0, .int .i64 x1, .int .i64 x2, .int .i64 x3]⟩, .agg ⟨[.int .i64 x4, .int .i64 x5]⟩, .agg ⟨[.int .i64 x6, .int .i64 x7]⟩] := rfl
  rw [e] at h
  exact h
theorem h_args (x0 : Int) (x1 : Int) (x2 : Int) (x3 : Int) (x4 : Int) (x5 : Int) (x6 : Int) (x7 : Int) : ([.agg ⟨[.int .i64 x0, .int .i64 x1, .int .i64 x2, .int .i64 x3]⟩, .agg ⟨[.int .i64 x4, .int .i64 x5]⟩, .agg ⟨[.int .i64 x6, .int .i64 x7]⟩] : List Value).map (alV []) = [.agg ⟨[.int .i64 x0, .int .i64 x1, .int .i64 x2, .int .i64 x3]⟩, .agg ⟨[.int .i64 x4, .int .i64 x5]⟩, .agg ⟨[.int .i64 x6, .int .i64 x7]⟩] := rfl
theorem h_run2 (x0 : Int) (x1 : Int) (x2 : Int) (x3 : Int) (x4 : Int) (x5 : Int) (x6 : Int) (x7 : Int)  (W : World) (l : List Value) (hl : l = [.agg ⟨[.int .i64 x0, .int .i64 x1, .int .i64 x2, .int .i64 x3]⟩, .agg ⟨[.int .i64 x4, .int .i64 x5]⟩, .agg ⟨[.int .i64 x6, .int .i64 x7]⟩]) : (cFun Try.prog 400 3).run (callF Try.prog 400 (extB [] 13) 5) l (isTrue true) (stOf W []) = true := by
  subst hl
  exact h_run x0 x1 x2 x3 x4 x5 x6 x7  W
set_option maxRecDepth 100000 in
theorem returns_law (x0 : Int) (x1 : Int) (x2 : Int) (x3 : Int) (x4 : Int) (x5 : Int) (x6 : Int) (x7 : Int)  (W : World) : Calls Try.prog 3 ⟨[.agg ⟨[.int .i64 x0, .int .i64 x1, .int .i64 x2, .int .i64 x3]⟩, .agg ⟨[.int .i64 x4, .int .i64 x5]⟩, .agg ⟨[.int .i64 x6, .int .i64 x7]⟩]⟩ W fun e W' => e = .returned (.bool true) ∧ Below W.heap.size W W' := by
  have h := h_run2 x0 x1 x2 x3 x4 x5 x6 x7  W _ (h_args x0 x1 x2 x3 x4 x5 x6 x7)
  have h2 := @calls_open Try.prog draws name_ok 400 5 (extB [] 13) h_ext 3 [.agg ⟨[.int .i64 x0, .int .i64 x1, .int .i64 x2, .int .i64 x3]⟩, .agg ⟨[.int .i64 x4, .int .i64 x5]⟩, .agg ⟨[.int .i64 x6, .int .i64 x7]⟩] W []
  have h3 := h2 List.nodup_nil
  have h4 := h3 (Nat.zero_le _)
  have h5 := h4 h
  exact h5

set_option maxRecDepth 100000 in
theorem lifted (os : Os) (started : os.Started) (H : Type) (enc : TypeId × Value → H) :
    ReturnsInHanded {} Try.checked os 3 .any (Rows.magnetRestsSpec.pre6 enc Try.prog Try.f3 Rows.magnetRestsRow.domain false) (Rows.magnetRestsSpec.post enc Try.prog Try.f3 false true false false) := by
  refine returnsInHanded_of_change (C := Try.checked) own started (by kernel_rfl) Try.func3
    (ChangeSpec.witness6 (enc := enc) (C := Try.checked) false ⟨#[], #[.agg #[.int .i64 0, .int .i64 0, .int .i64 0, .int .i64 0], .agg #[.int .i64 0, .int .i64 0], .agg #[.int .i64 0, .int .i64 0]], []⟩ 8 (by kernel_rfl) (by kernel_rfl) (by kernel_rfl) (by kernel_rfl)) ?_
  intro W base args ds gs before hval0 hW hcnd _
  have hval : ∀ (j : Nat) t v, Try.f3.params[j]? = some t → args[j]? = some v → Value.okWide Try.prog W .any base t v := hval0
  have hW' := hW
  obtain ⟨p, q, hA0, hV, rfl, hfz, hnd⟩ := hW
  have hA : DataW.TrodAll enc Try.prog W 0 (fun _ => true) true Try.f3.params.toList args.toList ds p := hA0
  rw [Try.params3] at hA hval
  have hA1 := hA
  obtain ⟨v0, v1, v2, d0, d1, d2, p0, p1, p2, rfl, rfl, rfl, t0, t1, t2⟩ := trodAll_three hA
  obtain ⟨rfl, rfl⟩ := trodVars_none hV
  clear hA0 hval0
  simp only [List.append_nil] at hW'
  obtain ⟨cs0, rfl, k0⟩ := agg_of (d := 30) (l := [.i .i64, .i .i64, .i .i64, .i .i64]) (by kernel_rfl) (by kernel_rfl) (by kernel_rfl) (hval 0 25 v0 rfl rfl) t0
  obtain ⟨_, _, rfl, ⟨x0, rfl, wx0⟩, e0⟩ := k0
  obtain ⟨_, _, rfl, ⟨x1, rfl, wx1⟩, e0⟩ := e0
  obtain ⟨_, _, rfl, ⟨x2, rfl, wx2⟩, e0⟩ := e0
  obtain ⟨_, _, rfl, ⟨x3, rfl, wx3⟩, e0⟩ := e0
  have e0 : _ = [] := e0
  subst e0
  obtain ⟨cs1, rfl, k1⟩ := agg_of (d := 30) (l := [.i .i64, .i .i64]) (by kernel_rfl) (by kernel_rfl) (by kernel_rfl) (hval 1 23 v1 rfl rfl) t1
  obtain ⟨_, _, rfl, ⟨x4, rfl, wx4⟩, e1⟩ := k1
  obtain ⟨_, _, rfl, ⟨x5, rfl, wx5⟩, e1⟩ := e1
  have e1 : _ = [] := e1
  subst e1
  obtain ⟨cs2, rfl, k2⟩ := agg_of (d := 30) (l := [.i .i64, .i .i64]) (by kernel_rfl) (by kernel_rfl) (by kernel_rfl) (hval 2 27 v2 rfl rfl) t2
  obtain ⟨_, _, rfl, ⟨x6, rfl, wx6⟩, e2⟩ := k2
  obtain ⟨_, _, rfl, ⟨x7, rfl, wx7⟩, e2⟩ := e2
  have e2 : _ = [] := e2
  subst e2
  refine (returns_law x0 x1 x2 x3 x4 x5 x6 x7  W).mono fun e' W' ⟨he, hg⟩ => ?_
  subst he
  have hback := trodAll_below (by kernel_rfl) hg (by kernel_rfl) hA1 (fun x hx => hW'.lt x hx)
  exact ⟨_, rfl, [d0, d1, d2], [], _, [], _, [], hW', (trodAll_cons_mk (shut_bool Try.underlying4 _) trodAll_mk0), hback, rfl, hg.frame _, fun h => by cases h⟩

theorem over : Rows.magnetRestsRow.holds Try.pinned (OpenSpec.ofChange Rows.magnetRestsSpec) :=
  OpenClaim.holds_of_wide 3 Try.f3 rfl rfl rfl rfl rfl rfl rfl ⟨rfl, rfl, rfl, rfl, rfl⟩ rfl rfl rfl rfl rfl (by kernel_rfl) Try.func3 (by kernel_rfl)
    (of_decide_eq_true (by kernel_rfl)) (by unfold Func.isWrapper; first | (rw [if_pos (by decide +kernel)]; kernel_rfl) | (rw [if_neg (by decide +kernel)]; exact ⟨rfl, rfl⟩))
    (fun os started H enc _ => lifted os started H enc)

/-- THE STATEMENT -/
theorem proved : Rows.MagnetRestsSaid :=
  over
#print axioms proved
end Go.Proofs.Ytlgglfmbcbfdmaa.magnetRests
