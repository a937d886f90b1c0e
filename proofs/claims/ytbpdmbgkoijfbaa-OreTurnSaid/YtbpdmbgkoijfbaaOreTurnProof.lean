/- OreTurn returns true for all arguments, whatever the memory and the order in which operands come: an open run; works is answered by what is known of it. No condition. -/
import Derived.Test.YtbpdmbgkoijfbaaRows
import Derived.WalkKit
import Derived.ProofKit
import Derived.OpenShut
import Derived.Test.YtbpdmbgkoijfbaaEngSx
import Derived.Test.YtbpdmbgkoijfbaaOrTurn
import Derived.Test.YtbpdmbgkoijfbaaRunB
namespace Go.Proofs.Ytbpdmbgkoijfbaa.oreTurn
open Go.ChangeShapes Go.WideShapes Go.ChangeAt Go.RowKit Go.Ab

theorem own : ownKnob Try.prog.godebug = none := by kernel_rfl
attribute [local irreducible] callF cFun
theorem h_ext : ∀ call, CallOK Try.prog call → CallOK Try.prog (extB [] 14 call) := fun call h => extB_ok name_ok Try.func14 (by kernel_rfl) returns_works call h
theorem h_run (x0 : Int) (x1 : Int) (hx0 : 0 ≤ x0 ∧ x0 < 65536) (hx1 : 0 ≤ x1 ∧ x1 < 65536) (W : World) : (cFun Try.prog 400 12).run (CL 400 (0 + (4 - 1))) [.int .u16 x0, .int .u16 x1] (isTrue true) (stOf W []) = true := by
  have hs : (stOf W []).nx + 0 ≤ maxB := by rw [stOf_nx]; exact Nat.le_of_ble_eq_true rfl
  exact (l12 400 0 (by omega) x0 x1 hx0 hx1).run rfl rfl hs (stOf_fl W [])
theorem h_args (x0 : Int) (x1 : Int) : ([.int .u16 x0, .int .u16 x1] : List Value).map (alV []) = [.int .u16 x0, .int .u16 x1] := rfl
theorem h_run2 (x0 : Int) (x1 : Int) (hx0 : 0 ≤ x0 ∧ x0 < 65536) (hx1 : 0 ≤ x1 ∧ x1 < 65536) (W : World) (l : List Value) (hl : l = [.int .u16 x0, .int .u16 x1]) : (cFun Try.prog 400 12).run (callF Try.prog 400 (extB [] 14) (0 + (4 - 1))) l (isTrue true) (stOf W []) = true := by
  subst hl
  exact h_run x0 x1 hx0 hx1 W
set_option maxRecDepth 100000 in
theorem returns_law (x0 : Int) (x1 : Int) (hx0 : 0 ≤ x0 ∧ x0 < 65536) (hx1 : 0 ≤ x1 ∧ x1 < 65536) (W : World) : Calls Try.prog 12 ⟨[.int .u16 x0, .int .u16 x1]⟩ W fun e W' => e = .returned (.bool true) ∧ Below W.heap.size W W' := by
  have h := h_run2 x0 x1 hx0 hx1 W _ (h_args x0 x1)
  have h2 := @calls_open Try.prog draws name_ok 400 (0 + (4 - 1)) (extB [] 14) h_ext 12 [.int .u16 x0, .int .u16 x1] W []
  have h3 := h2 List.nodup_nil
  have h4 := h3 (Nat.zero_le _)
  have h5 := h4 h
  exact h5

set_option maxRecDepth 100000 in
theorem lifted (os : Os) (started : os.Started) (H : Type) (enc : TypeId × Value → H) :
    ReturnsInHanded {} Try.checked os 12 .any (Rows.oreTurnSpec.pre6 enc Try.prog Try.f12 Rows.oreTurnRow.domain false) (Rows.oreTurnSpec.post enc Try.prog Try.f12 false true false false) := by
  refine returnsInHanded_of_change (C := Try.checked) own started (by kernel_rfl) Try.func12
    (ChangeSpec.witness6 (enc := enc) (C := Try.checked) false ⟨#[], #[.int .u16 0, .int .u16 0], []⟩ 8 (by kernel_rfl) (by kernel_rfl) (by kernel_rfl) (by kernel_rfl)) ?_
  intro W base args ds gs before hval0 hW hcnd _
  have hval : ∀ (j : Nat) t v, Try.f12.params[j]? = some t → args[j]? = some v → Value.okWide Try.prog W .any base t v := hval0
  have hW' := hW
  obtain ⟨p, q, hA0, hV, rfl, hfz, hnd⟩ := hW
  have hA : DataW.TrodAll enc Try.prog W 0 (fun _ => true) true Try.f12.params.toList args.toList ds p := hA0
  rw [Try.params12] at hA hval
  have hA1 := hA
  obtain ⟨v0, v1, d0, d1, p0, p1, rfl, rfl, rfl, t0, t1⟩ := trodAll_two hA
  obtain ⟨rfl, rfl⟩ := trodVars_none hV
  clear hA0 hval0
  simp only [List.append_nil] at hW'
  have k0 := one_of (d := 30) (k := .i .u16) (by kernel_rfl) (by kernel_rfl) (hval 0 71 v0 rfl rfl) t0
  obtain ⟨x0, rfl, wx0⟩ := k0
  have k1 := one_of (d := 30) (k := .i .u16) (by kernel_rfl) (by kernel_rfl) (hval 1 71 v1 rfl rfl) t1
  obtain ⟨x1, rfl, wx1⟩ := k1
  refine (returns_law x0 x1 (wf_u16 wx0) (wf_u16 wx1) W).mono fun e' W' ⟨he, hg⟩ => ?_
  subst he
  have hback := trodAll_below (by kernel_rfl) hg (by kernel_rfl) hA1 (fun x hx => hW'.lt x hx)
  exact ⟨_, rfl, [d0, d1], [], _, [], _, [], hW', (trodAll_cons_mk (shut_bool Try.underlying4 _) trodAll_mk0), hback, rfl, hg.frame _, fun h => by cases h⟩

theorem over : Rows.oreTurnRow.holds Try.pinned (OpenSpec.ofChange Rows.oreTurnSpec) :=
  OpenClaim.holds_of_wide 12 Try.f12 rfl rfl rfl rfl rfl rfl rfl ⟨rfl, rfl, rfl, rfl, rfl⟩ rfl rfl rfl rfl rfl (by kernel_rfl) Try.func12 (by kernel_rfl)
    (of_decide_eq_true (by kernel_rfl)) (by unfold Func.isWrapper; first | (rw [if_pos (by decide +kernel)]; kernel_rfl) | (rw [if_neg (by decide +kernel)]; exact ⟨rfl, rfl⟩))
    (fun os started H enc _ => lifted os started H enc)

/-- THE STATEMENT -/
theorem proved : Rows.OreTurnSaid :=
  over
#print axioms proved
end Go.Proofs.Ytbpdmbgkoijfbaa.oreTurn
