/- SwingClear returns true for all arguments, whatever the memory and the order in which operands come: an open run; rows by numbers, works and two functions of the library are answered by what is known of them. No condition. -/
import Derived.Test.YtfcgfnlifdjfjaaRows
import Derived.WalkKit
import Derived.ProofKit
import Derived.OpenShut
import Derived.Test.YtfcgfnlifdjfjaaSwZ
namespace Go.Proofs.Ytfcgfnlifdjfjaa.swingClear
open Go.ChangeShapes Go.WideShapes Go.ChangeAt Go.RowKit Go.Ab
set_option maxHeartbeats 8000000
set_option linter.unusedVariables false
theorem own : ownKnob Try.prog.godebug = none := by kernel_rfl
set_option maxRecDepth 100000 in
theorem lifted (os : Os) (started : os.Started) (H : Type) (enc : TypeId × Value → H) :
    ReturnsInHanded {} Try.checked os 8 .any (Rows.swingClearSpec.pre6 enc Try.prog Try.f8 Rows.swingClearRow.domain false) (Rows.swingClearSpec.post enc Try.prog Try.f8 false true false false) := by
  refine returnsInHanded_of_change (C := Try.checked) own started (by kernel_rfl) Try.func8
    (ChangeSpec.witness6 (enc := enc) (C := Try.checked) false ⟨#[], #[.agg #[.int .u64 0, .int .u8 0], .int .u8 0], []⟩ 8 (by kernel_rfl) (by kernel_rfl) (by kernel_rfl) (by kernel_rfl)) ?_
  intro W base args ds gs before hval0 hW hcnd _
  have hval : ∀ (j : Nat) t v, Try.f8.params[j]? = some t → args[j]? = some v → Value.okWide Try.prog W .any base t v := hval0
  have hW' := hW
  obtain ⟨p, q, hA0, hV, rfl, hfz, hnd⟩ := hW
  have hA : DataW.TrodAll enc Try.prog W 0 (fun _ => true) true Try.f8.params.toList args.toList ds p := hA0
  rw [Try.params8] at hA hval
  have hA1 := hA
  obtain ⟨w0, w1, d0, d1, p0, p1, rfl, rfl, rfl, r0, r1⟩ := trodAll_two hA
  obtain ⟨rfl, rfl⟩ := trodVars_none hV
  clear hA0 hval0
  simp only [List.append_nil] at hW'
  obtain ⟨cs0, rfl, k0⟩ := agg_of (d := 30) (l := [.i .u64, .i .u8]) (by kernel_rfl) (by kernel_rfl) (by kernel_rfl) (hval 0 46 w0 rfl rfl) r0
  obtain ⟨_, _, rfl, ky0_0, ke0_0⟩ := k0
  obtain ⟨_, _, rfl, ky0_1, ke0_1⟩ := ke0_0
  have ke0 : _ = [] := ke0_1
  subst ke0
  obtain ⟨y0_0, rfl, _⟩ := ky0_0
  obtain ⟨y0_1, rfl, hy0_1⟩ := u8_nat ky0_1
  have k1 := one_of (d := 30) (k := .i .u8) (by kernel_rfl) (by kernel_rfl) (hval 1 5 w1 rfl rfl) r1
  obtain ⟨y1, rfl, hy1⟩ := u8_nat k1
  refine (clear_calls y0_0 y0_1 hy0_1 y1 hy1 W).mono fun e' W' ⟨he, hg⟩ => ?_
  subst he
  have hback := trodAll_below (by kernel_rfl) hg (by kernel_rfl) hA1 (fun x hx => hW'.lt x hx)
  exact ⟨_, rfl, [d0, d1], [], _, [], _, [], hW', (trodAll_cons_mk (shut_bool Try.underlying4 _) trodAll_mk0), hback, rfl, hg.frame _, fun h => by cases h⟩
theorem over : Rows.swingClearRow.holds Try.pinned (OpenSpec.ofChange Rows.swingClearSpec) :=
  OpenClaim.holds_of_wide 8 Try.f8 rfl rfl rfl rfl rfl rfl rfl ⟨rfl, rfl, rfl, rfl, rfl⟩ rfl rfl rfl rfl rfl (by kernel_rfl) Try.func8 (by kernel_rfl)
    (of_decide_eq_true (by kernel_rfl)) (by unfold Func.isWrapper; first | (rw [if_pos (by decide +kernel)]; kernel_rfl) | (rw [if_neg (by decide +kernel)]; exact ⟨rfl, rfl⟩))
    (fun os started H enc _ => lifted os started H enc)

/-- THE STATEMENT -/
theorem proved : Rows.SwingClearSaid :=
  over
#print axioms proved
end Go.Proofs.Ytfcgfnlifdjfjaa.swingClear
