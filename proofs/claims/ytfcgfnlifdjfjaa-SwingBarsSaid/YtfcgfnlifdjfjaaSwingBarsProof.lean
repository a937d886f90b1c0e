/- SwingBars returns true for all numbers, whatever the memory and the order in which operands come: all inputs are run in the kernel by the machine of the Eng files; works and functions of the library are answered by what is known of them. No condition. -/
import Derived.Test.YtfcgfnlifdjfjaaRows
import Derived.WalkKit
import Derived.ProofKit
import Derived.OpenShut
import Derived.Test.YtfcgfnlifdjfjaaEngQf
import Derived.Test.YtfcgfnlifdjfjaaSwB
namespace Go.Proofs.Ytfcgfnlifdjfjaa.swingBars
open Go.ChangeShapes Go.WideShapes Go.ChangeAt Go.RowKit Go.Ab

theorem own : ownKnob Try.prog.godebug = none := by kernel_rfl
theorem returns_law (a0 : Nat) (h0 : a0 < 256) (W : World) : Calls Try.prog 10 #[.int .u8 (Int.ofNat a0)] W fun e W' => e = .returned (.bool true) ∧ Below W.heap.size W W' :=
  calls_args draws name_ok ext1_ok (args := [.int .u8 (Int.ofNat a0)]) rfl (run10 a0 h0) W

set_option maxRecDepth 100000 in
theorem lifted (os : Os) (started : os.Started) (H : Type) (enc : TypeId × Value → H) :
    ReturnsInHanded {} Try.checked os 10 .any (Rows.swingBarsSpec.pre6 enc Try.prog Try.f10 Rows.swingBarsRow.domain false) (Rows.swingBarsSpec.post enc Try.prog Try.f10 false true false false) := by
  refine returnsInHanded_of_change (C := Try.checked) own started (by kernel_rfl) Try.func10
    (ChangeSpec.witness6 (enc := enc) (C := Try.checked) false ⟨#[], #[.int .u8 0], []⟩ 8 (by kernel_rfl) (by kernel_rfl) (by kernel_rfl) (by kernel_rfl)) ?_
  intro W base args ds gs before hval0 hW hcnd _
  have hval : ∀ (j : Nat) t v, Try.f10.params[j]? = some t → args[j]? = some v → Value.okWide Try.prog W .any base t v := hval0
  have hW' := hW
  obtain ⟨p, q, hA0, hV, rfl, hfz, hnd⟩ := hW
  have hA : DataW.TrodAll enc Try.prog W 0 (fun _ => true) true Try.f10.params.toList args.toList ds p := hA0
  rw [Try.params10] at hA hval
  obtain ⟨v0, d0, rfl, rfl, t0⟩ := trodAll_one hA
  obtain ⟨rfl, rfl⟩ := trodVars_none hV
  obtain ⟨n0, rfl, rfl, rfl, w0⟩ := open_int Try.underlying5 (hval 0 5 v0 rfl rfl) t0
  clear hA0 hval0
  simp only [List.append_nil] at hW'
  obtain ⟨a0, h0, rfl⟩ := small_of 256 w0 (by decide) (by decide)
  refine (returns_law a0 h0 W).mono fun e W' ⟨he, hg⟩ => ?_
  subst he
  exact ⟨_, rfl, [.lit (.int .u8 (Int.ofNat a0))], [], [], [], [], [], hW', (trodAll_cons_mk (shut_bool Try.underlying4 _) trodAll_mk0), (trodAll_cons_mk (shut_int Try.underlying5 w0) trodAll_mk0), rfl, hg.frame _, fun h => by cases h⟩

theorem over : Rows.swingBarsRow.holds Try.pinned (OpenSpec.ofChange Rows.swingBarsSpec) :=
  OpenClaim.holds_of_wide 10 Try.f10 rfl rfl rfl rfl rfl rfl rfl ⟨rfl, rfl, rfl, rfl, rfl⟩ rfl rfl rfl rfl rfl (by kernel_rfl) Try.func10 (by kernel_rfl)
    (of_decide_eq_true (by kernel_rfl)) (by unfold Func.isWrapper; first | (rw [if_pos (by decide +kernel)]; kernel_rfl) | (rw [if_neg (by decide +kernel)]; exact ⟨rfl, rfl⟩))
    (fun os started H enc _ => lifted os started H enc)

/-- THE STATEMENT -/
theorem proved : Rows.SwingBarsSaid :=
  over
#print axioms proved
end Go.Proofs.Ytfcgfnlifdjfjaa.swingBars
