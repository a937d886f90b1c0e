/- SwingRing returns true for all arguments, whatever the memory and the order in which operands come: the law's run is made in the kernel for each order by the machine of the Eng files; rows and what tells their heading are answered by contracts, works and two functions of the library by what is known of them. No condition. -/
import Derived.Test.YtfcgfnlifdjfjaaRows
import Derived.WalkKit
import Derived.ProofKit
import Derived.OpenShut
import Derived.Test.YtfcgfnlifdjfjaaSwZ
namespace Go.Proofs.Ytfcgfnlifdjfjaa.swingRing
open Go.ChangeShapes Go.WideShapes Go.ChangeAt Go.RowKit Go.Ab
set_option maxHeartbeats 8000000
set_option linter.unusedVariables false
theorem own : ownKnob Try.prog.godebug = none := by kernel_rfl
theorem returns_law (q : Nat) (hq : q < 256) (b : Int) (c : Nat) (hc : c < 256) (W : World) : Calls Try.prog 9 ⟨[.int .u8 (Int.ofNat q), .agg ⟨[.int .u64 b, .int .u8 (Int.ofNat c)]⟩]⟩ W fun e W' => e = .returned (.bool true) ∧ Below W.heap.size W W' :=
  calls_args draws name_ok (ext2_ok (res b (c : Int))) (args := [.int .u8 (Int.ofNat q), .agg ⟨[.int .u64 b, .int .u8 (Int.ofNat c)]⟩]) rfl (ring_run q hq b c hc) W
set_option maxRecDepth 100000 in
theorem lifted (os : Os) (started : os.Started) (H : Type) (enc : TypeId × Value → H) :
    ReturnsInHanded {} Try.checked os 9 .any (Rows.swingRingSpec.pre6 enc Try.prog Try.f9 Rows.swingRingRow.domain false) (Rows.swingRingSpec.post enc Try.prog Try.f9 false true false false) := by
  refine returnsInHanded_of_change (C := Try.checked) own started (by kernel_rfl) Try.func9
    (ChangeSpec.witness6 (enc := enc) (C := Try.checked) false ⟨#[], #[.int .u8 0, .agg #[.int .u64 0, .int .u8 0]], []⟩ 8 (by kernel_rfl) (by kernel_rfl) (by kernel_rfl) (by kernel_rfl)) ?_
  intro W base args ds gs before hval0 hW hcnd _
  have hval : ∀ (j : Nat) t v, Try.f9.params[j]? = some t → args[j]? = some v → Value.okWide Try.prog W .any base t v := hval0
  have hW' := hW
  obtain ⟨p, q, hA0, hV, rfl, hfz, hnd⟩ := hW
  have hA : DataW.TrodAll enc Try.prog W 0 (fun _ => true) true Try.f9.params.toList args.toList ds p := hA0
  rw [Try.params9] at hA hval
  have hA1 := hA
  obtain ⟨w0, w1, d0, d1, p0, p1, rfl, rfl, rfl, r0, r1⟩ := trodAll_two hA
  obtain ⟨rfl, rfl⟩ := trodVars_none hV
  clear hA0 hval0
  simp only [List.append_nil] at hW'
  have k0 := one_of (d := 30) (k := .i .u8) (by kernel_rfl) (by kernel_rfl) (hval 0 5 w0 rfl rfl) r0
  obtain ⟨y0, rfl, hy0⟩ := u8_nat k0
  obtain ⟨cs1, rfl, k1⟩ := agg_of (d := 30) (l := [.i .u64, .i .u8]) (by kernel_rfl) (by kernel_rfl) (by kernel_rfl) (hval 1 46 w1 rfl rfl) r1
  obtain ⟨_, _, rfl, ky1_0, ke1_0⟩ := k1
  obtain ⟨_, _, rfl, ky1_1, ke1_1⟩ := ke1_0
  have ke1 : _ = [] := ke1_1
  subst ke1
  obtain ⟨y1, rfl, _⟩ := ky1_0
  obtain ⟨y2, rfl, hy2⟩ := u8_nat ky1_1
  refine (returns_law y0 hy0 y1 y2 hy2 W).mono fun e' W' ⟨he, hg⟩ => ?_
  subst he
  have hback := trodAll_below (by kernel_rfl) hg (by kernel_rfl) hA1 (fun x hx => hW'.lt x hx)
  exact ⟨_, rfl, [d0, d1], [], _, [], _, [], hW', (trodAll_cons_mk (shut_bool Try.underlying4 _) trodAll_mk0), hback, rfl, hg.frame _, fun h => by cases h⟩
theorem over : Rows.swingRingRow.holds Try.pinned (OpenSpec.ofChange Rows.swingRingSpec) :=
  OpenClaim.holds_of_wide 9 Try.f9 rfl rfl rfl rfl rfl rfl rfl ⟨rfl, rfl, rfl, rfl, rfl⟩ rfl rfl rfl rfl rfl (by kernel_rfl) Try.func9 (by kernel_rfl)
    (of_decide_eq_true (by kernel_rfl)) (by unfold Func.isWrapper; first | (rw [if_pos (by decide +kernel)]; kernel_rfl) | (rw [if_neg (by decide +kernel)]; exact ⟨rfl, rfl⟩))
    (fun os started H enc _ => lifted os started H enc)

/-- THE STATEMENT -/
theorem proved : Rows.SwingRingSaid :=
  over
#print axioms proved
end Go.Proofs.Ytfcgfnlifdjfjaa.swingRing
