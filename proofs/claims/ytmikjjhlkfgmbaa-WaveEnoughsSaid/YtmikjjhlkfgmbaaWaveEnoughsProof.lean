/- WaveEnoughs returns true for all numbers, whatever the memory and the order in which operands come: an open run; works is answered by what is known of it. No condition. -/
import Derived.Test.YtmikjjhlkfgmbaaRows
import Derived.WalkKit
import Derived.ProofKit
import Derived.OpenShut
import Derived.Test.YtmikjjhlkfgmbaaEngQf
import Derived.Test.YtmikjjhlkfgmbaaEnA
import Derived.Test.YtmikjjhlkfgmbaaRunB
namespace Go.Proofs.Ytmikjjhlkfgmbaa.waveEnoughs
open Go.ChangeShapes Go.WideShapes Go.ChangeAt Go.RowKit Go.Ab

theorem own : ownKnob Try.prog.godebug = none := by kernel_rfl
attribute [local irreducible] callF cFun
theorem h_ext : ∀ call, CallOK Try.prog call → CallOK Try.prog (extB [] 15 call) := fun call h => extB_ok name_ok Try.func15 (by kernel_rfl) returns_works call h
theorem h_run (a0 : Int) (a1 : Int)  (W : World) : (cFun Try.prog 1000 6).run (CL 1000 (0 + 2)) [.int .i64 a0, .int .i64 a1] (isTrue true) (stOf W []) = true := by
  have hs : (stOf W []).nx + 8000 < 262144 := by rw [stOf_nx]; decide
  have h3 := law6 1000 0 (by omega) (stOf W []) hs a0 a1 
  unfold Sat at h3
  exact h3 (isTrue true) true (fun v _ h => by rw [h]; rfl)
theorem h_args (a0 : Int) (a1 : Int) : ([.int .i64 a0, .int .i64 a1] : List Value).map (alV []) = [.int .i64 a0, .int .i64 a1] := rfl
theorem h_run2 (a0 : Int) (a1 : Int)  (W : World) (l : List Value) (hl : l = [.int .i64 a0, .int .i64 a1]) : (cFun Try.prog 1000 6).run (callF Try.prog 1000 (extB [] 15) (0 + 2)) l (isTrue true) (stOf W []) = true := by
  subst hl
  exact h_run a0 a1  W
set_option maxRecDepth 100000 in
theorem returns_law (a0 : Int) (a1 : Int)  (W : World) : Calls Try.prog 6 #[.int .i64 a0, .int .i64 a1] W fun e W' => e = .returned (.bool true) ∧ Below W.heap.size W W' := by
  have h := h_run2 a0 a1  W _ (h_args a0 a1)
  have h2 := @calls_open Try.prog draws name_ok 1000 (0 + 2) (extB [] 15) h_ext 6 [.int .i64 a0, .int .i64 a1] W []
  have h3 := h2 List.nodup_nil
  have h4 := h3 (Nat.zero_le _)
  have h5 := h4 h
  exact h5

set_option maxRecDepth 100000 in
theorem lifted (os : Os) (started : os.Started) (H : Type) (enc : TypeId × Value → H) :
    ReturnsInHanded {} Try.checked os 6 .any (Rows.waveEnoughsSpec.pre6 enc Try.prog Try.f6 Rows.waveEnoughsRow.domain false) (Rows.waveEnoughsSpec.post enc Try.prog Try.f6 false true false false) := by
  refine returnsInHanded_of_change (C := Try.checked) own started (by kernel_rfl) Try.func6
    (ChangeSpec.witness6 (enc := enc) (C := Try.checked) false ⟨#[], #[.int .i64 0, .int .i64 0], []⟩ 8 (by kernel_rfl) (by kernel_rfl) (by kernel_rfl) (by kernel_rfl)) ?_
  intro W base args ds gs before hval0 hW hcnd _
  have hval : ∀ (j : Nat) t v, Try.f6.params[j]? = some t → args[j]? = some v → Value.okWide Try.prog W .any base t v := hval0
  have hW' := hW
  obtain ⟨p, q, hA0, hV, rfl, hfz, hnd⟩ := hW
  have hA : DataW.TrodAll enc Try.prog W 0 (fun _ => true) true Try.f6.params.toList args.toList ds p := hA0
  rw [Try.params6] at hA hval
  obtain ⟨v0, v1, d0, d1, p0, p1, rfl, rfl, rfl, t0, t1⟩ := trodAll_two hA
  obtain ⟨rfl, rfl⟩ := trodVars_none hV
  obtain ⟨n0, rfl, rfl, rfl, w0⟩ := open_int Try.underlying3 (hval 0 3 v0 rfl rfl) t0
  obtain ⟨n1, rfl, rfl, rfl, w1⟩ := open_int Try.underlying3 (hval 1 3 v1 rfl rfl) t1
  clear hA0 hval0
  simp only [List.append_nil] at hW'
  refine (returns_law n0 n1  W).mono fun e W' ⟨he, hg⟩ => ?_
  subst he
  exact ⟨_, rfl, [.lit (.int .i64 n0), .lit (.int .i64 n1)], [], [], [], [], [], hW', (trodAll_cons_mk (shut_bool Try.underlying4 _) trodAll_mk0), (trodAll_cons_mk (shut_int Try.underlying3 w0) (trodAll_cons_mk (shut_int Try.underlying3 w1) trodAll_mk0)), rfl, hg.frame _, fun h => by cases h⟩

theorem over : Rows.waveEnoughsRow.holds Try.pinned (OpenSpec.ofChange Rows.waveEnoughsSpec) :=
  OpenClaim.holds_of_wide 6 Try.f6 rfl rfl rfl rfl rfl rfl rfl ⟨rfl, rfl, rfl, rfl, rfl⟩ rfl rfl rfl rfl rfl (by kernel_rfl) Try.func6 (by kernel_rfl)
    (of_decide_eq_true (by kernel_rfl)) (by unfold Func.isWrapper; first | (rw [if_pos (by decide +kernel)]; kernel_rfl) | (rw [if_neg (by decide +kernel)]; exact ⟨rfl, rfl⟩))
    (fun os started H enc _ => lifted os started H enc)

/-- THE STATEMENT -/
theorem proved : Rows.WaveEnoughsSaid :=
  over
#print axioms proved
end Go.Proofs.Ytmikjjhlkfgmbaa.waveEnoughs
