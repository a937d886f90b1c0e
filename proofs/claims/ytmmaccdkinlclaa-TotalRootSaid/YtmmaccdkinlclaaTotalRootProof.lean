/- TotalRoot returns true for every number, whatever the memory and the order in which operands come: an open run through the search of a root, with a bound that halves; works is answered by what is known of it. No condition. -/
import Derived.Test.YtmmaccdkinlclaaRows
import Derived.WalkKit
import Derived.ProofKit
import Derived.OpenShut
import Derived.Test.YtmmaccdkinlclaaRootB
import Derived.Test.YtmmaccdkinlclaaRunB
namespace Go.Proofs.Ytmmaccdkinlclaa.totalRoot
open Go.ChangeShapes Go.WideShapes Go.ChangeAt Go.RowKit Go.Ab

theorem own : ownKnob Try.prog.godebug = none := by kernel_rfl
attribute [local irreducible] callF cFun
theorem h_ext : ∀ call, CallOK Try.prog call → CallOK Try.prog (extB [70] 16 call) := fun call h => extB_ok name_ok Try.func16 (by kernel_rfl) returns_works call h
theorem h_run (q : Nat) (hq : q < 4294967296) (W : World) : (cFun Try.prog 1000 13).run (CL 1000 (0 + 3)) [.int .u32 (Int.ofNat q)] (isTrue true) (stOf W []) = true := by
  have hs : (stOf W []).nx + 10 < 262144 := by rw [stOf_nx]; decide
  have h3 := law13 1000 0 (by omega) (stOf W []) hs q hq
  unfold Sat at h3
  exact h3 (isTrue true) true (fun v _ h => by rw [h]; rfl)
theorem h_args (q : Nat) : ([.int .u32 (Int.ofNat q)] : List Value).map (alV []) = [.int .u32 (Int.ofNat q)] := rfl
theorem h_run2 (q : Nat) (hq : q < 4294967296) (W : World) (l : List Value) (hl : l = [.int .u32 (Int.ofNat q)]) : (cFun Try.prog 1000 13).run (callF Try.prog 1000 (extB [70] 16) (0 + 3)) l (isTrue true) (stOf W []) = true := by
  subst hl
  exact h_run q hq W
set_option maxRecDepth 100000 in
theorem returns_root (q : Nat) (hq : q < 4294967296) (W : World) : Calls Try.prog 13 #[.int .u32 (Int.ofNat q)] W fun e W' => e = .returned (.bool true) ∧ Below W.heap.size W W' := by
  have h := h_run2 q hq W _ (h_args q)
  have h2 := @calls_open Try.prog draws name_ok 1000 (0 + 3) (extB [70] 16) h_ext 13 [.int .u32 (Int.ofNat q)] W []
  have h3 := h2 List.nodup_nil
  have h4 := h3 (Nat.zero_le _)
  have h5 := h4 h
  exact h5

set_option maxRecDepth 100000 in
theorem lifted (os : Os) (started : os.Started) (H : Type) (enc : TypeId × Value → H) :
    ReturnsInHanded {} Try.checked os 13 .any (Rows.totalRootSpec.pre6 enc Try.prog Try.f13 Rows.totalRootRow.domain false) (Rows.totalRootSpec.post enc Try.prog Try.f13 false true false false) := by
  refine returnsInHanded_of_change (C := Try.checked) own started (by kernel_rfl) Try.func13
    (ChangeSpec.witness6 (enc := enc) (C := Try.checked) false ⟨#[], #[.int .u32 0], []⟩ 8 (by kernel_rfl) (by kernel_rfl) (by kernel_rfl) (by kernel_rfl)) ?_
  intro W base args ds gs before hval0 hW hcnd _
  have hval : ∀ (j : Nat) t v, Try.f13.params[j]? = some t → args[j]? = some v → Value.okWide Try.prog W .any base t v := hval0
  have hW' := hW
  obtain ⟨p, q, hA0, hV, rfl, hfz, hnd⟩ := hW
  have hA : DataW.TrodAll enc Try.prog W 0 (fun _ => true) true Try.f13.params.toList args.toList ds p := hA0
  rw [Try.params13] at hA hval
  obtain ⟨v0, d0, rfl, rfl, h0⟩ := trodAll_one hA
  obtain ⟨rfl, rfl⟩ := trodVars_none hV
  obtain ⟨n, rfl, rfl, rfl, w_n⟩ := open_int Try.underlying81 (hval 0 81 v0 rfl rfl) h0
  clear hA0 hval0
  simp only [List.append_nil] at hW'
  obtain ⟨q, hq, rfl⟩ : ∃ q : Nat, q < 4294967296 ∧ n = Int.ofNat q := by
    have h : IntKind.min .u32 ≤ n ∧ n ≤ IntKind.max .u32 := by simpa [Lit.wf] using w_n
    have e1 : IntKind.min .u32 = 0 := by decide
    have e2 : IntKind.max .u32 = 4294967295 := by decide
    rw [e1, e2] at h
    exact ⟨n.toNat, by omega, (Int.toNat_of_nonneg h.1).symm⟩
  refine (returns_root q hq W).mono fun e W' ⟨he, hg⟩ => ?_
  subst he
  exact ⟨_, rfl, [.lit (.int .u32 (Int.ofNat q))], [], [], [], [], [], hW', (trodAll_cons_mk (shut_bool Try.underlying4 _) trodAll_mk0), trodAll_cons_mk (shut_int Try.underlying81 w_n) trodAll_mk0, rfl, hg.frame _, fun h => by cases h⟩

theorem over : Rows.totalRootRow.holds Try.pinned (OpenSpec.ofChange Rows.totalRootSpec) :=
  OpenClaim.holds_of_wide 13 Try.f13 rfl rfl rfl rfl rfl rfl rfl ⟨rfl, rfl, rfl, rfl, rfl⟩ rfl rfl rfl rfl rfl (by kernel_rfl) Try.func13 (by kernel_rfl)
    (of_decide_eq_true (by kernel_rfl)) (by unfold Func.isWrapper; first | (rw [if_pos (by decide +kernel)]; kernel_rfl) | (rw [if_neg (by decide +kernel)]; exact ⟨rfl, rfl⟩))
    (fun os started H enc _ => lifted os started H enc)

/-- THE STATEMENT -/
theorem proved : Rows.TotalRootSaid :=
  over
#print axioms proved
end Go.Proofs.Ytmmaccdkinlclaa.totalRoot
