/- RankAll returns true for all arguments, whatever the memory and the order in which operands come: an open run over what the slices read as; works is answered by what is known of it. No condition. -/
import Derived.Test.YtefnljdfgjjpjaaRows
import Derived.WalkKit
import Derived.ProofKit
import Derived.OpenShut
import Derived.Test.YtefnljdfgjjpjaaEngSy
import Derived.Test.YtefnljdfgjjpjaaRaU
import Derived.Test.YtefnljdfgjjpjaaRunB
namespace Go.Proofs.Ytefnljdfgjjpjaa.rankAll
open Go.ChangeShapes Go.WideShapes Go.ChangeAt Go.RowKit Go.Ab

set_option maxHeartbeats 8000000
set_option linter.unusedVariables false
set_option linter.unusedSimpArgs false
theorem own : ownKnob Try.prog.godebug = none := by kernel_rfl
attribute [local irreducible] callF cFun
theorem h_ext : ∀ call, CallOK Try.prog call → CallOK Try.prog (extB [] 14 call) := fun call h => extB_ok name_ok Try.func14 (by kernel_rfl) returns_works call h
theorem h_calls (W : World) (Bs : List Nat) (hB : Bs.Nodup) (hl : Bs.length ≤ 1) (args l : List Value) (hargs : args.map (alV Bs) = l) (h : (cFun Try.prog 5000 7).run (callF Try.prog 5000 (extB [] 14) 59) l (isTrue true) (stOf W Bs) = true) :
    Calls Try.prog 7 ⟨args⟩ W fun e' W' => e' = .returned (.bool true) ∧ Below W.heap.size W W' := by
  subst hargs
  exact calls_open (F := 5000) (D := 59) (ext := extB [] 14) (f := 7) (args := args) (W := W) (Bs := Bs) draws name_ok h_ext hB (Nat.le_trans hl (Nat.le_of_ble_eq_true rfl)) h
theorem alV_sl {Bs : List Nat} {W : World} {sz : Nat} {R : List Value → List Value → Prop} {v : Value} {ys : List (List Value)} (h : SlW W sz R v ys) : alV Bs v = al1 Bs v := by
  rcases h with ⟨B, O, c, rfl, _⟩ | ⟨_, rfl | ⟨a, rfl⟩⟩ <;> rfl
set_option maxRecDepth 100000 in
theorem h_args  (W : World) (v0 : Value) (ys0 : List (List Value)) (hv0 : SlW W 2 (RF [.i .u8, .i .u8]) v0 ys0) (Bs : List Nat) : ([v0] : List Value).map (alV Bs) = [(al1 Bs v0)] := by
  first | (simp only [List.map_cons, List.map_nil, alV_sl hv0]; done) | (simp only [List.map_cons, List.map_nil, alV_sl hv0]; rfl)
set_option maxRecDepth 100000 in
theorem h_run  (W : World) (v0 : Value) (ys0 : List (List Value)) (hv0 : SlW W 2 (RF [.i .u8, .i .u8]) v0 ys0) (Bs : List Nat) (hl : Bs.length ≤ 1) (hm : ∀ B, B ∈ blkOf v0 → B ∈ Bs) : (cFun Try.prog 5000 7).run (callF Try.prog 5000 (extB [] 14) 59) [(al1 Bs v0)] (isTrue true) (stOf W Bs) = true := by
  have hs : (stOf W Bs).nx + ((1000000000000 + 200)) ≤ maxB := by rw [stOf_nx]; exact Nat.le_trans (Nat.add_le_add_right hl _) (Nat.le_of_ble_eq_true rfl)
  obtain ⟨t0, u0, ht0, hu0, hf0⟩ := pairs_fn hv0
  obtain ⟨a0, c0, e0, hE0⟩ := named_flat (Bs := Bs) (Nat.le_trans hl (Nat.le_of_ble_eq_true rfl)) (l := [.i .u8, .i .u8]) (by decide) hv0 (fun B h => hm B (by simp [h])) (fun j => [.int .u8 (Int.ofNat (t0 j)), .int .u8 (Int.ofNat (u0 j))]) (fun _ => rfl) hf0 0
  rw [e0]
  have e : dens [.sl 1000 a0 ys0.length c0] = [.slice a0 ys0.length c0] := rfl
  rw [← e]
  refine (l7 5000 0 (by omega) a0 ys0.length 0 c0 t0 u0 ht0 hu0  ).runs (d := 59) rfl rfl hs (stOf_fl W Bs) (fun x hx => ?_) fun x hx b => ?_
  · skip
    rw [List.mem_singleton.1 hx]; exact hE0
  · skip
    rw [List.mem_singleton.1 hx]; exact fun h => h
set_option maxRecDepth 100000 in
theorem returns_law  (W : World) (v0 : Value) (ys0 : List (List Value)) (hv0 : SlW W 2 (RF [.i .u8, .i .u8]) v0 ys0) : Calls Try.prog 7 ⟨[v0]⟩ W fun e W' => e = .returned (.bool true) ∧ Below W.heap.size W W' := by
  have hd := dd_length (blkOf v0)
  have hmem : ∀ B, B ∈ blkOf v0 → B ∈ dd (blkOf v0) := fun B h => dd_mem.2 h
  have hnd := dd_nodup (blkOf v0)
  generalize dd (blkOf v0) = Bs at hd hmem hnd
  have bv0 := blkOf_len v0
  try simp only [List.length_append] at hd
  exact h_calls W Bs hnd (by omega) _ _ (h_args  W v0 ys0 hv0 Bs) (h_run  W v0 ys0 hv0 Bs (by omega) hmem)

set_option maxRecDepth 100000 in
theorem lifted (os : Os) (started : os.Started) (H : Type) (enc : TypeId × Value → H) :
    ReturnsInHanded {} Try.checked os 7 .any (Rows.rankAllSpec.pre6 enc Try.prog Try.f7 Rows.rankAllRow.domain false) (Rows.rankAllSpec.post enc Try.prog Try.f7 false true false false) := by
  refine returnsInHanded_of_change (C := Try.checked) own started (by kernel_rfl) Try.func7
    (ChangeSpec.witness6 (enc := enc) (C := Try.checked) false ⟨#[], #[.slice none 0 0], []⟩ 8 (by kernel_rfl) (by kernel_rfl) (by kernel_rfl) (by kernel_rfl)) ?_
  intro W base args ds gs before hval0 hW hcnd _
  have hval : ∀ (j : Nat) t v, Try.f7.params[j]? = some t → args[j]? = some v → Value.okWide Try.prog W .any base t v := hval0
  have hW' := hW
  obtain ⟨p, q, hA0, hV, rfl, hfz, hnd⟩ := hW
  have hA : DataW.TrodAll enc Try.prog W 0 (fun _ => true) true Try.f7.params.toList args.toList ds p := hA0
  rw [Try.params7] at hA hval
  have hA1 := hA

  obtain ⟨w0, d0, rfl, rfl, r0⟩ := trodAll_one hA
  obtain ⟨rfl, rfl⟩ := trodVars_none hV
  clear hA0 hval0
  simp only [List.append_nil] at hW'
  obtain ⟨aa0, nn0, mm0, rfl⟩ := okWide_slice Try.underlying53 (hval 0 53 w0 rfl rfl)
  obtain ⟨u0, r0⟩ := r0
  have r0 : DataW.trod enc Try.prog W 0 (fun _ => true) true u0 53 [.slice aa0 nn0 mm0] = some (d0, _) := r0
  obtain ⟨v0, ys0, hvv0, hv0⟩ := flats_of (d := 30) (l := [.i .u8, .i .u8]) Try.underlying53 (by kernel_rfl) (by kernel_rfl) (by decide) r0
  injection hvv0 with hvv0 _; subst hvv0
  refine (returns_law  W _ ys0 hv0).mono fun e' W' ⟨he, hg⟩ => ?_
  subst he
  have hback := trodAll_below (by kernel_rfl) hg (by kernel_rfl) hA1 (fun x hx => hW'.lt x hx)
  exact ⟨_, rfl, [d0], [], _, [], _, [], hW', (trodAll_cons_mk (shut_bool Try.underlying4 _) trodAll_mk0), hback, rfl, hg.frame _, fun h => by cases h⟩

theorem over : Rows.rankAllRow.holds Try.pinned (OpenSpec.ofChange Rows.rankAllSpec) :=
  OpenClaim.holds_of_wide 7 Try.f7 rfl rfl rfl rfl rfl rfl rfl ⟨rfl, rfl, rfl, rfl, rfl⟩ rfl rfl rfl rfl rfl (by kernel_rfl) Try.func7 (by kernel_rfl)
    (of_decide_eq_true (by kernel_rfl)) (by unfold Func.isWrapper; first | (rw [if_pos (by decide +kernel)]; kernel_rfl) | (rw [if_neg (by decide +kernel)]; exact ⟨rfl, rfl⟩))
    (fun os started H enc _ => lifted os started H enc)

/-- THE STATEMENT -/
theorem proved : Rows.RankAllSaid :=
  over
#print axioms proved
end Go.Proofs.Ytefnljdfgjjpjaa.rankAll
