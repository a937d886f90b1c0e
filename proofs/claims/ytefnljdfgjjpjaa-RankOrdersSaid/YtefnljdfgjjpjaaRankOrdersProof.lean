/- RankOrders returns true for all arguments, whatever the memory and the order in which operands come: an open run over what the slices read as; works is answered by what is known of it. No condition. -/
import Derived.Test.YtefnljdfgjjpjaaRows
import Derived.WalkKit
import Derived.ProofKit
import Derived.OpenShut
import Derived.Test.YtefnljdfgjjpjaaEngSy
import Derived.Test.YtefnljdfgjjpjaaRaOf
import Derived.Test.YtefnljdfgjjpjaaRunB
namespace Go.Proofs.Ytefnljdfgjjpjaa.rankOrders
open Go.ChangeShapes Go.WideShapes Go.ChangeAt Go.RowKit Go.Ab

set_option maxHeartbeats 8000000
set_option linter.unusedVariables false
set_option linter.unusedSimpArgs false
theorem own : ownKnob Try.prog.godebug = none := by kernel_rfl
attribute [local irreducible] callF cFun
theorem h_ext : ∀ call, CallOK Try.prog call → CallOK Try.prog (extB [] 14 call) := fun call h => extB_ok name_ok Try.func14 (by kernel_rfl) returns_works call h
theorem h_calls (W : World) (Bs : List Nat) (hB : Bs.Nodup) (hl : Bs.length ≤ 2) (args l : List Value) (hargs : args.map (alV Bs) = l) (h : (cFun Try.prog 600 3).run (callF Try.prog 600 (extB [] 14) 59) l (isTrue true) (stOf W Bs) = true) :
    Calls Try.prog 3 ⟨args⟩ W fun e' W' => e' = .returned (.bool true) ∧ Below W.heap.size W W' := by
  subst hargs
  exact calls_open (F := 600) (D := 59) (ext := extB [] 14) (f := 3) (args := args) (W := W) (Bs := Bs) draws name_ok h_ext hB (Nat.le_trans hl (Nat.le_of_ble_eq_true rfl)) h
theorem alV_sl {Bs : List Nat} {W : World} {sz : Nat} {R : List Value → List Value → Prop} {v : Value} {ys : List (List Value)} (h : SlW W sz R v ys) : alV Bs v = al1 Bs v := by
  rcases h with ⟨B, O, c, rfl, _⟩ | ⟨_, rfl | ⟨a, rfl⟩⟩ <;> rfl
set_option maxRecDepth 100000 in
theorem h_args (y2 : Int) (y3 : Int) (W : World) (v0 v1 : Value) (ys0 ys1 : List (List Value)) (hv0 : SlW W 2 (RF [.i .i64, .i .i64]) v0 ys0) (hv1 : SlW W 1 (RF [.i .i64]) v1 ys1) (Bs : List Nat) : ([v0, v1, .int .i64 y2, .int .i64 y3] : List Value).map (alV Bs) = [(al1 Bs v0), (al1 Bs v1), .int .i64 y2, .int .i64 y3] := by
  first | (simp only [List.map_cons, List.map_nil, alV_sl hv0, alV_sl hv1]; done) | (simp only [List.map_cons, List.map_nil, alV_sl hv0, alV_sl hv1]; rfl)
set_option maxRecDepth 100000 in
theorem h_run (y2 : Int) (y3 : Int) (W : World) (v0 v1 : Value) (ys0 ys1 : List (List Value)) (hv0 : SlW W 2 (RF [.i .i64, .i .i64]) v0 ys0) (hv1 : SlW W 1 (RF [.i .i64]) v1 ys1) (Bs : List Nat) (hl : Bs.length ≤ 2) (hm : ∀ B, B ∈ blkOf v0 ++ blkOf v1 → B ∈ Bs) : (cFun Try.prog 600 3).run (callF Try.prog 600 (extB [] 14) 59) [(al1 Bs v0), (al1 Bs v1), .int .i64 y2, .int .i64 y3] (isTrue true) (stOf W Bs) = true := by
  have hs : (stOf W Bs).nx + ((10000000 + 100)) ≤ maxB := by rw [stOf_nx]; exact Nat.le_trans (Nat.add_le_add_right hl _) (Nat.le_of_ble_eq_true rfl)
  obtain ⟨t0, u0, hf0⟩ := spans_fn hv0
  obtain ⟨a0, c0, e0, hE0⟩ := named_flat (Bs := Bs) (Nat.le_trans hl (Nat.le_of_ble_eq_true rfl)) (l := [.i .i64, .i .i64]) (by decide) hv0 (fun B h => hm B (by simp [h])) (fun j => [.int .i64 (t0 j), .int .i64 (u0 j)]) (fun _ => rfl) hf0 0
  obtain ⟨t1, hf1⟩ := ints_fn hv1
  obtain ⟨a1, c1, e1, hE1⟩ := named_flat (Bs := Bs) (Nat.le_trans hl (Nat.le_of_ble_eq_true rfl)) (l := [.i .i64]) (by decide) hv1 (fun B h => hm B (by simp [h])) (fun j => [.int .i64 (t1 j)]) (fun _ => rfl) hf1 0
  rw [e0, e1]
  have e : dens [.sl 1000 a0 ys0.length c0, .sl 1001 a1 ys1.length c1, .int .i64 y2, .int .i64 y3] = [.slice a0 ys0.length c0, .slice a1 ys1.length c1, .int .i64 y2, .int .i64 y3] := rfl
  rw [← e]
  refine (l3 600 0 (by omega) a0 ys0.length 0 c0 t0 u0 a1 ys1.length 0 c1 t1 y2 y3 ).runs (d := 59) rfl rfl hs (stOf_fl W Bs) (fun x hx => ?_) fun x hx b => ?_
  · skip
    rcases List.mem_cons.1 hx with rfl | hx
    · exact hE0
    rw [List.mem_singleton.1 hx]; exact hE1
  · skip
    rcases List.mem_cons.1 hx with rfl | hx
    · exact fun h => h
    rw [List.mem_singleton.1 hx]; exact fun h => h
set_option maxRecDepth 100000 in
theorem returns_law (y2 : Int) (y3 : Int) (W : World) (v0 v1 : Value) (ys0 ys1 : List (List Value)) (hv0 : SlW W 2 (RF [.i .i64, .i .i64]) v0 ys0) (hv1 : SlW W 1 (RF [.i .i64]) v1 ys1) : Calls Try.prog 3 ⟨[v0, v1, .int .i64 y2, .int .i64 y3]⟩ W fun e W' => e = .returned (.bool true) ∧ Below W.heap.size W W' := by
  have hd := dd_length (blkOf v0 ++ blkOf v1)
  have hmem : ∀ B, B ∈ blkOf v0 ++ blkOf v1 → B ∈ dd (blkOf v0 ++ blkOf v1) := fun B h => dd_mem.2 h
  have hnd := dd_nodup (blkOf v0 ++ blkOf v1)
  generalize dd (blkOf v0 ++ blkOf v1) = Bs at hd hmem hnd
  have bv0 := blkOf_len v0
  have bv1 := blkOf_len v1
  try simp only [List.length_append] at hd
  exact h_calls W Bs hnd (by omega) _ _ (h_args y2 y3 W v0 v1 ys0 ys1 hv0 hv1 Bs) (h_run y2 y3 W v0 v1 ys0 ys1 hv0 hv1 Bs (by omega) hmem)

set_option maxRecDepth 100000 in
theorem lifted (os : Os) (started : os.Started) (H : Type) (enc : TypeId × Value → H) :
    ReturnsInHanded {} Try.checked os 3 .any (Rows.rankOrdersSpec.pre6 enc Try.prog Try.f3 Rows.rankOrdersRow.domain false) (Rows.rankOrdersSpec.post enc Try.prog Try.f3 false true false false) := by
  refine returnsInHanded_of_change (C := Try.checked) own started (by kernel_rfl) Try.func3
    (ChangeSpec.witness6 (enc := enc) (C := Try.checked) false ⟨#[], #[.slice none 0 0, .slice none 0 0, .int .i64 0, .int .i64 0], []⟩ 8 (by kernel_rfl) (by kernel_rfl) (by kernel_rfl) (by kernel_rfl)) ?_
  intro W base args ds gs before hval0 hW hcnd _
  have hval : ∀ (j : Nat) t v, Try.f3.params[j]? = some t → args[j]? = some v → Value.okWide Try.prog W .any base t v := hval0
  have hW' := hW
  obtain ⟨p, q, hA0, hV, rfl, hfz, hnd⟩ := hW
  have hA : DataW.TrodAll enc Try.prog W 0 (fun _ => true) true Try.f3.params.toList args.toList ds p := hA0
  rw [Try.params3] at hA hval
  have hA1 := hA

  obtain ⟨w0, w1, w2, w3, d0, d1, d2, d3, p0, p1, p2, p3, rfl, rfl, rfl, r0, r1, r2, r3⟩ := trodAll_four hA
  obtain ⟨rfl, rfl⟩ := trodVars_none hV
  clear hA0 hval0
  simp only [List.append_nil] at hW'
  obtain ⟨aa0, nn0, mm0, rfl⟩ := okWide_slice Try.underlying22 (hval 0 22 w0 rfl rfl)
  obtain ⟨u0, r0⟩ := r0
  have r0 : DataW.trod enc Try.prog W 0 (fun _ => true) true u0 22 [.slice aa0 nn0 mm0] = some (d0, p0) := r0
  obtain ⟨v0, ys0, hvv0, hv0⟩ := flats_of (d := 30) (l := [.i .i64, .i .i64]) Try.underlying22 (by kernel_rfl) (by kernel_rfl) (by decide) r0
  injection hvv0 with hvv0 _; subst hvv0
  obtain ⟨aa1, nn1, mm1, rfl⟩ := okWide_slice Try.underlying23 (hval 1 23 w1 rfl rfl)
  obtain ⟨u1, r1⟩ := r1
  have r1 : DataW.trod enc Try.prog W 0 (fun _ => true) true u1 23 [.slice aa1 nn1 mm1] = some (d1, p1) := r1
  obtain ⟨v1, ys1, hvv1, hv1⟩ := flats_of (d := 30) (l := [.i .i64]) Try.underlying23 (by kernel_rfl) (by kernel_rfl) (by decide) r1
  injection hvv1 with hvv1 _; subst hvv1
  have k2 := one_of (d := 30) (k := .i .i64) (by kernel_rfl) (by kernel_rfl) (hval 2 3 w2 rfl rfl) r2
  obtain ⟨y2, rfl, _⟩ := k2
  have k3 := one_of (d := 30) (k := .i .i64) (by kernel_rfl) (by kernel_rfl) (hval 3 3 w3 rfl rfl) r3
  obtain ⟨y3, rfl, _⟩ := k3
  refine (returns_law y2 y3 W _ _ ys0 ys1 hv0 hv1).mono fun e' W' ⟨he, hg⟩ => ?_
  subst he
  have hback := trodAll_below (by kernel_rfl) hg (by kernel_rfl) hA1 (fun x hx => hW'.lt x hx)
  exact ⟨_, rfl, [d0, d1, d2, d3], [], _, [], _, [], hW', (trodAll_cons_mk (shut_bool Try.underlying4 _) trodAll_mk0), hback, rfl, hg.frame _, fun h => by cases h⟩

theorem over : Rows.rankOrdersRow.holds Try.pinned (OpenSpec.ofChange Rows.rankOrdersSpec) :=
  OpenClaim.holds_of_wide 3 Try.f3 rfl rfl rfl rfl rfl rfl rfl ⟨rfl, rfl, rfl, rfl, rfl⟩ rfl rfl rfl rfl rfl (by kernel_rfl) Try.func3 (by kernel_rfl)
    (of_decide_eq_true (by kernel_rfl)) (by unfold Func.isWrapper; first | (rw [if_pos (by decide +kernel)]; kernel_rfl) | (rw [if_neg (by decide +kernel)]; exact ⟨rfl, rfl⟩))
    (fun os started H enc _ => lifted os started H enc)

/-- THE STATEMENT -/
theorem proved : Rows.RankOrdersSaid :=
  over
#print axioms proved
end Go.Proofs.Ytefnljdfgjjpjaa.rankOrders
