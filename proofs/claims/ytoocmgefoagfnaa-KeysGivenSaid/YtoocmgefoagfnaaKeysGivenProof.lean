/- KeysGiven returns true for all arguments, whatever the memory and the order in which operands come: an open run over what the slices read as; works is answered by what is known of it. No condition. -/
import Derived.Test.YtoocmgefoagfnaaRows
import Derived.WalkKit
import Derived.ProofKit
import Derived.OpenShut
import Derived.Test.YtoocmgefoagfnaaEngSy
import Derived.Test.YtoocmgefoagfnaaKyYC
import Derived.Test.YtoocmgefoagfnaaRunB
namespace Go.Proofs.Ytoocmgefoagfnaa.keysGiven
open Go.ChangeShapes Go.WideShapes Go.ChangeAt Go.RowKit Go.Ab

set_option maxHeartbeats 8000000
set_option linter.unusedVariables false
set_option linter.unusedSimpArgs false
theorem own : ownKnob Try.prog.godebug = none := by kernel_rfl
attribute [local irreducible] callF cFun
theorem h_ext : ∀ call, CallOK Try.prog call → CallOK Try.prog (extB [] 15 call) := fun call h => extB_ok name_ok Try.func15 (by kernel_rfl) returns_works call h
theorem h_calls (W : World) (Bs : List Nat) (hB : Bs.Nodup) (hl : Bs.length ≤ 2) (args l : List Value) (hargs : args.map (alV Bs) = l) (h : (cFun Try.prog 600 11).run (callF Try.prog 600 (extB [] 15) 10) l (isTrue true) (stOf W Bs) = true) :
    Calls Try.prog 11 ⟨args⟩ W fun e' W' => e' = .returned (.bool true) ∧ Below W.heap.size W W' := by
  subst hargs
  exact calls_open (F := 600) (D := 10) (ext := extB [] 15) (f := 11) (args := args) (W := W) (Bs := Bs) draws name_ok h_ext hB (Nat.le_trans hl (Nat.le_of_ble_eq_true rfl)) h
theorem alV_sl {Bs : List Nat} {W : World} {sz : Nat} {R : List Value → List Value → Prop} {v : Value} {ys : List (List Value)} (h : SlW W sz R v ys) : alV Bs v = al1 Bs v := by
  rcases h with ⟨B, O, c, rfl, _⟩ | ⟨_, rfl | ⟨a, rfl⟩⟩ <;> rfl
set_option maxRecDepth 100000 in
theorem h_args (x0 : Nat) (hx0 : x0 < 256)  (W : World) (v0 v1 : Value) (ys0 ys1 : List (List Value)) (hv0 : SlW W 2 (RF [.i .u8, .i .u8]) v0 ys0) (hv1 : SlW W 1 (RF [.i .u8]) v1 ys1) (Bs : List Nat) : ([.agg ⟨[.int .u8 (Int.ofNat x0), v0]⟩, v1] : List Value).map (alV Bs) = [.agg ⟨[.int .u8 (Int.ofNat x0), (al1 Bs v0)]⟩, (al1 Bs v1)] := by
  simp only [List.map_cons, List.map_nil, alV_sl hv1]
  rfl
set_option maxRecDepth 100000 in
theorem h_run (x0 : Nat) (hx0 : x0 < 256)  (W : World) (v0 v1 : Value) (ys0 ys1 : List (List Value)) (hv0 : SlW W 2 (RF [.i .u8, .i .u8]) v0 ys0) (hv1 : SlW W 1 (RF [.i .u8]) v1 ys1) (Bs : List Nat) (hl : Bs.length ≤ 2) (hm : ∀ B, B ∈ blkOf v0 ++ blkOf v1 → B ∈ Bs) : (cFun Try.prog 600 11).run (callF Try.prog 600 (extB [] 15) 10) [.agg ⟨[.int .u8 (Int.ofNat x0), (al1 Bs v0)]⟩, (al1 Bs v1)] (isTrue true) (stOf W Bs) = true := by
  have hs : (stOf W Bs).nx + (1400000 + 100) ≤ maxB := by rw [stOf_nx]; exact Nat.le_trans (Nat.add_le_add_right hl _) (Nat.le_of_ble_eq_true rfl)
  obtain ⟨o0, o1, ho0, ho1, hf0⟩ := pairs_fn hv0
  obtain ⟨a0, c0, e0, hE0⟩ := named_flat (Bs := Bs) (Nat.le_trans hl (Nat.le_of_ble_eq_true rfl)) (l := [.i .u8, .i .u8]) (by decide) hv0 (fun B h => hm B (by simp [h])) (fun j => [.int .u8 (Int.ofNat (o0 j)), .int .u8 (Int.ofNat (o1 j))]) (fun _ => rfl) hf0 0
  obtain ⟨t1, ht1, hf1⟩ := bytes_fn hv1
  obtain ⟨a1, c1, e1, hE1⟩ := named_flat (Bs := Bs) (Nat.le_trans hl (Nat.le_of_ble_eq_true rfl)) (l := [.i .u8]) (by decide) hv1 (fun B h => hm B (by simp [h])) (fun j => [.int .u8 (Int.ofNat (t1 j))]) (fun _ => rfl) hf1 0
  rw [e0, e1]
  have e : dens [.agg [.int .u8 (Int.ofNat x0), .sl 1000 a0 ys0.length c0], .sl 1001 a1 ys1.length c1] = [.agg ⟨[.int .u8 (Int.ofNat x0), .slice a0 ys0.length c0]⟩, .slice a1 ys1.length c1] := rfl
  rw [← e]
  refine (l11 600 0 (by omega) x0 hx0 a0 ys0.length c0 o0 o1 ho0 ho1 a1 ys1.length c1 t1 ht1).runs (d := 10) rfl rfl hs (stOf_fl W Bs) (fun x hx => ?_) fun x hx b => ?_
  · skip
    rcases List.mem_cons.1 hx with rfl | hx
    · exact hE0
    rw [List.mem_singleton.1 hx]; exact hE1
  · skip
    rcases List.mem_cons.1 hx with rfl | hx
    · exact fun h => h
    rw [List.mem_singleton.1 hx]; exact fun h => h
set_option maxRecDepth 100000 in
theorem returns_law (x0 : Nat) (hx0 : x0 < 256)  (W : World) (v0 v1 : Value) (ys0 ys1 : List (List Value)) (hv0 : SlW W 2 (RF [.i .u8, .i .u8]) v0 ys0) (hv1 : SlW W 1 (RF [.i .u8]) v1 ys1) : Calls Try.prog 11 ⟨[.agg ⟨[.int .u8 (Int.ofNat x0), v0]⟩, v1]⟩ W fun e W' => e = .returned (.bool true) ∧ Below W.heap.size W W' := by
  have hd := dd_length (blkOf v0 ++ blkOf v1)
  have hmem : ∀ B, B ∈ blkOf v0 ++ blkOf v1 → B ∈ dd (blkOf v0 ++ blkOf v1) := fun B h => dd_mem.2 h
  have hnd := dd_nodup (blkOf v0 ++ blkOf v1)
  generalize dd (blkOf v0 ++ blkOf v1) = Bs at hd hmem hnd
  have bv0 := blkOf_len v0
  have bv1 := blkOf_len v1
  try simp only [List.length_append] at hd
  exact h_calls W Bs hnd (by omega) _ _ (h_args x0 hx0  W v0 v1 ys0 ys1 hv0 hv1 Bs) (h_run x0 hx0  W v0 v1 ys0 ys1 hv0 hv1 Bs (by omega) hmem)

set_option maxRecDepth 100000 in
theorem lifted (os : Os) (started : os.Started) (H : Type) (enc : TypeId × Value → H) :
    ReturnsInHanded {} Try.checked os 11 .any (Rows.keysGivenSpec.pre6 enc Try.prog Try.f11 Rows.keysGivenRow.domain false) (Rows.keysGivenSpec.post enc Try.prog Try.f11 false true false false) := by
  refine returnsInHanded_of_change (C := Try.checked) own started (by kernel_rfl) Try.func11
    (ChangeSpec.witness6 (enc := enc) (C := Try.checked) false ⟨#[], #[.agg #[.int .u8 0, .slice none 0 0], .slice none 0 0], []⟩ 8 (by kernel_rfl) (by kernel_rfl) (by kernel_rfl) (by kernel_rfl)) ?_
  intro W base args ds gs before hval0 hW hcnd _
  have hval : ∀ (j : Nat) t v, Try.f11.params[j]? = some t → args[j]? = some v → Value.okWide Try.prog W .any base t v := hval0
  have hW' := hW
  obtain ⟨p, q, hA0, hV, rfl, hfz, hnd⟩ := hW
  have hA : DataW.TrodAll enc Try.prog W 0 (fun _ => true) true Try.f11.params.toList args.toList ds p := hA0
  rw [Try.params11] at hA hval
  have hA1 := hA

  obtain ⟨w0, w1, d0, d1, p0, p1, rfl, rfl, rfl, r0, r1⟩ := trodAll_two hA
  obtain ⟨rfl, rfl⟩ := trodVars_none hV
  clear hA0 hval0
  simp only [List.append_nil] at hW'
  obtain ⟨⟨k0⟩, rfl, _⟩ := okWide_struct Try.underlying71 (hval 0 71 w0 rfl rfl)
  obtain ⟨u0, r0⟩ := r0
  have r0 : DataW.trod enc Try.prog W 0 (fun _ => true) true u0 71 k0 = some (d0, p0) := r0
  obtain ⟨xv, v0, q0, q1, g0, rfl, g1, g2⟩ := two_of Try.underlying71 (by kernel_rfl) rfl rfl (by kernel_rfl) (by kernel_rfl) r0
  obtain ⟨xi, ex, _, wx⟩ := DataW.trod_int Try.underlying5 g1
  injection ex with ex _; subst ex
  obtain ⟨x0, hxe, hx0⟩ := u8_nat ⟨xi, rfl, wx⟩
  injection hxe with _ hxe; subst hxe
  obtain ⟨v', ys0, hvv, hv0⟩ := flats_of (d := 30) (l := [.i .u8, .i .u8]) Try.underlying69 (by kernel_rfl) (by kernel_rfl) (by decide) g2
  injection hvv with hvv _; subst hvv
  obtain ⟨aa1, nn1, mm1, rfl⟩ := okWide_slice Try.underlying77 (hval 1 77 w1 rfl rfl)
  obtain ⟨u1, r1⟩ := r1
  have r1 : DataW.trod enc Try.prog W 0 (fun _ => true) true u1 77 [.slice aa1 nn1 mm1] = some (d1, p1) := r1
  obtain ⟨v1, ys1, hvv1, hv1⟩ := flats_of (d := 30) (l := [.i .u8]) Try.underlying77 (by kernel_rfl) (by kernel_rfl) (by decide) r1
  injection hvv1 with hvv1 _; subst hvv1
  refine (returns_law x0 hx0  W v0 _ ys0 ys1 hv0 hv1).mono fun e' W' ⟨he, hg⟩ => ?_
  subst he
  have hback := trodAll_below (by kernel_rfl) hg (by kernel_rfl) hA1 (fun x hx => hW'.lt x hx)
  exact ⟨_, rfl, [d0, d1], [], _, [], _, [], hW', (trodAll_cons_mk (shut_bool Try.underlying4 _) trodAll_mk0), hback, rfl, hg.frame _, fun h => by cases h⟩

theorem over : Rows.keysGivenRow.holds Try.pinned (OpenSpec.ofChange Rows.keysGivenSpec) :=
  OpenClaim.holds_of_wide 11 Try.f11 rfl rfl rfl rfl rfl rfl rfl ⟨rfl, rfl, rfl, rfl, rfl⟩ rfl rfl rfl rfl rfl (by kernel_rfl) Try.func11 (by kernel_rfl)
    (of_decide_eq_true (by kernel_rfl)) (by unfold Func.isWrapper; first | (rw [if_pos (by decide +kernel)]; kernel_rfl) | (rw [if_neg (by decide +kernel)]; exact ⟨rfl, rfl⟩))
    (fun os started H enc _ => lifted os started H enc)

/-- THE STATEMENT -/
theorem proved : Rows.KeysGivenSaid :=
  over
#print axioms proved
end Go.Proofs.Ytoocmgefoagfnaa.keysGiven
