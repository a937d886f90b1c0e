/- KeysProved returns true for all arguments, whatever the memory and the order in which operands come: an open run over what the slices read as; works is answered by what is known of it. No condition. -/
import Derived.Test.YtoocmgefoagfnaaRows
import Derived.WalkKit
import Derived.ProofKit
import Derived.OpenShut
import Derived.Test.YtoocmgefoagfnaaEngSy
import Derived.Test.YtoocmgefoagfnaaKyYKeysProved
import Derived.Test.YtoocmgefoagfnaaRunB
namespace Go.Proofs.Ytoocmgefoagfnaa.keysProved
open Go.ChangeShapes Go.WideShapes Go.ChangeAt Go.RowKit Go.Ab

set_option maxHeartbeats 8000000
set_option linter.unusedVariables false
set_option linter.unusedSimpArgs false
theorem own : ownKnob Try.prog.godebug = none := by kernel_rfl
attribute [local irreducible] callF cFun
theorem h_ext : ∀ call, CallOK Try.prog call → CallOK Try.prog (extB [] 15 call) := fun call h => extB_ok name_ok Try.func15 (by kernel_rfl) returns_works call h
theorem h_calls (W : World) (Bs : List Nat) (hB : Bs.Nodup) (hl : Bs.length ≤ 3) (args l : List Value) (hargs : args.map (alV Bs) = l) (h : (cFun Try.prog 500 8).run (callF Try.prog 500 (extB [] 15) 6) l (isTrue true) (stOf W Bs) = true) :
    Calls Try.prog 8 ⟨args⟩ W fun e' W' => e' = .returned (.bool true) ∧ Below W.heap.size W W' := by
  subst hargs
  exact calls_open (F := 500) (D := 6) (ext := extB [] 15) (f := 8) (args := args) (W := W) (Bs := Bs) draws name_ok h_ext hB (Nat.le_trans hl (Nat.le_of_ble_eq_true rfl)) h
theorem alV_sl {Bs : List Nat} {W : World} {sz : Nat} {R : List Value → List Value → Prop} {v : Value} {ys : List (List Value)} (h : SlW W sz R v ys) : alV Bs v = al1 Bs v := by
  rcases h with ⟨B, O, c, rfl, _⟩ | ⟨_, rfl | ⟨a, rfl⟩⟩ <;> rfl
set_option maxRecDepth 100000 in
theorem h_args (x0 : Nat) (hx0 : x0 < 256)  (W : World) (v0 v1 v2 : Value) (ys0 ys1 ys2 : List (List Value)) (hv0 : SlW W 2 (RF [.i .u8, .i .u8]) v0 ys0) (hv1 : SlW W 1 (RF [.i .u8]) v1 ys1) (hv2 : SlW W 1 (RF [.i .u8]) v2 ys2) (Bs : List Nat) : ([.agg ⟨[.int .u8 (Int.ofNat x0), v0]⟩, v1, v2] : List Value).map (alV Bs) = [.agg ⟨[.int .u8 (Int.ofNat x0), (al1 Bs v0)]⟩, (al1 Bs v1), (al1 Bs v2)] := by
  simp only [List.map_cons, List.map_nil, alV_sl hv1, alV_sl hv2]
  rfl
set_option maxRecDepth 100000 in
theorem h_run (x0 : Nat) (hx0 : x0 < 256)  (W : World) (v0 v1 v2 : Value) (ys0 ys1 ys2 : List (List Value)) (hv0 : SlW W 2 (RF [.i .u8, .i .u8]) v0 ys0) (hv1 : SlW W 1 (RF [.i .u8]) v1 ys1) (hv2 : SlW W 1 (RF [.i .u8]) v2 ys2) (Bs : List Nat) (hl : Bs.length ≤ 3) (hm : ∀ B, B ∈ blkOf v0 ++ blkOf v1 ++ blkOf v2 → B ∈ Bs) : (cFun Try.prog 500 8).run (callF Try.prog 500 (extB [] 15) 6) [.agg ⟨[.int .u8 (Int.ofNat x0), (al1 Bs v0)]⟩, (al1 Bs v1), (al1 Bs v2)] (isTrue true) (stOf W Bs) = true := by
  have hs : (stOf W Bs).nx + (400000 + 100) ≤ maxB := by rw [stOf_nx]; exact Nat.le_trans (Nat.add_le_add_right hl _) (Nat.le_of_ble_eq_true rfl)
  obtain ⟨o0, o1, ho0, ho1, hf0⟩ := pairs_fn hv0
  obtain ⟨a0, c0, e0, hE0⟩ := named_flat (Bs := Bs) (Nat.le_trans hl (Nat.le_of_ble_eq_true rfl)) (l := [.i .u8, .i .u8]) (by decide) hv0 (fun B h => hm B (by simp [h])) (fun j => [.int .u8 (Int.ofNat (o0 j)), .int .u8 (Int.ofNat (o1 j))]) (fun _ => rfl) hf0 0
  obtain ⟨t1, ht1, hf1⟩ := bytes_fn hv1
  obtain ⟨a1, c1, e1, hE1⟩ := named_flat (Bs := Bs) (Nat.le_trans hl (Nat.le_of_ble_eq_true rfl)) (l := [.i .u8]) (by decide) hv1 (fun B h => hm B (by simp [h])) (fun j => [.int .u8 (Int.ofNat (t1 j))]) (fun _ => rfl) hf1 0
  obtain ⟨t2, ht2, hf2⟩ := bytes_fn hv2
  obtain ⟨a2, c2, e2, hE2⟩ := named_flat (Bs := Bs) (Nat.le_trans hl (Nat.le_of_ble_eq_true rfl)) (l := [.i .u8]) (by decide) hv2 (fun B h => hm B (by simp [h])) (fun j => [.int .u8 (Int.ofNat (t2 j))]) (fun _ => rfl) hf2 0
  rw [e0, e1, e2]
  have e : dens [.agg [.int .u8 (Int.ofNat x0), .sl 1000 a0 ys0.length c0], .sl 1001 a1 ys1.length c1, .sl 1002 a2 ys2.length c2] = [.agg ⟨[.int .u8 (Int.ofNat x0), .slice a0 ys0.length c0]⟩, .slice a1 ys1.length c1, .slice a2 ys2.length c2] := rfl
  rw [← e]
  refine (l8 500 0 (by omega) x0 hx0 a0 ys0.length c0 o0 o1 ho0 ho1 a1 ys1.length c1 t1 ht1 a2 ys2.length c2 t2 ht2).runs (d := 6) rfl rfl hs (stOf_fl W Bs) (fun x hx => ?_) fun x hx b => ?_
  · skip
    rcases List.mem_cons.1 hx with rfl | hx
    · exact hE0
    rcases List.mem_cons.1 hx with rfl | hx
    · exact hE1
    rw [List.mem_singleton.1 hx]; exact hE2
  · skip
    rcases List.mem_cons.1 hx with rfl | hx
    · exact fun h => h
    rcases List.mem_cons.1 hx with rfl | hx
    · exact fun h => h
    rw [List.mem_singleton.1 hx]; exact fun h => h
set_option maxRecDepth 100000 in
theorem returns_law (x0 : Nat) (hx0 : x0 < 256)  (W : World) (v0 v1 v2 : Value) (ys0 ys1 ys2 : List (List Value)) (hv0 : SlW W 2 (RF [.i .u8, .i .u8]) v0 ys0) (hv1 : SlW W 1 (RF [.i .u8]) v1 ys1) (hv2 : SlW W 1 (RF [.i .u8]) v2 ys2) : Calls Try.prog 8 ⟨[.agg ⟨[.int .u8 (Int.ofNat x0), v0]⟩, v1, v2]⟩ W fun e W' => e = .returned (.bool true) ∧ Below W.heap.size W W' := by
  have hd := dd_length (blkOf v0 ++ blkOf v1 ++ blkOf v2)
  have hmem : ∀ B, B ∈ blkOf v0 ++ blkOf v1 ++ blkOf v2 → B ∈ dd (blkOf v0 ++ blkOf v1 ++ blkOf v2) := fun B h => dd_mem.2 h
  have hnd := dd_nodup (blkOf v0 ++ blkOf v1 ++ blkOf v2)
  generalize dd (blkOf v0 ++ blkOf v1 ++ blkOf v2) = Bs at hd hmem hnd
  have bv0 := blkOf_len v0
  have bv1 := blkOf_len v1
  have bv2 := blkOf_len v2
  simp only [List.length_append] at hd
  exact h_calls W Bs hnd (by omega) _ _ (h_args x0 hx0  W v0 v1 v2 ys0 ys1 ys2 hv0 hv1 hv2 Bs) (h_run x0 hx0  W v0 v1 v2 ys0 ys1 ys2 hv0 hv1 hv2 Bs (by omega) hmem)

set_option maxRecDepth 100000 in
theorem lifted (os : Os) (started : os.Started) (H : Type) (enc : TypeId × Value → H) :
    ReturnsInHanded {} Try.checked os 8 .any (Rows.keysProvedSpec.pre6 enc Try.prog Try.f8 Rows.keysProvedRow.domain false) (Rows.keysProvedSpec.post enc Try.prog Try.f8 false true false false) := by
  refine returnsInHanded_of_change (C := Try.checked) own started (by kernel_rfl) Try.func8
    (ChangeSpec.witness6 (enc := enc) (C := Try.checked) false ⟨#[], #[.agg #[.int .u8 0, .slice none 0 0], .slice none 0 0, .slice none 0 0], []⟩ 8 (by kernel_rfl) (by kernel_rfl) (by kernel_rfl) (by kernel_rfl)) ?_
  intro W base args ds gs before hval0 hW hcnd _
  have hval : ∀ (j : Nat) t v, Try.f8.params[j]? = some t → args[j]? = some v → Value.okWide Try.prog W .any base t v := hval0
  have hW' := hW
  obtain ⟨p, q, hA0, hV, rfl, hfz, hnd⟩ := hW
  have hA : DataW.TrodAll enc Try.prog W 0 (fun _ => true) true Try.f8.params.toList args.toList ds p := hA0
  rw [Try.params8] at hA hval
  have hA1 := hA

  obtain ⟨w0, w1, w2, d0, d1, d2, p0, p1, p2, rfl, rfl, rfl, r0, r1, r2⟩ := trodAll_three hA
  obtain ⟨rfl, rfl⟩ := trodVars_none hV
  clear hA0 hval0
  simp only [List.append_nil] at hW'
  obtain ⟨⟨k0⟩, rfl, _⟩ := okWide_struct Try.underlying71 (hval 0 71 w0 rfl rfl)
  obtain ⟨u0, r0⟩ := r0
  have r0 : DataW.trod enc Try.prog W 0 (fun _ => true) true u0 71 k0 = some (d0, p0) := r0
  obtain ⟨xv, v0, q0, q1, g0, rfl, g1, g2⟩ := two_of Try.underlying71 (by kernel_rfl) rfl rfl (by kernel_rfl) (by kernel_rfl) r0
  obtain ⟨xi, ex, _, wx⟩ := DataW.trod_int Try.underlying5 g1
  injection ex with ex _; subst ex
  obtain ⟨x0, hxe, hx0⟩ := u8_nat ⟨xi, rfl, wx⟩
  injection hxe with _ hxe; subst hxe
  obtain ⟨v', ys0, hvv, hv0⟩ := flats_of (d := 30) (l := [.i .u8, .i .u8]) Try.underlying69 (by kernel_rfl) (by kernel_rfl) (by decide) g2
  injection hvv with hvv _; subst hvv
  obtain ⟨aa1, nn1, mm1, rfl⟩ := okWide_slice Try.underlying77 (hval 1 77 w1 rfl rfl)
  obtain ⟨u1, r1⟩ := r1
  have r1 : DataW.trod enc Try.prog W 0 (fun _ => true) true u1 77 [.slice aa1 nn1 mm1] = some (d1, p1) := r1
  obtain ⟨v1, ys1, hvv1, hv1⟩ := flats_of (d := 30) (l := [.i .u8]) Try.underlying77 (by kernel_rfl) (by kernel_rfl) (by decide) r1
  injection hvv1 with hvv1 _; subst hvv1
  obtain ⟨aa2, nn2, mm2, rfl⟩ := okWide_slice Try.underlying77 (hval 2 77 w2 rfl rfl)
  obtain ⟨u2, r2⟩ := r2
  have r2 : DataW.trod enc Try.prog W 0 (fun _ => true) true u2 77 [.slice aa2 nn2 mm2] = some (d2, p2) := r2
  obtain ⟨v2, ys2, hvv2, hv2⟩ := flats_of (d := 30) (l := [.i .u8]) Try.underlying77 (by kernel_rfl) (by kernel_rfl) (by decide) r2
  injection hvv2 with hvv2 _; subst hvv2
  refine (returns_law x0 hx0  W v0 _ _ ys0 ys1 ys2 hv0 hv1 hv2).mono fun e' W' ⟨he, hg⟩ => ?_
  subst he
  have hback := trodAll_below (by kernel_rfl) hg (by kernel_rfl) hA1 (fun x hx => hW'.lt x hx)
  exact ⟨_, rfl, [d0, d1, d2], [], _, [], _, [], hW', (trodAll_cons_mk (shut_bool Try.underlying4 _) trodAll_mk0), hback, rfl, hg.frame _, fun h => by cases h⟩

theorem over : Rows.keysProvedRow.holds Try.pinned (OpenSpec.ofChange Rows.keysProvedSpec) :=
  OpenClaim.holds_of_wide 8 Try.f8 rfl rfl rfl rfl rfl rfl rfl ⟨rfl, rfl, rfl, rfl, rfl⟩ rfl rfl rfl rfl rfl (by kernel_rfl) Try.func8 (by kernel_rfl)
    (of_decide_eq_true (by kernel_rfl)) (by unfold Func.isWrapper; first | (rw [if_pos (by decide +kernel)]; kernel_rfl) | (rw [if_neg (by decide +kernel)]; exact ⟨rfl, rfl⟩))
    (fun os started H enc _ => lifted os started H enc)

/-- THE STATEMENT -/
theorem proved : Rows.KeysProvedSaid :=
  over
#print axioms proved
end Go.Proofs.Ytoocmgefoagfnaa.keysProved
