/- CardFollowed returns true for all arguments, whatever the memory and the order in which operands come: an open run over what the arguments read as; works is answered by what is known of it. No condition. -/
import Derived.Test.YtogncjicndbahaaRows
import Derived.WalkKit
import Derived.ProofKit
import Derived.OpenShut
import Derived.Test.YtogncjicndbahaaEngSy
import Derived.Test.YtogncjicndbahaaCdZ
import Derived.Test.YtogncjicndbahaaRunB
namespace Go.Proofs.Ytogncjicndbahaa.cardFollowed
open Go.ChangeShapes Go.WideShapes Go.ChangeAt Go.RowKit Go.Ab

set_option maxHeartbeats 8000000
set_option linter.unusedVariables false
set_option linter.unusedSimpArgs false
theorem own : ownKnob Try.prog.godebug = none := by kernel_rfl
attribute [local irreducible] callF cFun
theorem h_ext : ∀ call, CallOK Try.prog call → CallOK Try.prog (extX lib0 15 call) := fun call h => extX_ok0 name_ok Try.func15 (by kernel_rfl) returns_works call h
theorem h_calls (W : World) (Bs : List Nat) (hB : Bs.Nodup) (hl : Bs.length ≤ 2) (args l : List Value) (hargs : args.map (alV Bs) = l) (h : (cFun Try.prog 1000 7).run (callF Try.prog 1000 (extX lib0 15) 8) l (isTrue true) (stOf W Bs) = true) :
    Calls Try.prog 7 ⟨args⟩ W fun e' W' => e' = .returned (.bool true) ∧ Below W.heap.size W W' := by
  subst hargs
  exact calls_open (F := 1000) (D := 8) (ext := extX lib0 15) (f := 7) (args := args) (W := W) (Bs := Bs) draws name_ok h_ext hB (Nat.le_trans hl (Nat.le_of_ble_eq_true rfl)) h
theorem alV_sl {Bs : List Nat} {W : World} {sz : Nat} {R : List Value → List Value → Prop} {v : Value} {ys : List (List Value)} (h : SlW W sz R v ys) : alV Bs v = al1 Bs v := by
  rcases h with ⟨B, O, c, rfl, _⟩ | ⟨_, rfl | ⟨a, rfl⟩⟩ <;> rfl
set_option maxRecDepth 100000 in
theorem h_args (w0 : Nat) (hw0 : w0 < 256) (w1 : Nat) (hw1 : w1 < 256) (y2 : Nat) (hy2 : y2 < 65536) (W : World) (v0 v1 : Value) (ys0 ys1 : List (List Value)) (hv0 : SlW W 2 (RF [.i .u16, .i .u16]) v0 ys0) (hv1 : SlW W 2 (RF [.i .u16, .i .u16]) v1 ys1) (Bs : List Nat) : ([.agg ⟨[v0, .int .u8 (Int.ofNat w0)]⟩, .agg ⟨[v1, .int .u8 (Int.ofNat w1)]⟩, .int .u16 (Int.ofNat y2)] : List Value).map (alV Bs) = [.agg ⟨[(al1 Bs v0), .int .u8 (Int.ofNat w0)]⟩, .agg ⟨[(al1 Bs v1), .int .u8 (Int.ofNat w1)]⟩, .int .u16 (Int.ofNat y2)] := by
  simp only [List.map_cons, List.map_nil]
  rfl
set_option maxRecDepth 100000 in
theorem h_run (w0 : Nat) (hw0 : w0 < 256) (w1 : Nat) (hw1 : w1 < 256) (y2 : Nat) (hy2 : y2 < 65536) (W : World) (v0 v1 : Value) (ys0 ys1 : List (List Value)) (hv0 : SlW W 2 (RF [.i .u16, .i .u16]) v0 ys0) (hv1 : SlW W 2 (RF [.i .u16, .i .u16]) v1 ys1) (Bs : List Nat) (hl : Bs.length ≤ 2) (hm : ∀ B, B ∈ blkOf v0 ++ blkOf v1 → B ∈ Bs) : (cFun Try.prog 1000 7).run (callF Try.prog 1000 (extX lib0 15) 8) [.agg ⟨[(al1 Bs v0), .int .u8 (Int.ofNat w0)]⟩, .agg ⟨[(al1 Bs v1), .int .u8 (Int.ofNat w1)]⟩, .int .u16 (Int.ofNat y2)] (isTrue true) (stOf W Bs) = true := by
  have hs : (stOf W Bs).nx + (100000000 + 900) ≤ maxB := by rw [stOf_nx]; exact Nat.le_trans (Nat.add_le_add_right hl _) (Nat.le_of_ble_eq_true rfl)
  obtain ⟨t0, u0, ht0, hu0, hf0⟩ := pairs16_fn hv0
  obtain ⟨a0, c0, e0, hE0⟩ := named_flat (Bs := Bs) (Nat.le_trans hl (Nat.le_of_ble_eq_true rfl)) (l := [.i .u16, .i .u16]) (by decide) hv0 (fun B h => hm B (by simp [h])) (fun j => [.int .u16 (Int.ofNat (t0 j)), .int .u16 (Int.ofNat (u0 j))]) (fun _ => rfl) hf0 0
  obtain ⟨t1, u1, ht1, hu1, hf1⟩ := pairs16_fn hv1
  obtain ⟨a1, c1, e1, hE1⟩ := named_flat (Bs := Bs) (Nat.le_trans hl (Nat.le_of_ble_eq_true rfl)) (l := [.i .u16, .i .u16]) (by decide) hv1 (fun B h => hm B (by simp [h])) (fun j => [.int .u16 (Int.ofNat (t1 j)), .int .u16 (Int.ofNat (u1 j))]) (fun _ => rfl) hf1 0
  rw [e0, e1]
  have e : dens [.agg [.sl 1000 a0 ys0.length c0, .int .u8 (Int.ofNat w0)], .agg [.sl 1001 a1 ys1.length c1, .int .u8 (Int.ofNat w1)], .int .u16 (Int.ofNat y2)] = [.agg ⟨[.slice a0 ys0.length c0, .int .u8 (Int.ofNat w0)]⟩, .agg ⟨[.slice a1 ys1.length c1, .int .u8 (Int.ofNat w1)]⟩, .int .u16 (Int.ofNat y2)] := rfl
  rw [← e]
  refine (l7 1000 0 (by omega) a0 ys0.length 0 c0 t0 u0 w0 ht0 hu0 hw0 a1 ys1.length 0 c1 t1 u1 w1 ht1 hu1 hw1 y2 hy2).runs (d := 8) rfl rfl hs (stOf_fl W Bs) (fun x hx => ?_) fun x hx b => ?_
  · skip
    rcases List.mem_cons.1 hx with rfl | hx
    · exact hE0
    rw [List.mem_singleton.1 hx]; exact hE1
  · skip
    rcases List.mem_cons.1 hx with rfl | hx
    · exact fun h => h
    rw [List.mem_singleton.1 hx]; exact fun h => h
set_option maxRecDepth 100000 in
theorem returns_law (w0 : Nat) (hw0 : w0 < 256) (w1 : Nat) (hw1 : w1 < 256) (y2 : Nat) (hy2 : y2 < 65536) (W : World) (v0 v1 : Value) (ys0 ys1 : List (List Value)) (hv0 : SlW W 2 (RF [.i .u16, .i .u16]) v0 ys0) (hv1 : SlW W 2 (RF [.i .u16, .i .u16]) v1 ys1) : Calls Try.prog 7 ⟨[.agg ⟨[v0, .int .u8 (Int.ofNat w0)]⟩, .agg ⟨[v1, .int .u8 (Int.ofNat w1)]⟩, .int .u16 (Int.ofNat y2)]⟩ W fun e W' => e = .returned (.bool true) ∧ Below W.heap.size W W' := by
  have hd := dd_length (blkOf v0 ++ blkOf v1)
  have hmem : ∀ B, B ∈ blkOf v0 ++ blkOf v1 → B ∈ dd (blkOf v0 ++ blkOf v1) := fun B h => dd_mem.2 h
  have hnd := dd_nodup (blkOf v0 ++ blkOf v1)
  generalize dd (blkOf v0 ++ blkOf v1) = Bs at hd hmem hnd
  have bv0 := blkOf_len v0
  have bv1 := blkOf_len v1
  try simp only [List.length_append] at hd
  exact h_calls W Bs hnd (by omega) _ _ (h_args w0 hw0 w1 hw1 y2 hy2 W v0 v1 ys0 ys1 hv0 hv1 Bs) (h_run w0 hw0 w1 hw1 y2 hy2 W v0 v1 ys0 ys1 hv0 hv1 Bs (by omega) hmem)

set_option maxRecDepth 100000 in
theorem lifted (os : Os) (started : os.Started) (H : Type) (enc : TypeId × Value → H) :
    ReturnsInHanded {} Try.checked os 7 .any (Rows.cardFollowedSpec.pre6 enc Try.prog Try.f7 Rows.cardFollowedRow.domain false) (Rows.cardFollowedSpec.post enc Try.prog Try.f7 false true false false) := by
  refine returnsInHanded_of_change (C := Try.checked) own started (by kernel_rfl) Try.func7
    (ChangeSpec.witness6 (enc := enc) (C := Try.checked) false ⟨#[], #[.agg #[.slice none 0 0, .int .u8 0], .agg #[.slice none 0 0, .int .u8 0], .int .u16 0], []⟩ 8 (by kernel_rfl) (by kernel_rfl) (by kernel_rfl) (by kernel_rfl)) ?_
  intro W base args ds gs before hval0 hW hcnd _
  have hval : ∀ (j : Nat) t v, Try.f7.params[j]? = some t → args[j]? = some v → Value.okWide Try.prog W .any base t v := hval0
  have hW' := hW
  obtain ⟨p, q, hA0, hV, rfl, hfz, hnd⟩ := hW
  have hA : DataW.TrodAll enc Try.prog W 0 (fun _ => true) true Try.f7.params.toList args.toList ds p := hA0
  rw [Try.params7] at hA hval
  have hA1 := hA

  obtain ⟨z0, z1, z2, d0, d1, d2, p0, p1, p2, rfl, rfl, rfl, r0, r1, r2⟩ := trodAll_three hA
  obtain ⟨rfl, rfl⟩ := trodVars_none hV
  clear hA0 hval0
  simp only [List.append_nil] at hW'
  obtain ⟨⟨k0⟩, rfl, _⟩ := okWide_struct Try.underlying24 (hval 0 24 z0 rfl rfl)
  obtain ⟨u0, r0⟩ := r0
  have r0 : DataW.trod enc Try.prog W 0 (fun _ => true) true u0 24 k0 = some (d0, p0) := r0
  obtain ⟨vv0, xv0, q0, q1, g0, rfl, g0, gg0⟩ := two_of Try.underlying24 (by kernel_rfl) rfl rfl (by kernel_rfl) (by kernel_rfl) r0
  obtain ⟨xi0, ex0, _, wx0⟩ := DataW.trod_int Try.underlying5 gg0
  injection ex0 with ex0 _; subst ex0
  obtain ⟨w0, hxe0, hw0⟩ := u8_nat ⟨xi0, rfl, wx0⟩
  injection hxe0 with _ hxe0; subst hxe0
  obtain ⟨v0, ys0, hvv0, hv0⟩ := flats_of (d := 30) (l := [.i .u16, .i .u16]) Try.underlying22 (by kernel_rfl) (by kernel_rfl) (by decide) g0
  injection hvv0 with hvv0 _; subst hvv0
  obtain ⟨⟨k1⟩, rfl, _⟩ := okWide_struct Try.underlying24 (hval 1 24 z1 rfl rfl)
  obtain ⟨u1, r1⟩ := r1
  have r1 : DataW.trod enc Try.prog W 0 (fun _ => true) true u1 24 k1 = some (d1, p1) := r1
  obtain ⟨vv1, xv1, q0, q1, g0, rfl, g1, gg1⟩ := two_of Try.underlying24 (by kernel_rfl) rfl rfl (by kernel_rfl) (by kernel_rfl) r1
  obtain ⟨xi1, ex1, _, wx1⟩ := DataW.trod_int Try.underlying5 gg1
  injection ex1 with ex1 _; subst ex1
  obtain ⟨w1, hxe1, hw1⟩ := u8_nat ⟨xi1, rfl, wx1⟩
  injection hxe1 with _ hxe1; subst hxe1
  obtain ⟨v1, ys1, hvv1, hv1⟩ := flats_of (d := 30) (l := [.i .u16, .i .u16]) Try.underlying22 (by kernel_rfl) (by kernel_rfl) (by decide) g1
  injection hvv1 with hvv1 _; subst hvv1
  have k2 := one_of (d := 30) (k := .i .u16) (by kernel_rfl) (by kernel_rfl) (hval 2 25 z2 rfl rfl) r2
  obtain ⟨y2, rfl, hy2⟩ := u16_nat k2
  refine (returns_law w0 hw0 w1 hw1 y2 hy2 W _ _ ys0 ys1 hv0 hv1).mono fun e' W' ⟨he, hg⟩ => ?_
  subst he
  have hback := trodAll_below (by kernel_rfl) hg (by kernel_rfl) hA1 (fun x hx => hW'.lt x hx)
  exact ⟨_, rfl, [d0, d1, d2], [], _, [], _, [], hW', (trodAll_cons_mk (shut_bool Try.underlying4 _) trodAll_mk0), hback, rfl, hg.frame _, fun h => by cases h⟩

theorem over : Rows.cardFollowedRow.holds Try.pinned (OpenSpec.ofChange Rows.cardFollowedSpec) :=
  OpenClaim.holds_of_wide 7 Try.f7 rfl rfl rfl rfl rfl rfl rfl ⟨rfl, rfl, rfl, rfl, rfl⟩ rfl rfl rfl rfl rfl (by kernel_rfl) Try.func7 (by kernel_rfl)
    (of_decide_eq_true (by kernel_rfl)) (by unfold Func.isWrapper; first | (rw [if_pos (by decide +kernel)]; kernel_rfl) | (rw [if_neg (by decide +kernel)]; exact ⟨rfl, rfl⟩))
    (fun os started H enc _ => lifted os started H enc)

/-- THE STATEMENT -/
theorem proved : Rows.CardFollowedSaid :=
  over
#print axioms proved
end Go.Proofs.Ytogncjicndbahaa.cardFollowed
