/- CardBack returns true for all arguments, whatever the memory and the order in which operands come: an open run over what the arguments read as; works is answered by what is known of it. No condition. -/
import Derived.Test.YtogncjicndbahaaRows
import Derived.WalkKit
import Derived.ProofKit
import Derived.OpenShut
import Derived.Test.YtogncjicndbahaaEngSy
import Derived.Test.YtogncjicndbahaaCeF
import Derived.Test.YtogncjicndbahaaRunB
namespace Go.Proofs.Ytogncjicndbahaa.cardBack
open Go.ChangeShapes Go.WideShapes Go.ChangeAt Go.RowKit Go.Ab

set_option maxHeartbeats 8000000
set_option linter.unusedVariables false
set_option linter.unusedSimpArgs false
theorem own : ownKnob Try.prog.godebug = none := by kernel_rfl
attribute [local irreducible] callF cFun
theorem h_ext : ∀ call, CallOK Try.prog call → CallOK Try.prog (extX lib0 15 call) := fun call h => extX_ok0 name_ok Try.func15 (by kernel_rfl) returns_works call h
theorem h_calls (W : World) (Bs : List Nat) (hB : Bs.Nodup) (hl : Bs.length ≤ 1) (args l : List Value) (hargs : args.map (alV Bs) = l) (h : (cFun Try.prog 1000 5).run (callF Try.prog 1000 (extX lib0 15) 10) l (isTrue true) (stOf W Bs) = true) :
    Calls Try.prog 5 ⟨args⟩ W fun e' W' => e' = .returned (.bool true) ∧ Below W.heap.size W W' := by
  subst hargs
  exact calls_open (F := 1000) (D := 10) (ext := extX lib0 15) (f := 5) (args := args) (W := W) (Bs := Bs) draws name_ok h_ext hB (Nat.le_trans hl (Nat.le_of_ble_eq_true rfl)) h
theorem alV_sl {Bs : List Nat} {W : World} {sz : Nat} {R : List Value → List Value → Prop} {v : Value} {ys : List (List Value)} (h : SlW W sz R v ys) : alV Bs v = al1 Bs v := by
  rcases h with ⟨B, O, c, rfl, _⟩ | ⟨_, rfl | ⟨a, rfl⟩⟩ <;> rfl
set_option maxRecDepth 100000 in
theorem h_args (w0 : Nat) (hw0 : w0 < 256) (y1_0 : Nat) (hy1_0 : y1_0 < 65536) (y1_1 : Nat) (hy1_1 : y1_1 < 65536) (W : World) (v0 : Value) (ys0 : List (List Value)) (hv0 : SlW W 2 (RF [.i .u16, .i .u16]) v0 ys0) (Bs : List Nat) : ([.agg ⟨[v0, .int .u8 (Int.ofNat w0)]⟩, .agg ⟨[.int .u16 (Int.ofNat y1_0), .int .u16 (Int.ofNat y1_1)]⟩] : List Value).map (alV Bs) = [.agg ⟨[(al1 Bs v0), .int .u8 (Int.ofNat w0)]⟩, .agg ⟨[.int .u16 (Int.ofNat y1_0), .int .u16 (Int.ofNat y1_1)]⟩] := by
  simp only [List.map_cons, List.map_nil]
  rfl
set_option maxRecDepth 100000 in
theorem h_run (w0 : Nat) (hw0 : w0 < 256) (y1_0 : Nat) (hy1_0 : y1_0 < 65536) (y1_1 : Nat) (hy1_1 : y1_1 < 65536) (W : World) (v0 : Value) (ys0 : List (List Value)) (hv0 : SlW W 2 (RF [.i .u16, .i .u16]) v0 ys0) (Bs : List Nat) (hl : Bs.length ≤ 1) (hm : ∀ B, B ∈ blkOf v0 → B ∈ Bs) : (cFun Try.prog 1000 5).run (callF Try.prog 1000 (extX lib0 15) 10) [.agg ⟨[(al1 Bs v0), .int .u8 (Int.ofNat w0)]⟩, .agg ⟨[.int .u16 (Int.ofNat y1_0), .int .u16 (Int.ofNat y1_1)]⟩] (isTrue true) (stOf W Bs) = true := by
  have hs : (stOf W Bs).nx + (100000000 + 900) ≤ maxB := by rw [stOf_nx]; exact Nat.le_trans (Nat.add_le_add_right hl _) (Nat.le_of_ble_eq_true rfl)
  obtain ⟨t0, u0, ht0, hu0, hf0⟩ := pairs16_fn hv0
  obtain ⟨a0, c0, e0, hE0⟩ := named_flat (Bs := Bs) (Nat.le_trans hl (Nat.le_of_ble_eq_true rfl)) (l := [.i .u16, .i .u16]) (by decide) hv0 (fun B h => hm B (by simp [h])) (fun j => [.int .u16 (Int.ofNat (t0 j)), .int .u16 (Int.ofNat (u0 j))]) (fun _ => rfl) hf0 0
  rw [e0]
  have e : dens [.agg [.sl 1000 a0 ys0.length c0, .int .u8 (Int.ofNat w0)], .agg [.int .u16 (Int.ofNat y1_0), .int .u16 (Int.ofNat y1_1)]] = [.agg ⟨[.slice a0 ys0.length c0, .int .u8 (Int.ofNat w0)]⟩, .agg ⟨[.int .u16 (Int.ofNat y1_0), .int .u16 (Int.ofNat y1_1)]⟩] := rfl
  rw [← e]
  refine (l5 1000 0 (by omega) a0 ys0.length 0 c0 t0 u0 w0 ht0 hu0 hw0 y1_0 y1_1 hy1_0 hy1_1).runs (d := 10) rfl rfl hs (stOf_fl W Bs) (fun x hx => ?_) fun x hx b => ?_
  · skip
    rw [List.mem_singleton.1 hx]; exact hE0
  · skip
    rw [List.mem_singleton.1 hx]; exact fun h => h
set_option maxRecDepth 100000 in
theorem returns_law (w0 : Nat) (hw0 : w0 < 256) (y1_0 : Nat) (hy1_0 : y1_0 < 65536) (y1_1 : Nat) (hy1_1 : y1_1 < 65536) (W : World) (v0 : Value) (ys0 : List (List Value)) (hv0 : SlW W 2 (RF [.i .u16, .i .u16]) v0 ys0) : Calls Try.prog 5 ⟨[.agg ⟨[v0, .int .u8 (Int.ofNat w0)]⟩, .agg ⟨[.int .u16 (Int.ofNat y1_0), .int .u16 (Int.ofNat y1_1)]⟩]⟩ W fun e W' => e = .returned (.bool true) ∧ Below W.heap.size W W' := by
  have hd := dd_length (blkOf v0)
  have hmem : ∀ B, B ∈ blkOf v0 → B ∈ dd (blkOf v0) := fun B h => dd_mem.2 h
  have hnd := dd_nodup (blkOf v0)
  generalize dd (blkOf v0) = Bs at hd hmem hnd
  have bv0 := blkOf_len v0
  try simp only [List.length_append] at hd
  exact h_calls W Bs hnd (by omega) _ _ (h_args w0 hw0 y1_0 hy1_0 y1_1 hy1_1 W v0 ys0 hv0 Bs) (h_run w0 hw0 y1_0 hy1_0 y1_1 hy1_1 W v0 ys0 hv0 Bs (by omega) hmem)

set_option maxRecDepth 100000 in
theorem lifted (os : Os) (started : os.Started) (H : Type) (enc : TypeId × Value → H) :
    ReturnsInHanded {} Try.checked os 5 .any (Rows.cardBackSpec.pre6 enc Try.prog Try.f5 Rows.cardBackRow.domain false) (Rows.cardBackSpec.post enc Try.prog Try.f5 false true false false) := by
  refine returnsInHanded_of_change (C := Try.checked) own started (by kernel_rfl) Try.func5
    (ChangeSpec.witness6 (enc := enc) (C := Try.checked) false ⟨#[], #[.agg #[.slice none 0 0, .int .u8 0], .agg #[.int .u16 0, .int .u16 0]], []⟩ 8 (by kernel_rfl) (by kernel_rfl) (by kernel_rfl) (by kernel_rfl)) ?_
  intro W base args ds gs before hval0 hW hcnd _
  have hval : ∀ (j : Nat) t v, Try.f5.params[j]? = some t → args[j]? = some v → Value.okWide Try.prog W .any base t v := hval0
  have hW' := hW
  obtain ⟨p, q, hA0, hV, rfl, hfz, hnd⟩ := hW
  have hA : DataW.TrodAll enc Try.prog W 0 (fun _ => true) true Try.f5.params.toList args.toList ds p := hA0
  rw [Try.params5] at hA hval
  have hA1 := hA

  obtain ⟨z0, z1, d0, d1, p0, p1, rfl, rfl, rfl, r0, r1⟩ := trodAll_two hA
  obtain ⟨rfl, rfl⟩ := trodVars_none hV
  clear hA0 hval0
  simp only [List.append_nil] at hW'
  obtain ⟨⟨k0⟩, rfl, _⟩ := okWide_struct Try.underlying24 (hval 0 24 z0 rfl rfl)
  obtain ⟨u0, r0⟩ := r0
  have r0 : DataW.trod enc Try.prog W 0 (fun _ => true) true u0 24 k0 = some (d0, p0) := r0
  obtain ⟨vv0, xv0, q0, q1, g0, rfl, g0, gg0⟩ := two_of Try.underlying24 (by kernel_rfl) rfl rfl (by kernel_rfl) (by kernel_rfl) r0
  obtain ⟨xi0, ex0, _, wx0⟩ := DataW.trod_int Try.underlying5 gg0
  injection ex0 with ex0 _; subst ex0
  obtain ⟨w0, hxe0, hw0⟩ := u8_nat ⟨xi0, rfl, wx0⟩
  injection hxe0 with _ hxe0; subst hxe0
  obtain ⟨v0, ys0, hvv0, hv0⟩ := flats_of (d := 30) (l := [.i .u16, .i .u16]) Try.underlying22 (by kernel_rfl) (by kernel_rfl) (by decide) g0
  injection hvv0 with hvv0 _; subst hvv0
  obtain ⟨cs1, rfl, k1⟩ := agg_of (d := 30) (l := [.i .u16, .i .u16]) (by kernel_rfl) (by kernel_rfl) (by kernel_rfl) (hval 1 47 z1 rfl rfl) r1
  obtain ⟨_, _, rfl, ky1_0, ke1_0⟩ := k1
  obtain ⟨_, _, rfl, ky1_1, ke1_1⟩ := ke1_0
  have ke1 : _ = [] := ke1_1
  subst ke1
  obtain ⟨y1_0, rfl, hy1_0⟩ := u16_nat ky1_0
  obtain ⟨y1_1, rfl, hy1_1⟩ := u16_nat ky1_1
  refine (returns_law w0 hw0 y1_0 hy1_0 y1_1 hy1_1 W _ ys0 hv0).mono fun e' W' ⟨he, hg⟩ => ?_
  subst he
  have hback := trodAll_below (by kernel_rfl) hg (by kernel_rfl) hA1 (fun x hx => hW'.lt x hx)
  exact ⟨_, rfl, [d0, d1], [], _, [], _, [], hW', (trodAll_cons_mk (shut_bool Try.underlying4 _) trodAll_mk0), hback, rfl, hg.frame _, fun h => by cases h⟩

theorem over : Rows.cardBackRow.holds Try.pinned (OpenSpec.ofChange Rows.cardBackSpec) :=
  OpenClaim.holds_of_wide 5 Try.f5 rfl rfl rfl rfl rfl rfl rfl ⟨rfl, rfl, rfl, rfl, rfl⟩ rfl rfl rfl rfl rfl (by kernel_rfl) Try.func5 (by kernel_rfl)
    (of_decide_eq_true (by kernel_rfl)) (by unfold Func.isWrapper; first | (rw [if_pos (by decide +kernel)]; kernel_rfl) | (rw [if_neg (by decide +kernel)]; exact ⟨rfl, rfl⟩))
    (fun os started H enc _ => lifted os started H enc)

/-- THE STATEMENT -/
theorem proved : Rows.CardBackSaid :=
  over
#print axioms proved
end Go.Proofs.Ytogncjicndbahaa.cardBack
