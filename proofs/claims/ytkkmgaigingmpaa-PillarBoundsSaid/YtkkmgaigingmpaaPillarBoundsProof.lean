/- PillarBounds returns true for every plan, readings and weights, whatever the memory and the order in which operands come: open runs of the program and of the reference, function by function, over what the arguments read as. No condition. -/
import Derived.Test.YtkkmgaigingmpaaRows
import Derived.WalkKit
import Derived.ProofKit
import Derived.OpenShut
import Derived.Test.YtkkmgaigingmpaaOpenN
import Derived.Test.YtkkmgaigingmpaaEngQe
import Derived.Test.YtkkmgaigingmpaaRunB
namespace Go.Proofs.Ytkkmgaigingmpaa.pillarBounds
open Go.ChangeShapes Go.WideShapes Go.ChangeAt Go.RowKit Go.Ab

theorem own : ownKnob Try.prog.godebug = none := by kernel_rfl
attribute [local irreducible] callF cFun
theorem h_ext : ∀ call, CallOK Try.prog call → CallOK Try.prog (extK 16 true call) := fun call h => extK_ok name_ok Try.func16 (by kernel_rfl) returns_works call h
theorem h_calls (W : World) (Bs : List Nat) (hB : Bs.Nodup) (hl : Bs.length ≤ 262144) (F : Nat) (args l : List Value) (hargs : args.map (alV Bs) = l) (h : (cFun Try.prog F 4).run (CL F (0 + 4)) l (isTrue true) (stOf W Bs) = true) :
    Calls Try.prog 4 ⟨args⟩ W fun e' W' => e' = .returned (.bool true) ∧ Below W.heap.size W W' := by
  subst hargs
  exact calls_open (F := F) (D := 0 + 4) (ext := extK 16 true) (f := 4) (args := args) (W := W) (Bs := Bs) draws name_ok h_ext hB hl h
theorem returns_bounds (W : World) (e u : Int) (v vs vo : Value) (l : List (Value × List Int)) (ss : List (Int × Int)) (ws : List Int) (hv : SlW W 1 (W1 W) v l) (hs : SlW W 2 Go.Ab.R2 vs ss) (ho : SlW W 1 R1 vo ws) (hm : l.length ≤ 9223372036854775807) :
    Calls Try.prog 4 #[.agg ⟨[.int .i64 e, v]⟩, vs, .agg ⟨[.int .i64 u, vo]⟩] W fun e' W' => e' = .returned (.bool true) ∧ Below W.heap.size W W' := by
  have hargs : ∀ Bs, ([.agg ⟨[.int .i64 e, v]⟩, vs, .agg ⟨[.int .i64 u, vo]⟩] : List Value).map (alV Bs) = [.agg ⟨[.int .i64 e, al1 Bs v]⟩, al1 Bs vs, .agg ⟨[.int .i64 u, al1 Bs vo]⟩] := fun Bs => by
    simp only [List.map_cons, List.map_nil, alV_slice hs]; rfl
  have bv := blkOf_len v
  have bs := blkOf_len vs
  have bo := blkOf_len vo
  by_cases h30 : l.length ≤ 30
  · have hbl := flat_blk_len (fun p : Value × List Int => p.1) l
    have hd := dd_length (blkOf v ++ (l.flatMap fun p => blkOf p.1) ++ blkOf vs ++ blkOf vo)
    have hmem : ∀ B, B ∈ blkOf v ++ (l.flatMap fun p => blkOf p.1) ++ blkOf vs ++ blkOf vo → B ∈ dd (blkOf v ++ (l.flatMap fun p => blkOf p.1) ++ blkOf vs ++ blkOf vo) := fun B h => dd_mem.2 h
    have hnd := dd_nodup (blkOf v ++ (l.flatMap fun p => blkOf p.1) ++ blkOf vs ++ blkOf vo)
    generalize dd (blkOf v ++ (l.flatMap fun p => blkOf p.1) ++ blkOf vs ++ blkOf vo) = Bs at hd hmem hnd
    simp only [List.length_append] at hd
    have hl : Bs.length ≤ 262144 := by omega
    have hnx : (stOf W Bs).nx + 60000 < 262144 := by rw [stOf_nx]; omega
    have r1 := named_rows hl hv (fun B h => hmem B (by simp [h])) (fun p hp B h => hmem B (by
      simp only [List.mem_append, List.mem_flatMap]
      exact .inl (.inl (.inr ⟨p, hp, h⟩))))
    have r2 := named_pairs hl hs (fun B h => hmem B (by simp [h]))
    have r3 := named_ints hl ho (fun B h => hmem B (by simp [h]))
    refine h_calls W Bs hnd hl (l.length + ss.length + ws.length + 1000) _ _ (hargs Bs) ?_
    have h4 := bounds4 (l.length + ss.length + ws.length + 1000) 0 (stOf W Bs) hnx e (al1 Bs v) (l.map (·.2)) r1 (by rw [List.length_map]; exact h30) (by rw [List.length_map]; omega) (al1 Bs vs) ss r2 (by omega) u (al1 Bs vo) ws r3 (by omega)
    unfold Sat at h4
    exact h4 (isTrue true) true (fun v _ h => by rw [h]; rfl)
  · have hd := dd_length (blkOf v ++ blkOf vs ++ blkOf vo)
    have hmem : ∀ B, B ∈ blkOf v ++ blkOf vs ++ blkOf vo → B ∈ dd (blkOf v ++ blkOf vs ++ blkOf vo) := fun B h => dd_mem.2 h
    have hnd := dd_nodup (blkOf v ++ blkOf vs ++ blkOf vo)
    generalize dd (blkOf v ++ blkOf vs ++ blkOf vo) = Bs at hd hmem hnd
    simp only [List.length_append] at hd
    have hl : Bs.length ≤ 262144 := by omega
    have hnx : (stOf W Bs).nx + 60000 < 262144 := by rw [stOf_nx]; omega
    have r1 := named_len hv (Bs := Bs) (fun B h => hmem B (by simp [h]))
    refine h_calls W Bs hnd hl (l.length + 1000) _ _ (hargs Bs) ?_
    have h4 := boundsBig (l.length + 1000) 0 (stOf W Bs) hnx e (al1 Bs v) l.length r1 (by omega) (by omega) hm (al1 Bs vs) (al1 Bs vo) u
    unfold Sat at h4
    exact h4 (isTrue true) true (fun v _ h => by rw [h]; rfl)

set_option maxRecDepth 100000 in
theorem lifted (os : Os) (started : os.Started) (H : Type) (enc : TypeId × Value → H) :
    ReturnsInHanded {} Try.checked os 4 .any (Rows.pillarBoundsSpec.pre6 enc Try.prog Try.f4 Rows.pillarBoundsRow.domain false) (Rows.pillarBoundsSpec.post enc Try.prog Try.f4 false true false false) := by
  refine returnsInHanded_of_change (C := Try.checked) own started (by kernel_rfl) Try.func4
    (ChangeSpec.witness6 (enc := enc) (C := Try.checked) false ⟨#[], #[.agg #[.int .i64 0, .slice none 0 0], .slice none 0 0, .agg #[.int .i64 0, .slice none 0 0]], []⟩ 8 (by kernel_rfl) (by kernel_rfl) (by kernel_rfl) (by kernel_rfl)) ?_
  intro W base args ds gs before hval0 hW hcnd _
  have hval : ∀ (j : Nat) t v, Try.f4.params[j]? = some t → args[j]? = some v → Value.okWide Try.prog W .any base t v := hval0
  have hW' := hW
  obtain ⟨p, q, hA0, hV, rfl, hfz, hnd⟩ := hW
  have hA : DataW.TrodAll enc Try.prog W 0 (fun _ => true) true Try.f4.params.toList args.toList ds p := hA0
  rw [Try.params4] at hA hval
  have hA1 := hA
  obtain ⟨v0, v1, v2, d0, d1, d2, p0, p1, p2, rfl, rfl, rfl, h0, h1, h2⟩ := trodAll_three hA
  obtain ⟨rfl, rfl⟩ := trodVars_none hV
  clear hA0 hval0
  simp only [List.append_nil] at hW'
  obtain ⟨⟨c0⟩, rfl, _⟩ := okWide_struct Try.underlying24 (hval 0 24 v0 rfl rfl)
  obtain ⟨a1, n1, m1, rfl⟩ := okWide_slice Try.underlying46 (hval 1 46 v1 rfl rfl)
  obtain ⟨⟨c2⟩, rfl, _⟩ := okWide_struct Try.underlying31 (hval 2 31 v2 rfl rfl)
  obtain ⟨f0, h0⟩ := h0
  obtain ⟨f1, h1⟩ := h1
  obtain ⟨f2, h2⟩ := h2
  have h0 : DataW.trod enc Try.prog W 0 (fun _ => true) true f0 24 c0 = some (d0, p0) := h0
  have h1 : DataW.trod enc Try.prog W 0 (fun _ => true) true f1 46 [.slice a1 n1 m1] = some (d1, p1) := h1
  have h2 : DataW.trod enc Try.prog W 0 (fun _ => true) true f2 31 c2 = some (d2, p2) := h2
  have i3 : Try.prog.cellsOf 3 = 1 := by kernel_rfl
  have i22 : Try.prog.cellsOf 22 = 1 := by kernel_rfl
  have i25 : Try.prog.cellsOf 25 = 1 := by kernel_rfl
  obtain ⟨x0, v, y0, y1, g0, rfl, e0, e1⟩ := two_of Try.underlying24 (by kernel_rfl) rfl rfl i3 i22 h0
  obtain ⟨e, ex, _⟩ := DataW.trod_int Try.underlying3 e0
  injection ex with ex _; subst ex
  obtain ⟨v', l, hvv, hv⟩ := rows_of Try.underlying22 Try.underlying25 Try.underlying3 i3 i25 e1
  injection hvv with hvv _; subst hvv
  have hm := len_of Try.underlying22 e1 hv
  obtain ⟨vs', ss, hss, hs⟩ := pairs_of Try.underlying46 Try.underlying77 (by kernel_rfl) rfl rfl i3 i3 Try.underlying3 Try.underlying3 h1
  injection hss with hss _; subst hss
  obtain ⟨x2, vo, z0, z1, g2, rfl, e2, e3⟩ := two_of Try.underlying31 (by kernel_rfl) rfl rfl i3 i25 h2
  obtain ⟨u, eu, _⟩ := DataW.trod_int Try.underlying3 e2
  injection eu with eu _; subst eu
  obtain ⟨vo', ws, hoo, ho⟩ := ints_of Try.underlying25 Try.underlying3 i3 e3
  injection hoo with hoo _; subst hoo
  refine (returns_bounds W e u v _ vo l ss ws hv hs ho hm).mono fun e' W' ⟨he, hg⟩ => ?_
  subst he
  have hback := trodAll_below (by kernel_rfl) hg (by kernel_rfl) hA1 (fun x hx => hW'.lt x hx)
  exact ⟨_, rfl, [d0, d1, d2], [], _, [], _, [], hW', (trodAll_cons_mk (shut_bool Try.underlying4 _) trodAll_mk0), hback, rfl, hg.frame _, fun h => by cases h⟩

theorem over : Rows.pillarBoundsRow.holds Try.pinned (OpenSpec.ofChange Rows.pillarBoundsSpec) :=
  OpenClaim.holds_of_wide 4 Try.f4 rfl rfl rfl rfl rfl rfl rfl ⟨rfl, rfl, rfl, rfl, rfl⟩ rfl rfl rfl rfl rfl (by kernel_rfl) Try.func4 (by kernel_rfl)
    (of_decide_eq_true (by kernel_rfl)) (by unfold Func.isWrapper; first | (rw [if_pos (by decide +kernel)]; kernel_rfl) | (rw [if_neg (by decide +kernel)]; exact ⟨rfl, rfl⟩))
    (fun os started H enc _ => lifted os started H enc)

/-- THE STATEMENT -/
theorem proved : Rows.PillarBoundsSaid :=
  over
#print axioms proved
end Go.Proofs.Ytkkmgaigingmpaa.pillarBounds
