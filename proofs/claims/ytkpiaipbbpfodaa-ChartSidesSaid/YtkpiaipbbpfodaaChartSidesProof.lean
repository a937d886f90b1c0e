/- ChartSides returns true for all stations, whatever the memory and the order in which operands come: an open run; works is answered by what is known of it. No condition. -/
import Derived.Test.YtkpiaipbbpfodaaRows
import Derived.WalkKit
import Derived.ProofKit
import Derived.OpenShut
import Derived.Deep.Strs
import Derived.Test.YtkpiaipbbpfodaaEngQe
import Derived.Test.YtkpiaipbbpfodaaCs
import Derived.Test.YtkpiaipbbpfodaaRunB
namespace Go.Proofs.Ytkpiaipbbpfodaa.chartSides
open Go.ChangeShapes Go.WideShapes Go.ChangeAt Go.RowKit Go.Ab

theorem own : ownKnob Try.prog.godebug = none := by kernel_rfl
attribute [local irreducible] callF cFun
theorem h_ext : ∀ call, CallOK Try.prog call → CallOK Try.prog (extB [] 19 call) := fun call h => extB_ok name_ok Try.func19 (by kernel_rfl) returns_works call h
theorem h_run (a0 a1 a2 a3 b0 b1 b2 b3 c0 c1 c2 c3 d0 d1 d2 d3 : Int) (W : World) : (cFun Try.prog 1000 3).run (CL 1000 (0 + 5)) [.agg ⟨[.int .i64 a0, .int .i64 a1, .int .i64 a2, .int .i64 a3]⟩, .agg ⟨[.int .i64 b0, .int .i64 b1, .int .i64 b2, .int .i64 b3]⟩, .agg ⟨[.int .i64 c0, .int .i64 c1, .int .i64 c2, .int .i64 c3]⟩, .agg ⟨[.int .i64 d0, .int .i64 d1, .int .i64 d2, .int .i64 d3]⟩] (isTrue true) (stOf W []) = true := by
  have hs : (stOf W []).nx + 2500 ≤ 262144 := by rw [stOf_nx]; exact Nat.le_of_ble_eq_true rfl
  exact (law3 1000 0 (by omega) a0 a1 b0 b1 c0 c1 d0 d1 a2 a3 b2 b3 c2 c3 d2 d3).run rfl rfl hs (stOf_fl W [])
theorem h_args (a0 a1 a2 a3 b0 b1 b2 b3 c0 c1 c2 c3 d0 d1 d2 d3 : Int) : ([.agg ⟨[.int .i64 a0, .int .i64 a1, .int .i64 a2, .int .i64 a3]⟩, .agg ⟨[.int .i64 b0, .int .i64 b1, .int .i64 b2, .int .i64 b3]⟩, .agg ⟨[.int .i64 c0, .int .i64 c1, .int .i64 c2, .int .i64 c3]⟩, .agg ⟨[.int .i64 d0, .int .i64 d1, .int .i64 d2, .int .i64 d3]⟩] : List Value).map (alV []) = [.agg ⟨[.int .i64 a0, .int .i64 a1, .int .i64 a2, .int .i64 a3]⟩, .agg ⟨[.int .i64 b0, .int .i64 b1, .int .i64 b2, .int .i64 b3]⟩, .agg ⟨[.int .i64 c0, .int .i64 c1, .int .i64 c2, .int .i64 c3]⟩, .agg ⟨[.int .i64 d0, .int .i64 d1, .int .i64 d2, .int .i64 d3]⟩] := rfl
theorem h_run2 (a0 a1 a2 a3 b0 b1 b2 b3 c0 c1 c2 c3 d0 d1 d2 d3 : Int) (W : World) (l : List Value) (hl : l = [.agg ⟨[.int .i64 a0, .int .i64 a1, .int .i64 a2, .int .i64 a3]⟩, .agg ⟨[.int .i64 b0, .int .i64 b1, .int .i64 b2, .int .i64 b3]⟩, .agg ⟨[.int .i64 c0, .int .i64 c1, .int .i64 c2, .int .i64 c3]⟩, .agg ⟨[.int .i64 d0, .int .i64 d1, .int .i64 d2, .int .i64 d3]⟩]) : (cFun Try.prog 1000 3).run (callF Try.prog 1000 (extB [] 19) (0 + 5)) l (isTrue true) (stOf W []) = true := by
  subst hl
  exact h_run a0 a1 a2 a3 b0 b1 b2 b3 c0 c1 c2 c3 d0 d1 d2 d3 W
set_option maxRecDepth 100000 in
theorem returns_law (a0 a1 a2 a3 b0 b1 b2 b3 c0 c1 c2 c3 d0 d1 d2 d3 : Int) (W : World) : Calls Try.prog 3 #[.agg ⟨[.int .i64 a0, .int .i64 a1, .int .i64 a2, .int .i64 a3]⟩, .agg ⟨[.int .i64 b0, .int .i64 b1, .int .i64 b2, .int .i64 b3]⟩, .agg ⟨[.int .i64 c0, .int .i64 c1, .int .i64 c2, .int .i64 c3]⟩, .agg ⟨[.int .i64 d0, .int .i64 d1, .int .i64 d2, .int .i64 d3]⟩] W fun e W' => e = .returned (.bool true) ∧ Below W.heap.size W W' := by
  have h := h_run2 a0 a1 a2 a3 b0 b1 b2 b3 c0 c1 c2 c3 d0 d1 d2 d3 W _ (h_args a0 a1 a2 a3 b0 b1 b2 b3 c0 c1 c2 c3 d0 d1 d2 d3)
  have h2 := @calls_open Try.prog draws name_ok 1000 (0 + 5) (extB [] 19) h_ext 3 [.agg ⟨[.int .i64 a0, .int .i64 a1, .int .i64 a2, .int .i64 a3]⟩, .agg ⟨[.int .i64 b0, .int .i64 b1, .int .i64 b2, .int .i64 b3]⟩, .agg ⟨[.int .i64 c0, .int .i64 c1, .int .i64 c2, .int .i64 c3]⟩, .agg ⟨[.int .i64 d0, .int .i64 d1, .int .i64 d2, .int .i64 d3]⟩] W []
  have h3 := h2 List.nodup_nil
  have h4 := h3 (Nat.zero_le _)
  have h5 := h4 h
  exact h5
theorem four_of {l : List Value} (h : l.length = 4) : ∃ a b c d, l = [a, b, c, d] := by
  match l, h with
  | [a, b, c, d], _ => exact ⟨a, b, c, d, rfl⟩
set_option maxRecDepth 100000 in
theorem station_of {H : Type} {enc : TypeId × Value → H} {W : World} {fuel : Nat} {cs : List Value} {x : DataW H × List MemPlace} (h : DataW.trod enc Try.prog W 0 (fun _ => true) true fuel 25 cs = some x) :
    ∃ a b c d, cs = [.int .i64 a, .int .i64 b, .int .i64 c, .int .i64 d] := by
  have i3 : Try.prog.cellsOf 3 = 1 := by kernel_rfl
  have i23 : Try.prog.cellsOf 23 = 2 := by kernel_rfl
  have i25 : Try.prog.cellsOf 25 = 4 := by kernel_rfl
  obtain ⟨y0, y1, y2, n, _, hl, h0, h1, h2⟩ := Go.Deep.trod_struct3 Try.underlying25 h
  rw [i25] at hl
  obtain ⟨a, b, c, d, rfl⟩ := four_of hl
  have h0 : DataW.trod enc Try.prog W 0 (fun _ => true) true n 3 [a] = some y0 := by have h0 := h0; simp only [i3] at h0; exact h0
  have h1 : DataW.trod enc Try.prog W 0 (fun _ => true) true n 3 [b] = some y1 := by have h1 := h1; simp only [i3] at h1; exact h1
  have h2 : DataW.trod enc Try.prog W 0 (fun _ => true) true n 23 [c, d] = some y2 := by have h2 := h2; simp only [i23] at h2; exact h2
  obtain ⟨c', d', z0, z1, n', hcd, e0, e1⟩ := two_of Try.underlying23 i23 rfl rfl i3 i3 h2
  obtain ⟨p, ep, _⟩ := DataW.trod_int Try.underlying3 h0
  obtain ⟨q, eq, _⟩ := DataW.trod_int Try.underlying3 h1
  obtain ⟨r, er, _⟩ := DataW.trod_int Try.underlying3 e0
  obtain ⟨s, es, _⟩ := DataW.trod_int Try.underlying3 e1
  injection ep with ep _
  injection eq with eq _
  injection er with er _
  injection es with es _
  injection hcd with hc hd
  injection hd with hd _
  subst ep eq hc hd er es
  exact ⟨p, q, r, s, rfl⟩

set_option maxRecDepth 100000 in
theorem lifted (os : Os) (started : os.Started) (H : Type) (enc : TypeId × Value → H) :
    ReturnsInHanded {} Try.checked os 3 .any (Rows.chartSidesSpec.pre6 enc Try.prog Try.f3 Rows.chartSidesRow.domain false) (Rows.chartSidesSpec.post enc Try.prog Try.f3 false true false false) := by
  refine returnsInHanded_of_change (C := Try.checked) own started (by kernel_rfl) Try.func3
    (ChangeSpec.witness6 (enc := enc) (C := Try.checked) false ⟨#[], #[.agg #[.int .i64 0, .int .i64 0, .int .i64 0, .int .i64 0], .agg #[.int .i64 0, .int .i64 0, .int .i64 0, .int .i64 0], .agg #[.int .i64 0, .int .i64 0, .int .i64 0, .int .i64 0], .agg #[.int .i64 0, .int .i64 0, .int .i64 0, .int .i64 0]], []⟩ 8 (by kernel_rfl) (by kernel_rfl) (by kernel_rfl) (by kernel_rfl)) ?_
  intro W base args ds gs before hval0 hW hcnd _
  have hval : ∀ (j : Nat) t v, Try.f3.params[j]? = some t → args[j]? = some v → Value.okWide Try.prog W .any base t v := hval0
  have hW' := hW
  obtain ⟨p, q, hA0, hV, rfl, hfz, hnd⟩ := hW
  have hA : DataW.TrodAll enc Try.prog W 0 (fun _ => true) true Try.f3.params.toList args.toList ds p := hA0
  rw [Try.params3] at hA hval
  have hA1 := hA
  obtain ⟨v0, v1, v2, v3, d0, d1, d2, d3, p0, p1, p2, p3, rfl, rfl, rfl, h0, h1, h2, h3⟩ := trodAll_four hA
  obtain ⟨rfl, rfl⟩ := trodVars_none hV
  clear hA0 hval0
  simp only [List.append_nil] at hW'
  obtain ⟨⟨l0⟩, rfl, _⟩ := okWide_struct Try.underlying25 (hval 0 25 v0 rfl rfl)
  obtain ⟨⟨l1⟩, rfl, _⟩ := okWide_struct Try.underlying25 (hval 1 25 v1 rfl rfl)
  obtain ⟨⟨l2⟩, rfl, _⟩ := okWide_struct Try.underlying25 (hval 2 25 v2 rfl rfl)
  obtain ⟨⟨l3⟩, rfl, _⟩ := okWide_struct Try.underlying25 (hval 3 25 v3 rfl rfl)
  obtain ⟨f0, h0⟩ := h0
  obtain ⟨f1, h1⟩ := h1
  obtain ⟨f2, h2⟩ := h2
  obtain ⟨f3, h3⟩ := h3
  obtain ⟨a0, a1, a2, a3, rfl⟩ := station_of (cs := l0) h0
  obtain ⟨b0, b1, b2, b3, rfl⟩ := station_of (cs := l1) h1
  obtain ⟨c0, c1, c2, c3, rfl⟩ := station_of (cs := l2) h2
  obtain ⟨e0, e1, e2, e3, rfl⟩ := station_of (cs := l3) h3
  refine (returns_law a0 a1 a2 a3 b0 b1 b2 b3 c0 c1 c2 c3 e0 e1 e2 e3 W).mono fun e' W' ⟨he, hg⟩ => ?_
  subst he
  have hback := trodAll_below (by kernel_rfl) hg (by kernel_rfl) hA1 (fun x hx => hW'.lt x hx)
  exact ⟨_, rfl, [d0, d1, d2, d3], [], _, [], _, [], hW', (trodAll_cons_mk (shut_bool Try.underlying4 _) trodAll_mk0), hback, rfl, hg.frame _, fun h => by cases h⟩

theorem over : Rows.chartSidesRow.holds Try.pinned (OpenSpec.ofChange Rows.chartSidesSpec) :=
  OpenClaim.holds_of_wide 3 Try.f3 rfl rfl rfl rfl rfl rfl rfl ⟨rfl, rfl, rfl, rfl, rfl⟩ rfl rfl rfl rfl rfl (by kernel_rfl) Try.func3 (by kernel_rfl)
    (of_decide_eq_true (by kernel_rfl)) (by unfold Func.isWrapper; first | (rw [if_pos (by decide +kernel)]; kernel_rfl) | (rw [if_neg (by decide +kernel)]; exact ⟨rfl, rfl⟩))
    (fun os started H enc _ => lifted os started H enc)

/-- THE STATEMENT -/
theorem proved : Rows.ChartSidesSaid :=
  over
#print axioms proved
end Go.Proofs.Ytkpiaipbbpfodaa.chartSides
