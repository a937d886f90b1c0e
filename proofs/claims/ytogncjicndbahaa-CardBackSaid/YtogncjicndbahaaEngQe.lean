/- The frame of a law whose arguments are structs of two, and slices of numbers, of pairs and of slices. -/
import Derived.Test.YtogncjicndbahaaEngQd
import Derived.ChangeSame
namespace Go.Ab
open Go.RowKit Go.ChangeShapes
variable {P : Program}
theorem Sl.map {α β : Type} {s : St} {sz : Nat} {R : List Value → α → Prop} {R' : List Value → β → Prop} {v : Value} {l : List α} (f : α → β) (h : Sl s sz R v l) (hR : ∀ c y, R c y → R' c (f y)) : Sl s sz R' v (l.map f) := by
  rcases h with ⟨b, o, c, h1, h2, h3⟩ | ⟨h1, h2⟩
  · refine .inl ⟨b, o, c, by rw [List.length_map]; exact h1, by rw [List.length_map]; exact h2, fun i y hi => ?_⟩
    rw [List.getElem?_map] at hi
    cases hx : l[i]? with
    | none => rw [hx] at hi; cases hi
    | some x =>
      rw [hx] at hi
      simp only [Option.map_some, Option.some.injEq] at hi; subst hi
      obtain ⟨ci, h4, h5, h6⟩ := h3 i x hx
      exact ⟨ci, hR _ _ h4, h5, h6⟩
  · exact .inr ⟨by rw [h1]; rfl, h2⟩
def W1 (W : World) (cs : List Value) (p : Value × List Int) : Prop := cs = [p.1] ∧ SlW W 1 R1 p.1 p.2
def R2 (ci : List Value) (y : Int × Int) : Prop := ci = [.int .i64 y.1, .int .i64 y.2]
section
variable {H : Type} {enc : TypeId × Value → H} {W : World} {fuel : Nat} {t e : TypeId} {cs : List Value} {x : DataW H × List MemPlace}
/-- numbers -/
theorem ints_of (ht : P.underlying t = some (.slice e)) (he : P.underlying e = some (.int .i64)) (hsz : P.cellsOf e = 1) (h : DataW.trod enc P W 0 (fun _ => true) true fuel t cs = some x) : ∃ v l, cs = [v] ∧ SlW W 1 R1 v l := by
  have := SlW_of (R := R1) ht (by omega) (fun m ci y hy _ => by
    obtain ⟨n, rfl, _⟩ := DataW.trod_int he hy
    exact ⟨n, rfl⟩) h
  rw [hsz] at this; exact this
/-- rows of numbers -/
theorem rows_of {u : TypeId} (ht : P.underlying t = some (.slice u)) (hu : P.underlying u = some (.slice e)) (he : P.underlying e = some (.int .i64)) (hsz : P.cellsOf e = 1) (hsu : P.cellsOf u = 1)
    (h : DataW.trod enc P W 0 (fun _ => true) true fuel t cs = some x) : ∃ v l, cs = [v] ∧ SlW W 1 (W1 W) v l := by
  have := SlW_of (R := W1 W) ht (by omega) (fun m ci y hy _ => by
    obtain ⟨v, l, rfl, hv⟩ := ints_of hu he hsz hy
    exact ⟨(v, l), rfl, hv⟩) h
  rw [hsu] at this; exact this
/-- a struct of two fields of one cell each -/
theorem two_of {f0 f1 : Field} (ht : P.underlying t = some (.struct #[f0, f1])) (hc : P.cellsOf t = 2) (o0 : f0.offset = 0) (o1 : f1.offset = 1) (c0 : P.cellsOf f0.type = 1) (c1 : P.cellsOf f1.type = 1)
    (h : DataW.trod enc P W 0 (fun _ => true) true fuel t cs = some x) : ∃ a b y0 y1 n, cs = [a, b] ∧ DataW.trod enc P W 0 (fun _ => true) true n f0.type [a] = some y0 ∧ DataW.trod enc P W 0 (fun _ => true) true n f1.type [b] = some y1 := by
  obtain ⟨y0, y1, n, _, hl, h0, h1⟩ := trod_struct2 ht h
  rw [hc] at hl
  match cs, hl with
  | [a, b], _ =>
    rw [o0, c0] at h0
    rw [o1, c1] at h1
    exact ⟨a, b, y0, y1, n, rfl, h0, h1⟩
/-- pairs of numbers -/
theorem pairs_of {f0 f1 : Field} (ht : P.underlying t = some (.slice e)) (he : P.underlying e = some (.struct #[f0, f1])) (hc : P.cellsOf e = 2) (o0 : f0.offset = 0) (o1 : f1.offset = 1) (c0 : P.cellsOf f0.type = 1) (c1 : P.cellsOf f1.type = 1)
    (i0 : P.underlying f0.type = some (.int .i64)) (i1 : P.underlying f1.type = some (.int .i64)) (h : DataW.trod enc P W 0 (fun _ => true) true fuel t cs = some x) : ∃ v l, cs = [v] ∧ SlW W 2 R2 v l := by
  have := SlW_of (R := R2) ht (by omega) (fun m ci y hy _ => by
    obtain ⟨a, b, y0, y1, n, rfl, h0, h1⟩ := two_of he hc o0 o1 c0 c1 hy
    obtain ⟨p, e1, _⟩ := DataW.trod_int i0 h0
    obtain ⟨q, e2, _⟩ := DataW.trod_int i1 h1
    injection e1 with e1 _
    injection e2 with e2 _
    subst e1 e2
    exact ⟨(p, q), rfl⟩) h
  rw [hc] at this; exact this
end
theorem al1_int (Bs : List Nat) (k : IntKind) (n : Int) : al1 Bs (.int k n) = .int k n := rfl
/-- what reads as numbers does so in the state that names its block -/
theorem named_ints {W : World} {Bs : List Nat} (hl : Bs.length ≤ 4398046511104) {v : Value} {l : List Int} (h : SlW W 1 R1 v l) (hv : ∀ B ∈ blkOf v, B ∈ Bs) : SlI (stOf W Bs) (al1 Bs v) l :=
  SlW.named hl (by omega) h hv fun i ci y _ hR => by rw [show ci = [.int .i64 y] from hR]; rfl
theorem named_pairs {W : World} {Bs : List Nat} (hl : Bs.length ≤ 4398046511104) {v : Value} {l : List (Int × Int)} (h : SlW W 2 R2 v l) (hv : ∀ B ∈ blkOf v, B ∈ Bs) : Sl (stOf W Bs) 2 R2 (al1 Bs v) l :=
  SlW.named hl (by omega) h hv fun i ci y _ hR => by rw [show ci = [.int .i64 y.1, .int .i64 y.2] from hR]; rfl
theorem named_rows {W : World} {Bs : List Nat} (hl : Bs.length ≤ 4398046511104) {v : Value} {l : List (Value × List Int)} (h : SlW W 1 (W1 W) v l) (hv : ∀ B ∈ blkOf v, B ∈ Bs) (hr : ∀ p ∈ l, ∀ B ∈ blkOf p.1, B ∈ Bs) : SlR (stOf W Bs) (al1 Bs v) (l.map (·.2)) := by
  have := SlW.named (R' := fun ci (p : Value × List Int) => ∃ w, ci = [w] ∧ SlI (stOf W Bs) w p.2) hl (by omega) h hv fun i ci y hi hR => by
    obtain ⟨e, h2⟩ := hR
    subst e
    exact ⟨_, rfl, named_ints hl h2 (hr y (List.mem_of_getElem? hi))⟩
  exact Sl.map (R' := fun ci row => ∃ w, ci = [w] ∧ SlI (stOf W Bs) w row) (·.2) this fun c y h => h
/-- a slice, named: only its length is known -/
theorem named_len {α : Type} {W : World} {sz : Nat} {R : List Value → α → Prop} {v : Value} {l : List α} (h : SlW W sz R v l) {Bs : List Nat} (hv : ∀ B ∈ blkOf v, B ∈ Bs) : ∃ a c, al1 Bs v = .slice a l.length c := by
  rcases h with ⟨B, O, c, rfl, h1, _⟩ | ⟨rfl, rfl | ⟨⟨B, O, spot⟩, rfl⟩⟩
  · obtain ⟨b, hb⟩ := nameIn_mem (hv B (by simp [blkOf]))
    exact ⟨_, _, by simp only [al1, hb, h1, if_true]; rfl⟩
  · exact ⟨_, _, rfl⟩
  · cases spot with
    | some p => exact ⟨_, _, by simp [al1]; exact ⟨rfl, rfl⟩⟩
    | none =>
      obtain ⟨b, hb⟩ := nameIn_mem (hv B (by simp [blkOf]))
      exact ⟨_, _, by simp [al1, hb]; exact ⟨rfl, rfl⟩⟩
theorem blkOf_len (v : Value) : (blkOf v).length ≤ 1 := by
  unfold blkOf
  split <;> simp
theorem flat_blk_len {α : Type} (f : α → Value) : ∀ l : List α, (l.flatMap fun p => blkOf (f p)).length ≤ l.length
  | [] => Nat.le_refl _
  | x :: l => by
    rw [List.flatMap_cons, List.length_append, List.length_cons]
    have := blkOf_len (f x)
    have := flat_blk_len f l
    omega
/-- how long a slice is at most -/
theorem len_of {H : Type} {enc : TypeId × Value → H} {W : World} {fuel : Nat} {t e : TypeId} {x : DataW H × List MemPlace} {α : Type} {sz : Nat} {R : List Value → α → Prop} {v : Value} {l : List α} (ht : P.underlying t = some (.slice e))
    (h : DataW.trod enc P W 0 (fun _ => true) true fuel t [v] = some x) (hs : SlW W sz R v l) : l.length ≤ maxLen := by
  have hv : ∃ a c, v = .slice a l.length c := by
    rcases hs with ⟨B, O, c, h1, _⟩ | ⟨rfl, h1 | ⟨a, h1⟩⟩
    · exact ⟨_, _, h1⟩
    · exact ⟨_, _, h1⟩
    · exact ⟨_, _, h1⟩
  obtain ⟨a, c, rfl⟩ := hv
  rcases DataW.trod_slice ht h with ⟨h1, _⟩ | ⟨a', len, cap, elems, rest, n, _, h1, _, _, h2, h3, _⟩
  · simp only [List.cons.injEq, Value.slice.injEq] at h1
    omega
  · simp only [List.cons.injEq, Value.slice.injEq] at h1
    omega
theorem alV_slice {W : World} {α : Type} {sz : Nat} {R : List Value → α → Prop} {v : Value} {l : List α} (hs : SlW W sz R v l) (Bs : List Nat) : alV Bs v = al1 Bs v := by
  rcases hs with ⟨B, O, c, h1, _⟩ | ⟨_, h1 | ⟨a, h1⟩⟩ <;> rw [h1] <;> rfl
end Go.Ab
