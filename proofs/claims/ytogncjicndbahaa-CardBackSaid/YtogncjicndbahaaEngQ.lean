/- Arguments: whatever memory is, the blocks of a list are named; what they hold is known, all else is junk. -/
import Derived.Test.YtogncjicndbahaaEngZ
namespace Go.Ab
variable {P : Program}
/-- a block's name: where it stands first -/
def nameIn : List Nat → Nat → Option Nat
  | [], _ => none
  | x :: l, B => if x = B then some 0 else (nameIn l B).map (· + 1)
theorem nameIn_some : ∀ {l : List Nat} {B b : Nat}, nameIn l B = some b → l[b]? = some B
  | [], _, _, h => by cases h
  | x :: l, B, b, h => by
    unfold nameIn at h
    by_cases e : x = B
    · rw [if_pos e] at h; cases h; simp [e]
    · rw [if_neg e] at h
      cases hn : nameIn l B with
      | none => rw [hn] at h; cases h
      | some c => rw [hn] at h; cases h; simpa using nameIn_some hn
theorem nameIn_mem : ∀ {l : List Nat} {B : Nat}, B ∈ l → ∃ b, nameIn l B = some b
  | x :: l, B, h => by
    unfold nameIn
    by_cases e : x = B
    · exact ⟨0, by rw [if_pos e]⟩
    · rw [if_neg e]
      have : B ∈ l := by cases h with | head => exact absurd rfl e | tail _ h => exact h
      obtain ⟨b, hb⟩ := nameIn_mem this
      exact ⟨b + 1, by rw [hb]; rfl⟩
/-- a list without what comes again -/
def dd : List Nat → List Nat
  | [] => []
  | x :: l => if x ∈ dd l then dd l else x :: dd l
theorem dd_mem : ∀ {l : List Nat} {x : Nat}, x ∈ dd l ↔ x ∈ l
  | [], _ => by simp [dd]
  | y :: l, x => by
    unfold dd
    by_cases e : y ∈ dd l
    · rw [if_pos e, dd_mem, List.mem_cons]
      exact ⟨.inr, fun h => h.elim (fun h => h ▸ dd_mem.1 e) id⟩
    · rw [if_neg e, List.mem_cons, List.mem_cons, dd_mem]
theorem dd_nodup : ∀ (l : List Nat), (dd l).Nodup
  | [] => by simp [dd]
  | y :: l => by
    unfold dd
    by_cases e : y ∈ dd l
    · rw [if_pos e]; exact dd_nodup l
    · rw [if_neg e]; exact List.nodup_cons.2 ⟨e, dd_nodup l⟩
theorem dd_length : ∀ (l : List Nat), (dd l).length ≤ l.length
  | [] => by simp [dd]
  | y :: l => by
    have := dd_length l
    unfold dd
    by_cases e : y ∈ dd l
    · rw [if_pos e, List.length_cons]; omega
    · rw [if_neg e, List.length_cons, List.length_cons]; omega
/-- what is known of a value's one cell -/
def al1 (Bs : List Nat) : Value → Value
  | .bool b => .bool b
  | .int k n => .int k n
  | .float k b => .float k b
  | .string s => .string s
  | .pointer none => .pointer none
  | .pointer (some ⟨B, o, none⟩) => match nameIn Bs B with
    | some b => .pointer (some ⟨b, o, none⟩)
    | none => .chan none
  | .slice none n c => .slice none n c
  | .slice (some ⟨B, o, none⟩) n c => match nameIn Bs B with
    | some b => if n ≤ c then .slice (some ⟨b, o, none⟩) n c else .chan none
    | none => if n = 0 ∧ c = 0 then empty0 else .chan none
  | .slice (some ⟨_, _, some _⟩) n c => if n = 0 ∧ c = 0 then empty0 else .chan none
  | .map none => .map none
  | .nilFunc => .nilFunc
  | .nilIface => .nilIface
  | _ => .chan none
def alV (Bs : List Nat) : Value → Value
  | .agg ⟨l⟩ => .agg ⟨l.map (al1 Bs)⟩
  | v => al1 Bs v
def szOf (W : World) (B : Nat) : Nat := match W.heap[B]? with
  | some (.cells C _ _) => C.size
  | _ => 0
def rhoOf (W : World) (Bs : List Nat) : Ren := fun b => (Bs[b]?).map fun B => ⟨B, 0, szOf W B, 0, false⟩
def objOf (W : World) (Bs : List Nat) (B : Nat) : Option AObj := match W.heap[B]? with
  | some (.cells C _ _) => some (.cells C.size C.size (puts C.size 0 (C.toList.map (al1 Bs)) (ini undef C.size)) ro false)
  | _ => none
def addO (s : St) (o : Option AObj) : St := ⟨(setW 14 s.nx).s o s.h, s.nx + 1, s.fl⟩
def stOf (W : World) (Bs : List Nat) : St := (Bs.map (objOf W Bs)).foldl addO st0
theorem addO_at {s : St} {c : Nat} {o : Option AObj} (hb : s.nx < 4398046511104) : (addO s o).at c = if c = s.nx then o else s.at c := St.at_set (s := s) (c := c) (o := o) hb
theorem addOs_nx : ∀ (l : List (Option AObj)) (s : St), (l.foldl addO s).nx = s.nx + l.length
  | [], s => rfl
  | o :: l, s => by rw [List.foldl_cons, addOs_nx l, List.length_cons]; show s.nx + 1 + l.length = _; omega
theorem addOs_at : ∀ (l : List (Option AObj)) (s : St), s.nx + l.length ≤ 4398046511104 → ∀ b, (l.foldl addO s).at b = if s.nx ≤ b ∧ b < s.nx + l.length then (l[b - s.nx]?).join else s.at b
  | [], s, _, b => by rw [if_neg (by simp only [List.length_nil]; omega)]; rfl
  | o :: l, s, h, b => by
    simp only [List.length_cons] at h
    have hnx : (addO s o).nx = s.nx + 1 := rfl
    rw [List.foldl_cons, addOs_at l (addO s o) (by rw [hnx]; omega) b, hnx, addO_at (by omega)]
    simp only [List.length_cons]
    by_cases h1 : s.nx + 1 ≤ b ∧ b < s.nx + 1 + l.length
    · rw [if_pos h1, if_pos (by omega), show b - s.nx = (b - (s.nx + 1)) + 1 from by omega, List.getElem?_cons_succ]
    · rw [if_neg h1]
      by_cases h2 : b = s.nx
      · subst h2; rw [if_pos rfl, if_pos (by omega), Nat.sub_self]; rfl
      · rw [if_neg h2, if_neg (by omega)]
theorem stOf_nx (W : World) (Bs : List Nat) : (stOf W Bs).nx = Bs.length := by
  unfold stOf
  rw [addOs_nx, List.length_map]
  show 0 + _ = _
  omega
theorem stOf_at {W : World} {Bs : List Nat} (h : Bs.length ≤ 4398046511104) (b : Nat) : (stOf W Bs).at b = (Bs[b]?).bind (objOf W Bs) := by
  unfold stOf
  rw [addOs_at _ _ (by rw [List.length_map]; show 0 + _ ≤ _; omega) b]
  have h0 : st0.nx = 0 := rfl
  rw [h0, Nat.sub_zero, List.length_map]
  by_cases hb : b < Bs.length
  · rw [if_pos (by omega), List.getElem?_map, List.getElem?_eq_getElem hb]; rfl
  · rw [if_neg (by omega), at_st0, List.getElem?_eq_none (by omega)]; rfl
theorem one_pow8 : ∀ n, 1 ≤ pow8 n
  | 0 => Nat.le_refl 1
  | n + 1 => by rw [pow8_succ]; have := one_pow8 n; omega
theorem le_pow8 : ∀ n, n ≤ pow8 n
  | 0 => Nat.zero_le _
  | n + 1 => by rw [pow8_succ]; have := le_pow8 n; have := one_pow8 n; omega
theorem al1_VR (W : World) (Bs : List Nat) (V : Value) : VR (rhoOf W Bs) (al1 Bs V) V := by
  unfold al1
  split
  · exact .bool _
  · exact .int _ _
  · exact .float _ _
  · exact .string _
  · exact .nilp
  · rename_i B o
    cases hn : nameIn Bs B with
    | none => exact .junk _
    | some b =>
      have h : rhoOf W Bs b = some ⟨B, 0, szOf W B, 0, false⟩ := by unfold rhoOf; rw [nameIn_some hn]; rfl
      have := VR.ptr (o := o) h
      rw [Nat.zero_add] at this
      exact this
  · exact .nils _ _
  · rename_i B o n c
    cases hn : nameIn Bs B with
    | none =>
      by_cases h0 : n = 0 ∧ c = 0
      · simp only [h0, and_self, if_true]; exact .emp _
      · simp only [h0, if_false]; exact .junk _
    | some b =>
      have h : rhoOf W Bs b = some ⟨B, 0, szOf W B, 0, false⟩ := by unfold rhoOf; rw [nameIn_some hn]; rfl
      by_cases hnc : n ≤ c
      · simp only [hnc, if_true]
        exact .slc h hnc (fun _ => ⟨rfl, (Nat.zero_add o).symm⟩) (fun h => by cases h)
      · simp only [hnc, if_false]; exact .junk _
  · rename_i B o p n c
    by_cases h0 : n = 0 ∧ c = 0
    · simp only [h0, and_self, if_true]; exact .emp _
    · simp only [h0, if_false]; exact .junk _
  · exact .nilm
  · exact .nilf
  · exact .nili
  · exact .junk _
theorem al1s_VsR (W : World) (Bs : List Nat) : ∀ (L : List Value), VsR (rhoOf W Bs) (L.map (al1 Bs)) L
  | [] => .nil
  | V :: L => .cons (al1_VR W Bs V) (al1s_VsR W Bs L)
theorem alV_one (Bs : List Nat) (V : Value) (h : ∀ l, V ≠ .agg l) : alV Bs V = al1 Bs V := by
  cases V <;> first | rfl | exact absurd rfl (h _)
theorem alV_VR (W : World) (Bs : List Nat) (V : Value) : VR (rhoOf W Bs) (alV Bs V) V := by
  by_cases h : ∃ l, V = .agg l
  · obtain ⟨⟨l⟩, rfl⟩ := h
    exact .agg (al1s_VsR W Bs l)
  · rw [alV_one Bs V fun l e => h ⟨l, e⟩]; exact al1_VR W Bs V
theorem alVs_VsR (W : World) (Bs : List Nat) : ∀ (L : List Value), VsR (rhoOf W Bs) (L.map (alV Bs)) L
  | [] => .nil
  | V :: L => .cons (alV_VR W Bs V) (alVs_VsR W Bs L)
theorem objOf_OR {W : World} {Bs : List Nat} {B : Nat} {o : AObj} (h : objOf W Bs B = some o) : ∃ O, W.heap[B]? = some O ∧ OR P (rhoOf W Bs) ⟨B, 0, szOf W B, 0, false⟩ o O := by
  unfold objOf at h
  cases hB : W.heap[B]? with
  | none => simp [hB] at h
  | some O =>
    rw [hB] at h
    cases O with
    | cells C e fr =>
      simp only [Option.some.injEq] at h; subst h
      refine ⟨_, rfl, C, e, fr, rfl, fun h => ?_, rfl, (fun h => by cases h), (by simp [szOf, hB]), (by simp), le_pow8 _, fun i hi => ?_⟩
      · rcases h with h | h
        · exact absurd h (by decide)
        · cases h
      · have h8 := le_pow8 C.size
        have hl : (C.toList.map (al1 Bs)).length = C.size := by simp
        rw [puts_get _ _ 0 i _ (by omega) (by omega), if_pos (by omega), Nat.sub_zero, List.getD_eq_getElem?_getD, List.getElem?_map, List.getElem?_eq_getElem (by simpa using hi)]
        show VR _ (al1 Bs C.toList[i]) (C.getD (0 + i) undef)
        have e2 : C.getD (0 + i) undef = C.toList[i]'(by simpa using hi) := by simp [Array.getD_eq_getD_getElem?, hi]
        rw [e2]; exact al1_VR W Bs _
    | _ => simp at h
/-- WHATEVER MEMORY IS: the blocks of a list can be named. -/
theorem stOf_SR {W : World} {Bs : List Nat} (hn : Bs.Nodup) (hl : Bs.length ≤ 4398046511104) : SR P (rhoOf W Bs) (stOf W Bs) W := by
  refine ⟨fun b o hb => ?_, fun b c o o' r r' hb hc hr hr' he => ?_, fun b hb => ?_⟩
  · rw [stOf_at hl] at hb
    cases hB : Bs[b]? with
    | none => simp [hB] at hb
    | some B =>
      simp only [hB, Option.bind_some] at hb
      obtain ⟨O, h1, h2⟩ := objOf_OR (P := P) hb
      exact ⟨_, O, by unfold rhoOf; rw [hB]; rfl, h1, h2⟩
  · unfold rhoOf at hr hr'
    cases hB : Bs[b]? with
    | none => simp [hB] at hr
    | some B =>
      cases hC : Bs[c]? with
      | none => simp [hC] at hr'
      | some C =>
        simp only [hB, hC, Option.map_some, Option.some.injEq] at hr hr'
        subst hr hr'
        have he : B = C := he
        subst he
        have hb' : b < Bs.length := by
          rcases Nat.lt_or_ge b Bs.length with h | h
          · exact h
          · rw [List.getElem?_eq_none h] at hB; cases hB
        exact (List.getElem?_inj hb' hn).1 (by rw [hB, hC])
  · rw [stOf_nx] at hb
    unfold rhoOf; rw [List.getElem?_eq_none hb]; rfl
theorem objOf_cells {W : World} {Bs : List Nat} {B : Nat} {C : Array Value} {e : TypeId} {fr : Nat × Nat} (h : W.heap[B]? = some (.cells C e fr)) :
    objOf W Bs B = some (.cells C.size C.size (puts C.size 0 (C.toList.map (al1 Bs)) (ini undef C.size)) ro false) := by unfold objOf; rw [h]
theorem cell_some {W : World} {B o : Nat} {V : Value} (h : W.cell? ⟨B, o, none⟩ = some V) : ∃ C e fr, W.heap[B]? = some (.cells C e fr) ∧ C[o]? = some V := by
  cases hB : W.heap[B]? with
  | none => simp [World.cell?, hB] at h
  | some O => cases O with
    | cells C e fr => rw [cell_at hB] at h; exact ⟨C, e, fr, rfl, h⟩
    | _ => simp [World.cell?, hB] at h
/-- a read of a cell that is known -/
theorem ld1_stOf {W : World} {Bs : List Nat} (hl : Bs.length ≤ 4398046511104) {B b : Nat} (hb : nameIn Bs B = some b) {o : Nat} {V : Value} (h : W.cell? ⟨B, o, none⟩ = some V) (K : Value → Bool) : ld1 (stOf W Bs) b o K = K (al1 Bs V) := by
  obtain ⟨C, e, fr, h1, h2⟩ := cell_some h
  have hlt : o < C.size := by
    rcases Nat.lt_or_ge o C.size with h | h
    · exact h
    · rw [Array.getElem?_eq_none h] at h2; cases h2
  unfold ld1 onCells
  rw [stOf_at hl, nameIn_some hb, Option.bind_some, objOf_cells h1]
  simp only [blt_of hlt, cond_true]
  have h8 := le_pow8 C.size
  have hll : (C.toList.map (al1 Bs)).length = C.size := by simp
  rw [puts_get _ _ 0 o _ (by omega) (by omega), if_pos (by omega), Nat.sub_zero, List.getD_eq_getElem?_getD, List.getElem?_map]
  rw [← arr_get?] at h2
  rw [h2]; rfl
/-- a read of several cells that are known -/
theorem ldN_stOf {W : World} {Bs : List Nat} (hl : Bs.length ≤ 4398046511104) {B b : Nat} (hb : nameIn Bs B = some b) {o : Nat} {L : List Value} (hne : L ≠ []) (h : ∀ i V, L[i]? = some V → W.cell? ⟨B, o + i, none⟩ = some V) (K : List Value → Bool) : ldN (stOf W Bs) b o L.length K = K (L.map (al1 Bs)) := by
  obtain ⟨V0, hV0⟩ : ∃ V, L[0]? = some V := by cases L with | nil => exact absurd rfl hne | cons x _ => exact ⟨x, rfl⟩
  obtain ⟨C, e, fr, h1, _⟩ := cell_some (h 0 V0 hV0)
  have hC : ∀ i V, L[i]? = some V → C[o + i]? = some V := fun i V hi => by have := h i V hi; rwa [cell_at h1] at this
  have hlt : o + L.length ≤ C.size := by
    have hL : 0 < L.length := by cases L with | nil => exact absurd rfl hne | cons x _ => simp
    have := hC (L.length - 1) _ (List.getElem?_eq_getElem (by omega))
    rcases Nat.lt_or_ge (o + (L.length - 1)) C.size with h | h
    · omega
    · rw [Array.getElem?_eq_none h] at this; cases this
  unfold ldN onCells
  rw [stOf_at hl, nameIn_some hb, Option.bind_some, objOf_cells h1]
  have hble : Nat.ble (Nat.add o L.length) C.size = true := Nat.ble_eq_true_of_le hlt
  simp only [hble, cond_true]
  congr 1
  refine List.ext_getElem? fun i => ?_
  by_cases hi : i < L.length
  · have h8 := le_pow8 C.size
    have hll : (C.toList.map (al1 Bs)).length = C.size := by simp
    rw [gets_get _ _ _ _ _ hi, puts_get _ _ 0 _ _ (by omega) (by omega), if_pos (by omega), Nat.sub_zero, List.getD_eq_getElem?_getD, List.getElem?_map, List.getElem?_map]
    have := hC i _ (List.getElem?_eq_getElem hi)
    rw [← arr_get?] at this
    rw [this, List.getElem?_eq_getElem hi]; rfl
  · rw [List.getElem?_eq_none (by rw [gets_length]; omega), List.getElem?_eq_none (by rw [List.length_map]; omega)]
end Go.Ab
