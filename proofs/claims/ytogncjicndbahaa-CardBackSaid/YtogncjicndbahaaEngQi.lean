/- Open runs: slices that are only read; blocks of different kinds. -/
import Derived.Test.YtogncjicndbahaaEngQh
namespace Go.Ab
/-- a slice that is only read -/
def RdV (sz : Nat) (s : St) (v : Value) (L : List Value) : Prop := (v = .slice none 0 0 ∧ L = []) ∨ ∃ b o n c, v = slc b o n c ∧ AtN s b o L ∧ L.length = n * sz
theorem RdV.fr {X : Nat → Prop} {s s' : St} (h : Fr X s s') {sz : Nat} {v : Value} {L : List Value} (hA : RdV sz s v L) (hx : ∀ b L, AtN s b 0 L → ¬ X b) : RdV sz s' v L := by
  rcases hA with hA | ⟨b, o, n, c, rfl, h1, h2⟩
  · exact .inl hA
  · refine .inr ⟨b, o, n, c, rfl, h1.fr h (hx b [] ?_), h2⟩
    obtain ⟨g1, k, n, t, e, g, g2, g3⟩ := h1
    exact ⟨g1, k, n, t, e, g, g2, by simp, rfl⟩
theorem SlV.rd {e sz : Nat} {s : St} {v : Value} {L : List Value} (h : SlV e sz s v L) : RdV sz s v L := by
  rcases h with h | ⟨b, n, rfl, h1, h2⟩
  · exact .inl h
  · exact .inr ⟨b, 0, n, n, rfl, h1.own.at, h2⟩
theorem veq_slco (f b o n c : Nat) : veq (f + 1) (slc b o n c) (slc b o n c) = true := by
  show (Nat.beq b b && Nat.beq o o && Nat.beq n n && Nat.beq c c) = true
  simp [Nat.beq_refl]
theorem RdV.veq {sz : Nat} {s : St} {v : Value} {L : List Value} (h : RdV sz s v L) (f : Nat) : veq (f + 1) v v = true := by
  rcases h with ⟨rfl, _⟩ | ⟨b, o, n, c, rfl, _, _⟩
  · rfl
  · exact veq_slco f b o n c
theorem AtN.map_ne {α : Type} [DecidableEq α] {kv : α → Value} {s : St} {b m a : Nat} {L : List Value} {f : α → Option Value} (h : AtN s b a L) (k : MapF kv s m f) : b ≠ m := by
  intro e
  subst e
  obtain ⟨_, _, _, _, _, _, h2, _⟩ := h
  obtain ⟨_, _, _, _, k2, _⟩ := k
  rw [h2] at k2
  cases k2
theorem SlV.frm {α : Type} [DecidableEq α] {kv : α → Value} {s s' : St} {m : Nat} {f : α → Option Value} (hm : MapF kv s m f) (h : Fr (· = m) s s') {e sz : Nat} {v : Value} {L : List Value} (hA : SlV e sz s v L) : SlV e sz s' v L := by
  rcases hA with hA | ⟨b, n, rfl, h1, h2⟩
  · exact .inl hA
  · exact .inr ⟨b, n, rfl, h1.fr h (h1.own.at.map_ne hm), h2⟩
theorem Own.setNew {s : St} {b : Nat} {l : List Value} {e : TypeId} {g : Bool} (hb : b < s.nx) (hfl : s.fl ≤ b) (hlt : b < 4398046511104) (hl : l.length ≤ 32768) (he : Nat.beq e ro = false) : Own (s.set b (some (mkC l e g))) b l := by
  refine ⟨⟨hb, ok_of hfl⟩, hlt, _, _, _, _, _, by rw [St.at_set hlt, if_pos rfl]; rfl, he, rfl, le_lvl _ hl, ?_⟩
  rcases gets_puts0 (l := l) with h | h
  · exact h
  · omega
theorem Fr.tr2 {X Y : Nat → Prop} {s0 s s' : St} (h : Fr X s0 s) (k : Fr Y s s') (hx : ∀ b, b < s0.nx → Y b → X b) : Fr X s0 s' :=
  ⟨Nat.le_trans h.1 k.1, fun b hb hX => (k.2.1 b (Nat.lt_of_lt_of_le hb h.1) fun hY => hX (hx b hb hY)).trans (h.2.1 b hb hX), k.2.2.trans h.2.2⟩
/-- an element of two cells -/
theorem RdV.get2 {s : St} {v : Value} {L : List Value} (h : RdV 2 s v L) {i : Nat} {x y : Value} (hx : L[i * 2]? = some x) (hy : L[i * 2 + 1]? = some y) : ∃ b o n c, v = slc b o n c ∧ n * 2 = L.length ∧ i < n ∧ AtN s b (o + i * 2) [x, y] := by
  have hi : i * 2 + 1 < L.length := by
    rcases Nat.lt_or_ge (i * 2 + 1) L.length with h | h
    · exact h
    · rw [List.getElem?_eq_none h] at hy; cases hy
  rcases h with ⟨_, h⟩ | ⟨b, o, n, c, rfl, h1, h2⟩
  · rw [h] at hi; simp at hi
  · refine ⟨b, o, n, c, rfl, h2.symm, by omega, ?_⟩
    obtain ⟨g1, k, n', t, e, g, g2, g3, g4⟩ := h1
    refine ⟨g1, k, n', t, e, g, g2, by show _ + 2 ≤ _; omega, ?_⟩
    refine List.ext_getElem? fun q => ?_
    have hcell : ∀ q, q < L.length → some ((getW k (o + q)).g t) = L[q]? := fun q hq => by
      have := gets_get k t L.length o q hq
      rw [g4] at this; exact this.symm
    match q with
    | 0 => rw [gets_get _ _ _ _ _ (by show 0 < 2; omega), show o + i * 2 + 0 = o + i * 2 by omega, hcell _ (by omega), hx]; rfl
    | 1 => rw [gets_get _ _ _ _ _ (by show 1 < 2; omega), show o + i * 2 + 1 = o + (i * 2 + 1) by omega, hcell _ (by omega), hy]; rfl
    | q + 2 => rw [List.getElem?_eq_none (by rw [gets_length]; show 2 ≤ q + 2; omega), List.getElem?_eq_none (by show 2 ≤ q + 2; omega)]
/-! stores into blocks whose elements' type is known -/
theorem OwnE.stN {s : St} {b : Nat} {e : TypeId} {L : List Value} (h : OwnE s b e L) {o : Nat} {l : List Value} (hl : o + l.length ≤ L.length) (hf : l.all flat1 = true) {K : St → Bool} {r : Bool}
    (hk : ∀ s', s'.nx = s.nx → s'.fl = s.fl → (∀ s0 : St, s0.nx ≤ b → Keep s0 s → Keep s0 s') → (∀ c, c ≠ b → s'.at c = s.at c) → OwnE s' b e (L.take o ++ l ++ L.drop (o + l.length)) → K s' = r) {o' : Nat} (ho : o' = o) : stN s b o' l K = r := by
  subst ho
  obtain ⟨⟨h1, hok⟩, h0, k, n, t, g, h2, h3, h4, h5, h6⟩ := h
  unfold Ab.stN onCellsW onCells
  rw [h2]
  have hble : Nat.ble (Nat.add o' l.length) n = true := Nat.ble_eq_true_of_le (by show o' + l.length ≤ n; omega)
  simp only [h3, hok, Bool.not_false, Bool.and_self, cond_true, hble, hf]
  refine hk _ rfl rfl (fun s0 hs0 hk0 => hk0.set hs0 h0) (fun c hc => by rw [St.at_set h0, if_neg hc]) ⟨⟨h1, hok⟩, h0, _, _, _, _, by rw [St.at_set h0, if_pos rfl], h3, ?_, h5, ?_⟩
  · simp only [List.length_append, List.length_take, List.length_drop]; omega
  · refine List.ext_getElem? fun i => ?_
    by_cases hi : i < n
    · rw [gets_get _ _ _ _ _ hi, puts_get _ _ _ _ _ (by omega) (by omega), Nat.zero_add]
      have hLi : L[i]? = some ((getW k i).g t) := by rw [← h6, gets_get _ _ _ _ _ hi, Nat.zero_add]
      have hto : (L.take o').length = o' := by rw [List.length_take]; omega
      by_cases hin : o' ≤ i ∧ i < o' + l.length
      · rw [if_pos hin, List.append_assoc, List.getElem?_append_right (by omega), List.getElem?_append_left (by omega), hto, List.getD_eq_getElem?_getD, List.getElem?_eq_getElem (by omega)]; rfl
      · rw [if_neg hin]
        by_cases h' : i < o'
        · rw [List.append_assoc, List.getElem?_append_left (by omega), List.getElem?_take_of_lt h', hLi]
        · rw [List.getElem?_append_right (by simp only [List.length_append]; omega), List.getElem?_drop, List.length_append, hto, show o' + l.length + (i - (o' + l.length)) = i from by omega, hLi]
    · rw [List.getElem?_eq_none (by rw [gets_length]; omega), List.getElem?_eq_none (by simp only [List.length_append, List.length_take, List.length_drop]; omega)]
theorem OwnE.st1 {s : St} {b : Nat} {e : TypeId} {L : List Value} (h : OwnE s b e L) {o : Nat} {v : Value} (hl : o < L.length) (hf : flat1 v = true) {K : St → Bool} {r : Bool}
    (hk : ∀ s', s'.nx = s.nx → s'.fl = s.fl → (∀ s0 : St, s0.nx ≤ b → Keep s0 s → Keep s0 s') → (∀ c, c ≠ b → s'.at c = s.at c) → OwnE s' b e (L.set o v) → K s' = r) {o' : Nat} (ho : o' = o) : Ab.st1 s b o' v K = r := by
  rw [st1_eq]
  refine h.stN (l := [v]) hl (by simpa using hf) (fun s' h1 hfl h2 h3 h4 => hk s' h1 hfl h2 h3 ?_) ho
  have : L.set o v = L.take o ++ [v] ++ L.drop (o + [v].length) := by
    rw [List.set_eq_take_append_cons_drop, if_pos hl]; simp
  rw [this]; exact h4
theorem OwnE.ne {s : St} {b c : Nat} {e e' : TypeId} {L L' : List Value} (h : OwnE s b e L) (k : OwnE s c e' L') (he : e ≠ e') : b ≠ c := by
  intro hc
  subst hc
  obtain ⟨_, _, _, _, _, _, h2, _⟩ := h
  obtain ⟨_, _, _, _, _, _, k2, _⟩ := k
  rw [h2] at k2
  simp only [Option.some.injEq, AObj.cells.injEq] at k2
  exact he k2.2.2.2.1
/-- two cells of a list that is read -/
theorem AtN.two {s : St} {b o : Nat} {L : List Value} (h : AtN s b o L) {i : Nat} {x y : Value} (hx : L[i * 2]? = some x) (hy : L[i * 2 + 1]? = some y) : AtN s b (o + i * 2) [x, y] := by
  have hi : i * 2 + 1 < L.length := by
    rcases Nat.lt_or_ge (i * 2 + 1) L.length with h | h
    · exact h
    · rw [List.getElem?_eq_none h] at hy; cases hy
  obtain ⟨g1, k, n', t, e, g, g2, g3, g4⟩ := h
  refine ⟨g1, k, n', t, e, g, g2, by show _ + 2 ≤ _; omega, ?_⟩
  refine List.ext_getElem? fun q => ?_
  have hcell : ∀ q, q < L.length → some ((getW k (o + q)).g t) = L[q]? := fun q hq => by
    have := gets_get k t L.length o q hq
    rw [g4] at this; exact this.symm
  match q with
  | 0 => rw [gets_get _ _ _ _ _ (by show 0 < 2; omega), show o + i * 2 + 0 = o + i * 2 by omega, hcell _ (by omega), hx]; rfl
  | 1 => rw [gets_get _ _ _ _ _ (by show 1 < 2; omega), show o + i * 2 + 1 = o + (i * 2 + 1) by omega, hcell _ (by omega), hy]; rfl
  | q + 2 => rw [List.getElem?_eq_none (by rw [gets_length]; show 2 ≤ q + 2; omega), List.getElem?_eq_none (by show 2 ≤ q + 2; omega)]
theorem drs_forget {P : Program} {k n base : Nat} {all : List Oper} {masks : List Nat} {os : List (Nat × Oper)} {call : CallT} {K : Fm Value k → St → Bool} {reads : List (Nat × (St → Bool))} {pend : List (Nat × AObj)} {t : Fm Value k} {s : St} {r : Bool}
    (facts : Fm Value k → Prop) (h0 : facts t) (h : ∀ t', facts t' → (cDrs P k n all masks os).run call base K reads pend t' s = r) : (cDrs P k n all masks os).run call base K reads pend t s = r := h t h0
/-! drawn regions whose order is written down: to reckon it step by step is slow -/
def nthO : List Oper → Nat → Option Oper
  | [], _ => none
  | o :: _, 0 => some o
  | _ :: l, i + 1 => nthO l i
def pickO (l : List Oper) : List Nat → List (Nat × Oper)
  | [] => []
  | i :: r => match nthO l i with
    | some o => (i, o) :: pickO l r
    | none => pickO l r
theorem run_draw_lit {P : Program} {k n : Nat} {call : CallT} {t : Fm Value k} {s : St} {ops : Array Oper} (idx masks : List Nat) (hc : drawChk P k n ops = true) (hi : drawOrd P k n ops = pickO ops.toList idx) (hm : drawMasks ops = masks) (hn : s.nx + ops.toList.length ≤ 4398046511104) {K : Fm Value k → St → Bool} {r : Bool}
    (h : (cDrs P k n ops.toList masks (pickO ops.toList idx)).run call s.nx K [] [] t ⟨s.h, Nat.add s.nx ops.toList.length, s.fl⟩ = r) : (cDraw P k n ops).run call K t s = r :=
  run_draw hc hn (by rw [hi, hm]; exact h)
section
variable {P : Program} {k n base : Nat} {all : List Oper} {masks : List Nat} {i : Nat} {o : Oper} {os : List (Nat × Oper)} {call : CallT} {K : Fm Value k → St → Bool} {reads : List (Nat × (St → Bool))} {pend : List (Nat × AObj)} {t : Fm Value k} {s : St} {r : Bool}
theorem drs_cons : (cDrs P k n all masks ((i, o) :: os)).run call base K reads pend t s = (match cPut k n o.dst, cGuard k n all o.guard with
    | some p, some gd =>
      let d := dOne i (masks.getD i 0) (cOper P k n o) p (cDrs P k n all masks os)
      match gd with
      | none => d
      | some (g, want) => ⟨fun call base K reads pend t s => bif !isCh (g.g t) then (bif isB want (g.g t) then d.run call base K reads pend t s else (cDrs P k n all masks os).run call base K reads pend (p.s undef t) s) else false⟩
    | _, _ => (⟨fun _ _ _ _ _ _ _ => false⟩ : DrC k)).run call base K reads pend t s := rfl
theorem drs_sil {p : SW Value k} {c : SilC k} {v : Value} (hp : cPut k n o.dst = some p) (hg : cGuard k n all o.guard = some none) (hc : cOper P k n o = .sil c) (hv : ∀ K', c.m t K' = K' v)
    (h : (cDrs P k n all masks os).run call base K reads pend (p.s v t) s = r) : (cDrs P k n all masks ((i, o) :: os)).run call base K reads pend t s = r := by
  refine Eq.trans drs_cons ?_
  rw [hp, hg, hc]
  exact (hv _).trans h
theorem drs_yes {p : SW Value k} {c : SilC k} {v : Value} {g : GW Value k} {want : Bool} (hp : cPut k n o.dst = some p) (hg : cGuard k n all o.guard = some (some (g, want))) (hch : isCh (g.g t) = false) (hb : isB want (g.g t) = true)
    (hc : cOper P k n o = .sil c) (hv : ∀ K', c.m t K' = K' v) (h : (cDrs P k n all masks os).run call base K reads pend (p.s v t) s = r) : (cDrs P k n all masks ((i, o) :: os)).run call base K reads pend t s = r := by
  refine Eq.trans drs_cons ?_
  rw [hp, hg, hc]
  simp only [hch, hb, Bool.not_false, cond_true]
  exact (hv _).trans h
theorem drs_no {p : SW Value k} {g : GW Value k} {want : Bool} (hp : cPut k n o.dst = some p) (hg : cGuard k n all o.guard = some (some (g, want))) (hch : isCh (g.g t) = false) (hb : isB want (g.g t) = false)
    (h : (cDrs P k n all masks os).run call base K reads pend (p.s undef t) s = r) : (cDrs P k n all masks ((i, o) :: os)).run call base K reads pend t s = r := by
  refine Eq.trans drs_cons ?_
  rw [hp, hg]
  simp only [hch, hb, Bool.not_false, cond_true, cond_false]
  exact h
theorem drs_rd {p : SW Value k} {c : RdC k} {v : Value} (hp : cPut k n o.dst = some p) (hg : cGuard k n all o.guard = some none) (hc : cOper P k n o = .rd c) (hv : ∀ K', c.m t s K' = K' v)
    (h : (cDrs P k n all masks os).run call base K ((i, fun s' => c.m t s' (veq 100 v)) :: reads) pend (p.s v t) s = r) : (cDrs P k n all masks ((i, o) :: os)).run call base K reads pend t s = r := by
  refine Eq.trans drs_cons ?_
  rw [hp, hg, hc]
  exact (hv _).trans h
theorem drs_rd_yes {p : SW Value k} {c : RdC k} {v : Value} {g : GW Value k} {want : Bool} (hp : cPut k n o.dst = some p) (hg : cGuard k n all o.guard = some (some (g, want))) (hch : isCh (g.g t) = false) (hb : isB want (g.g t) = true)
    (hc : cOper P k n o = .rd c) (hv : ∀ K', c.m t s K' = K' v) (h : (cDrs P k n all masks os).run call base K ((i, fun s' => c.m t s' (veq 100 v)) :: reads) pend (p.s v t) s = r) : (cDrs P k n all masks ((i, o) :: os)).run call base K reads pend t s = r := by
  refine Eq.trans drs_cons ?_
  rw [hp, hg, hc]
  simp only [hch, hb, Bool.not_false, cond_true]
  exact (hv _).trans h
theorem drs_call {p : SW Value k} {gf : GW Value k} {gs : List (GW Value k)} (hp : cPut k n o.dst = some p) (hg : cGuard k n all o.guard = some none)
    (hc : cOper P k n o = .eff ⟨fun call f s K => call (gf.g f) (evAll f gs) K s⟩)
    (h : call (gf.g t) (evAll t gs) (fun v s' => recheck (masks.getD i 0) reads s' && (cDrs P k n all masks os).run call base K reads (left (masks.getD i 0) pend) (p.s v t) s') (adopt base (masks.getD i 0) pend s) = r) :
    (cDrs P k n all masks ((i, o) :: os)).run call base K reads pend t s = r := by
  refine Eq.trans drs_cons ?_
  rw [hp, hg, hc]
  exact h
theorem drs_call_yes {p : SW Value k} {gf : GW Value k} {gs : List (GW Value k)} {g : GW Value k} {want : Bool} (hp : cPut k n o.dst = some p) (hg : cGuard k n all o.guard = some (some (g, want))) (hch : isCh (g.g t) = false) (hb : isB want (g.g t) = true)
    (hc : cOper P k n o = .eff ⟨fun call f s K => call (gf.g f) (evAll f gs) K s⟩)
    (h : call (gf.g t) (evAll t gs) (fun v s' => recheck (masks.getD i 0) reads s' && (cDrs P k n all masks os).run call base K reads (left (masks.getD i 0) pend) (p.s v t) s') (adopt base (masks.getD i 0) pend s) = r) :
    (cDrs P k n all masks ((i, o) :: os)).run call base K reads pend t s = r := by
  refine Eq.trans drs_cons ?_
  rw [hp, hg, hc]
  simp only [hch, hb, Bool.not_false, cond_true]
  exact h
theorem drs_nil : (cDrs P k n all masks []).run call base K reads pend t s = K t (adoptAll base pend s) := rfl
/-- the first of what is left of a written order -/
theorem pick_cons {l : List Oper} {i : Nat} {r : List Nat} {o : Oper} (h : nthO l i = some o) : pickO l (i :: r) = (i, o) :: pickO l r := by
  show (match nthO l i with | some o => (i, o) :: pickO l r | none => pickO l r) = _
  rw [h]
end
end Go.Ab
