/- The state and the world. -/
import Derived.Test.YtogncjicndbahaaEngB
import Derived.Below
namespace Go.Ab
section
variable (P : Program)

theorem fix_of {s : St} {b : Nat} {o : AObj} (h : isRo o = false) (h2 : s.ok b = true) : s.fix b o = false := by
  unfold St.ok at h2
  unfold St.fix
  rw [h]
  cases hb : Nat.blt b s.fl with
  | false => rfl
  | true => rw [hb] at h2; cases h2
/-- entries of a map: the same keys and numbers, values that are related -/
def EsR (ρ : Ren) : List MapEntry → List MapEntry → Prop
  | [], [] => True
  | e :: es, E :: ES => (E.key = e.key ∧ E.born = e.born ∧ pureC 4 e.key = true ∧ VR ρ e.val E.val) ∧ EsR ρ es ES
  | _, _ => False
/-- what an abstract object says of a block -/
def OR (ρ : Ren) (r : Rn) : AObj → Obj → Prop
  | .cells k n t e g, O => ∃ (C : Array Value) (e' : TypeId) (fr : Nat × Nat), O = .cells C e' fr ∧ (Nat.beq e ro = false ∨ g = true → e' = e ∧ fr = (0, 0)) ∧ r.gr = g ∧ (g = true → sizeT P e = some r.es) ∧ r.sz = C.size ∧ r.sh + n ≤ C.size ∧ n ≤ pow8 k ∧
      ∀ i, i < n → VR ρ ((getW k i).g t) (C.getD (r.sh + i) undef)
  | .loop st pend k n t ps asg body d, O => ∃ (fn : FuncId) (T : Array Value) (rd : Rn), r.gr = false ∧ ρ d = some rd ∧
      O = .loop { state := st, pending := pend, fn, tmps := T, params := ps.toArray, assign := asg, body, defers := rd.blk } ∧
      T.size = n ∧ n ≤ pow8 k ∧ ∀ i, i < n → VR ρ ((getW k i).g t) (T.getD i undef)
  | .dfr, O => r.gr = false ∧ O = .deferred (some [])
  | .map es c, O => r.gr = false ∧ ∃ ES : Array MapEntry, O = .map ES c ∧ EsR ρ es ES.toList
  | .mit m since seen last, O => r.gr = false ∧ r.sh = 0 ∧ match m with
    | none => O = .mapIter none since ⟨seen⟩ last
    | some b => ∃ rm, ρ b = some rm ∧ O = .mapIter (some rm.blk) since ⟨seen⟩ last
  | .sit w pos, O => r.gr = false ∧ r.sh = 0 ∧ O = .stringIter w pos

structure SR (ρ : Ren) (s : St) (W : World) : Prop where
  obj : ∀ b o, s.at b = some o → ∃ r O, ρ b = some r ∧ W.heap[r.blk]? = some O ∧ OR P ρ r o O
  inj : ∀ b c o o' r r', s.at b = some o → s.at c = some o' → ρ b = some r → ρ c = some r' → r.blk = r'.blk → b = c
  new : ∀ b, s.nx ≤ b → ρ b = none

/-- one step: what was named stays named; memory that is not named stays as it was -/
structure Stp (ρ : Ren) (s : St) (W : World) (ρ' : Ren) (s' : St) (W' : World) : Prop where
  ext : Ext ρ ρ'
  sr : SR P ρ' s' W'
  os : W'.os = W.os
  tape : W'.tape = W.tape
  output : W'.output = W.output
  size : W.heap.size ≤ W'.heap.size
  nx : s.nx ≤ s'.nx
  keep : ∀ b, b < s.nx → ρ' b = ρ b
  frame : ∀ B, B < W.heap.size → (∀ b o r, s.at b = some o → ρ b = some r → r.blk = B → s.fix b o = true) → W'.heap[B]? = W.heap[B]?
  img : ∀ b o r, s'.at b = some o → ρ' b = some r → W.heap.size ≤ r.blk ∨ ∃ c o' r', s.at c = some o' ∧ ρ c = some r' ∧ r'.blk = r.blk ∧ (s.fix c o' = true → s'.fix b o = true)
end
variable {P : Program}

theorem Stp.refl {ρ : Ren} {s : St} {W : World} (h : SR P ρ s W) : Stp P ρ s W ρ s W :=
  ⟨.refl ρ, h, rfl, rfl, rfl, Nat.le_refl _, Nat.le_refl _, fun _ _ => rfl, fun _ _ _ => rfl, fun b o r h1 h2 => .inr ⟨b, o, r, h1, h2, rfl, id⟩⟩
theorem SR.lt {ρ : Ren} {s : St} {W : World} (h : SR P ρ s W) {b : Nat} {o : AObj} (hb : s.at b = some o) {r : Rn} (hr : ρ b = some r) : r.blk < W.heap.size := by
  obtain ⟨r', O, h1, h2, _⟩ := h.obj b o hb
  rw [hr] at h1; cases h1
  rcases Nat.lt_or_ge r.blk W.heap.size with h | h
  · exact h
  · simp [Array.getElem?_eq_none h] at h2
theorem Stp.trans {ρ ρ' ρ'' : Ren} {s s' s'' : St} {W W' W'' : World} (h : Stp P ρ s W ρ' s' W') (k : Stp P ρ' s' W' ρ'' s'' W'') : Stp P ρ s W ρ'' s'' W'' := by
  refine ⟨h.ext.trans k.ext, k.sr, k.os.trans h.os, k.tape.trans h.tape, k.output.trans h.output, Nat.le_trans h.size k.size, Nat.le_trans h.nx k.nx, fun b hb => (k.keep b (Nat.lt_of_lt_of_le hb h.nx)).trans (h.keep b hb), fun B hB hn => ?_, fun b o r h1 h2 => ?_⟩
  · rw [k.frame B (Nat.lt_of_lt_of_le hB h.size) (fun b o r h1 h2 e => ?_), h.frame B hB hn]
    rcases h.img b o r h1 h2 with h3 | ⟨c, o', r', h3, h4, h5, h6⟩
    · omega
    · exact h6 (hn c o' r' h3 h4 (h5.trans e))
  · rcases k.img b o r h1 h2 with h3 | ⟨c, o', r', h3, h4, h5, hr⟩
    · exact .inl (Nat.le_trans h.size h3)
    · rcases h.img c o' r' h3 h4 with h6 | ⟨d, o2, r2, h6, h7, h8, hr2⟩
      · exact .inl (h5 ▸ h6)
      · exact .inr ⟨d, o2, r2, h6, h7, h8.trans h5, fun g => hr (hr2 g)⟩

theorem blt_true {a b : Nat} (h : Nat.blt a b = true) : a < b := by simpa [Nat.blt_eq] using h
theorem blt_false {a b : Nat} (h : Nat.blt a b = false) : b ≤ a := by
  rcases Nat.lt_or_ge a b with h' | h'
  · have : Nat.blt a b = true := by simpa [Nat.blt_eq] using h'
    rw [this] at h; cases h
  · exact h'
theorem blt_of {a b : Nat} (h : a < b) : Nat.blt a b = true := by simpa [Nat.blt_eq] using h
theorem pow8_6 : pow8 14 = 4398046511104 := rfl

theorem St.at_lt {s : St} {b : Nat} {o : AObj} (h : s.at b = some o) : b < 4398046511104 := by
  unfold St.at at h
  cases hb : Nat.blt b 4398046511104 with
  | true => exact blt_true hb
  | false => rw [hb] at h; cases h
theorem St.at_set {s : St} {b c : Nat} {o : Option AObj} (hb : b < 4398046511104) : (s.set b o).at c = if c = b then o else s.at c := by
  unfold St.at St.set
  by_cases hc : c < 4398046511104
  · simp only [blt_of hc, cond_true]
    rw [get_set 14 c b o s.h (by rw [pow8_6]; exact hc) (by rw [pow8_6]; exact hb)]
  · have : Nat.blt c 4398046511104 = false := by
      cases h : Nat.blt c 4398046511104 with
      | false => rfl
      | true => exact absurd (blt_true h) hc
    simp only [this, cond_false]
    rw [if_neg (by omega)]
theorem St.at_push {s : St} {c : Nat} {o : AObj} (hb : s.nx < 4398046511104) : (s.push o).at c = if c = s.nx then some o else s.at c := by
  have := St.at_set (s := s) (c := c) (o := some o) hb
  exact this
theorem St.nx_push (s : St) (o : AObj) : (s.push o).nx = s.nx + 1 := rfl
theorem St.nx_set (s : St) (b : Nat) (o : Option AObj) : (s.set b o).nx = s.nx := rfl
theorem at_st0 (b : Nat) : st0.at b = none := by
  unfold St.at st0
  cases Nat.blt b 4398046511104 with
  | true => simp only [cond_true]; exact get_ini none 14 b
  | false => rfl
theorem SR.st0 (W : World) : SR P (fun _ => none) st0 W :=
  ⟨fun b o h => by simp [at_st0] at h, fun b c o o' r r' h => by simp [at_st0] at h, fun _ _ => rfl⟩

theorem EsR.mono {ρ ρ' : Ren} (e : Ext ρ ρ') : ∀ {es ES : List MapEntry}, EsR ρ es ES → EsR ρ' es ES
  | [], [], _ => trivial
  | _ :: _, _ :: _, ⟨⟨h1, h2, h3, h4⟩, h5⟩ => ⟨⟨h1, h2, h3, h4.mono e⟩, h5.mono e⟩
/-- a draw changes nothing -/
theorem OR.mono {ρ ρ' : Ren} (e : Ext ρ ρ') {r : Rn} {o : AObj} {O : Obj} (h : OR P ρ r o O) : OR P ρ' r o O := by
  cases o with
  | cells k n t el g => obtain ⟨C, e', fr, h1, h0, h2, h3, h4, h5, h6, h7⟩ := h; exact ⟨C, e', fr, h1, h0, h2, h3, h4, h5, h6, fun i hi => (h7 i hi).mono e⟩
  | loop st pd k n t ps a b d => obtain ⟨fn, T, rd, h1, h2, h3, h4, h5, h6⟩ := h; exact ⟨fn, T, rd, h1, e _ _ h2, h3, h4, h5, fun i hi => (h6 i hi).mono e⟩
  | dfr => exact h
  | map es c => obtain ⟨h1, ES, h2, h3⟩ := h; exact ⟨h1, ES, h2, h3.mono e⟩
  | mit m since seen last =>
    obtain ⟨h1, h2, h3⟩ := h
    refine ⟨h1, h2, ?_⟩
    cases m with
    | none => exact h3
    | some b => obtain ⟨rm, h4, h5⟩ := h3; exact ⟨rm, e _ _ h4, h5⟩
  | sit w pos => exact h
theorem SR.heap {ρ : Ren} {s : St} {W W' : World} (h : SR P ρ s W) (e : W'.heap = W.heap) : SR P ρ s W' :=
  ⟨fun b o hb => by rw [e]; exact h.obj b o hb, h.inj, h.new⟩
theorem Stp.drew {ρ : Ren} {s : St} {W : World} (h : SR P ρ s W) (n : Nat) : Stp P ρ s W ρ s { W with drawn := n } :=
  ⟨.refl ρ, h.heap rfl, rfl, rfl, rfl, Nat.le_refl _, Nat.le_refl _, fun _ _ => rfl, fun _ _ _ => rfl, fun b o r h1 h2 => .inr ⟨b, o, r, h1, h2, rfl, id⟩⟩

/-- the names, one more -/
def Ren.add (ρ : Ren) (b : Nat) (r : Rn) : Ren := fun c => if c = b then some r else ρ c
theorem Ren.add_ext {ρ : Ren} {b : Nat} {r : Rn} (h : ρ b = none) : Ext ρ (ρ.add b r) := fun c x hc => by
  unfold Ren.add
  rw [if_neg (fun e => by rw [e, h] at hc; cases hc)]; exact hc
theorem Ren.add_self (ρ : Ren) (b : Nat) (r : Rn) : (ρ.add b r) b = some r := by simp [Ren.add]

theorem alloc_heap (W : World) (O : Obj) : (W.alloc O).heap = W.heap.push O := rfl
/-- a new block -/
theorem Stp.push {ρ : Ren} {s : St} {W : World} (h : SR P ρ s W) (hn : s.nx < 4398046511104) {o : AObj} {O : Obj} {r : Rn} (hr : r.blk = W.heap.size)
    (ho : OR P (ρ.add s.nx r) r o O) : Stp P ρ s W (ρ.add s.nx r) (s.push o) (W.alloc O) := by
  have hx : Ext ρ (ρ.add s.nx r) := Ren.add_ext (h.new _ (Nat.le_refl _))
  have hsz : (W.alloc O).heap.size = W.heap.size + 1 := by rw [alloc_heap, Array.size_push]
  refine ⟨hx, ⟨fun b o' hb => ?_, fun b c o1 o2 r1 r2 h1 h2 h3 h4 h5 => ?_, fun b hb => ?_⟩, rfl, rfl, rfl, by rw [hsz]; omega, by rw [St.nx_push]; omega, fun b hb => by unfold Ren.add; rw [if_neg (by omega)], fun B hB _ => ?_, fun b o' r' h1 h2 => ?_⟩
  · rw [St.at_push hn] at hb
    by_cases e : b = s.nx
    · rw [if_pos e] at hb; cases hb; subst e
      exact ⟨r, O, Ren.add_self _ _ _, by rw [hr, alloc_heap, Array.getElem?_push, if_pos rfl], ho⟩
    · rw [if_neg e] at hb
      obtain ⟨r1, O1, h1, h2, h3⟩ := h.obj b o' hb
      refine ⟨r1, O1, hx _ _ h1, ?_, h3.mono hx⟩
      have := h.lt hb h1
      rw [alloc_heap, Array.getElem?_push, if_neg (by omega)]; exact h2
  · rw [St.at_push hn] at h1 h2
    by_cases e1 : b = s.nx <;> by_cases e2 : c = s.nx
    · omega
    · rw [if_neg e2] at h2
      exfalso
      obtain ⟨rc, Oc, g1, g2, g3⟩ := h.obj c o2 h2
      have g4 := h.lt h2 g1
      have := hx _ _ g1
      rw [h4] at this; cases this
      subst e1
      rw [Ren.add_self] at h3; cases h3
      omega
    · rw [if_neg e1] at h1
      exfalso
      obtain ⟨rc, Oc, g1, g2, g3⟩ := h.obj b o1 h1
      have g4 := h.lt h1 g1
      have := hx _ _ g1
      rw [h3] at this; cases this
      subst e2
      rw [Ren.add_self] at h4; cases h4
      omega
    · rw [if_neg e1] at h1; rw [if_neg e2] at h2
      obtain ⟨ra, Oa, g1, _, _⟩ := h.obj b o1 h1
      obtain ⟨rb, Ob, g2, _, _⟩ := h.obj c o2 h2
      have f1 := hx _ _ g1; rw [h3] at f1; cases f1
      have f2 := hx _ _ g2; rw [h4] at f2; cases f2
      exact h.inj b c o1 o2 _ _ h1 h2 g1 g2 h5
  · unfold Ren.add
    rw [St.nx_push] at hb
    rw [if_neg (by omega)]; exact h.new b (by omega)
  · rw [alloc_heap, Array.getElem?_push, if_neg (by omega)]
  · rw [St.at_push hn] at h1
    by_cases e : b = s.nx
    · subst e; rw [Ren.add_self] at h2; cases h2; exact .inl (by omega)
    · rw [if_neg e] at h1
      obtain ⟨ra, Oa, g1, _, _⟩ := h.obj b o' h1
      have f1 := hx _ _ g1; rw [h2] at f1; cases f1
      exact .inr ⟨b, o', _, h1, g1, rfl, id⟩

/-- an object changed in its place -/
theorem Stp.set {ρ : Ren} {s : St} {W W' : World} (h : SR P ρ s W) {b : Nat} {o o' : AObj} {r : Rn} {O' : Obj} (hb : s.at b = some o) (hro : s.fix b o = false) (hr : ρ b = some r)
    (hos : W'.os = W.os) (htape : W'.tape = W.tape) (hout : W'.output = W.output) (hsz : W'.heap.size = W.heap.size)
    (hat : W'.heap[r.blk]? = some O') (hoth : ∀ B, B ≠ r.blk → W'.heap[B]? = W.heap[B]?) (ho : OR P ρ r o' O') : Stp P ρ s W ρ (s.set b (some o')) W' := by
  have hlt := St.at_lt hb
  refine ⟨.refl ρ, ⟨fun c x hc => ?_, fun c d o1 o2 r1 r2 h1 h2 h3 h4 h5 => ?_, fun c hc => h.new c hc⟩, hos, htape, hout, by omega, Nat.le_refl _, fun _ _ => rfl, fun B _ hn => hoth B fun e => (by have := hn b o r hb hr e.symm; rw [hro] at this; cases this), fun c x r' h1 h2 => .inr ?_⟩
  · rw [St.at_set hlt] at hc
    by_cases e : c = b
    · rw [if_pos e] at hc; cases hc; subst e; exact ⟨r, O', hr, hat, ho⟩
    · rw [if_neg e] at hc
      obtain ⟨r1, O1, h1, h2, h3⟩ := h.obj c x hc
      refine ⟨r1, O1, h1, ?_, h3⟩
      rw [hoth _ (fun e' => e (h.inj c b x o r1 r hc hb h1 hr e'))]; exact h2
  · rw [St.at_set hlt] at h1 h2
    have g1 : ∃ x, s.at c = some x := by
      by_cases e : c = b
      · exact ⟨o, e ▸ hb⟩
      · rw [if_neg e] at h1; exact ⟨_, h1⟩
    have g2 : ∃ x, s.at d = some x := by
      by_cases e : d = b
      · exact ⟨o, e ▸ hb⟩
      · rw [if_neg e] at h2; exact ⟨_, h2⟩
    obtain ⟨x, g1⟩ := g1
    obtain ⟨y, g2⟩ := g2
    exact h.inj c d x y r1 r2 g1 g2 h3 h4 h5
  · rw [St.at_set hlt] at h1
    by_cases e : c = b
    · subst e; exact ⟨c, o, r', hb, h2, rfl, fun h => by rw [hro] at h; cases h⟩
    · rw [if_neg e] at h1; exact ⟨c, x, r', h1, h2, rfl, id⟩
/-- an object forgotten -/
theorem SR.drop {ρ : Ren} {s : St} {W : World} (h : SR P ρ s W) {b : Nat} (hb : b < 4398046511104) : SR P ρ (s.set b none) W := by
  have hx : ∀ {c o}, (s.set b none).at c = some o → s.at c = some o := fun {c o} hc => by
    rw [St.at_set hb] at hc
    by_cases e : c = b
    · rw [if_pos e] at hc; cases hc
    · rw [if_neg e] at hc; exact hc
  exact ⟨fun c o hc => h.obj c o (hx hc), fun c d o1 o2 r1 r2 h1 h2 => h.inj c d o1 o2 r1 r2 (hx h1) (hx h2), h.new⟩
theorem Stp.drop {ρ ρ' : Ren} {s s' : St} {W W' : World} (h : Stp P ρ s W ρ' s' W') {b : Nat} (hb : b < 4398046511104) : Stp P ρ s W ρ' (s'.set b none) W' := by
  refine { h with sr := h.sr.drop hb, img := fun c o r h1 h2 => h.img c o r ?_ h2, nx := h.nx }
  rw [St.at_set hb] at h1
  by_cases e : c = b
  · rw [if_pos e] at h1; cases h1
  · rw [if_neg e] at h1; exact h1

/-- frames -/
structure AR (ρ : Ren) (k n : Nat) (t : Fm Value k) (A : Act) : Prop where
  size : A.tmps.size = n
  le : n ≤ pow8 k
  slot : ∀ i, i < n → VR ρ ((getW k i).g t) (A.tmps.getD i undef)
theorem AR.mono {ρ ρ' : Ren} (e : Ext ρ ρ') {k n : Nat} {t : Fm Value k} {A : Act} (h : AR ρ k n t A) : AR ρ' k n t A := ⟨h.size, h.le, fun i hi => (h.slot i hi).mono e⟩
theorem AR.put {ρ : Ren} {k n : Nat} {t : Fm Value k} {A : Act} (h : AR ρ k n t A) {dst : Option Tmp} {p : SW Value k} (hp : cPut k n dst = some p) {v V : Value} (hv : VR ρ v V) :
    AR ρ k n (p.s v t) (A.put dst V) := by
  unfold cPut at hp
  cases dst with
  | none => cases hp; exact h
  | some d =>
    simp only at hp
    cases hd : Nat.blt d n with
    | false => rw [hd] at hp; cases hp
    | true =>
      rw [hd] at hp; cases hp
      have hd := blt_true hd
      refine ⟨by simp [Act.put, h.size], h.le, fun i hi => ?_⟩
      rw [get_set k i d v t (Nat.lt_of_lt_of_le hi h.le) (Nat.lt_of_lt_of_le hd h.le)]
      simp only [Act.put]
      by_cases e : i = d
      · subst e; rw [if_pos rfl]
        have hs := h.size
        simp [Array.getD, hs, hi]; exact hv
      · rw [if_neg e]
        have := h.slot i hi
        simp only [Array.getD_eq_getD_getElem?] at this ⊢
        rw [Array.getElem?_setIfInBounds_ne (by omega)]; exact this
theorem cEv_sound {ρ : Ren} {k n : Nat} {t : Fm Value k} {A : Act} (h : AR ρ k n t A) {x : Operand} {g : GW Value k} (hx : cEv k n x = some g) : VR ρ (g.g t) (A.eval x) := by
  cases x with
  | tmp i =>
    simp only [cEv] at hx
    cases hi : Nat.blt i n with
    | false => rw [hi] at hx; cases hx
    | true => rw [hi] at hx; cases hx; exact h.slot i (blt_true hi)
  | const v =>
    simp only [cEv] at hx
    cases hi : pureC 4 v with
    | false => rw [hi] at hx; cases hx
    | true => rw [hi] at hx; cases hx; exact pureC_VR ρ 4 v hi
  | global g => simp [cEv] at hx
  | func f => simp only [cEv, Option.some.injEq] at hx; subst hx; exact .func (fn := .func f) rfl .nil .nil
theorem cEvs_sound {ρ : Ren} {k n : Nat} {t : Fm Value k} {A : Act} (h : AR ρ k n t A) : ∀ {xs : List Operand} {gs : List (GW Value k)}, cEvs k n xs = some gs → VsR ρ (evAll t gs) (xs.map A.eval)
  | [], _, hx => by cases hx; exact .nil
  | x :: xs, gs, hx => by
    simp only [cEvs] at hx
    cases h1 : cEv k n x with
    | none => simp [h1] at hx
    | some g =>
      cases h2 : cEvs k n xs with
      | none => simp [h1, h2] at hx
      | some gs' => simp [h1, h2] at hx; subst hx; exact .cons (cEv_sound h h1) (cEvs_sound h h2)
end Go.Ab
