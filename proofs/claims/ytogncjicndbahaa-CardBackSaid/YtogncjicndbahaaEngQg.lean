/- Open runs: what stays outside some blocks; maps; slices that grow. -/
import Derived.Test.YtogncjicndbahaaEngQf
namespace Go.Ab
variable {P : Program}
/-- memory has grown, and outside some blocks it is as it was -/
def Fr (X : Nat → Prop) (s s' : St) : Prop := s.nx ≤ s'.nx ∧ (∀ b, b < s.nx → ¬ X b → s'.at b = s.at b) ∧ s'.fl = s.fl
theorem Fr.refl (X : Nat → Prop) (s : St) : Fr X s s := ⟨Nat.le_refl _, fun _ _ _ => rfl, rfl⟩
theorem Fr.trans {X : Nat → Prop} {s s' s'' : St} (h : Fr X s s') (k : Fr X s' s'') : Fr X s s'' :=
  ⟨Nat.le_trans h.1 k.1, fun b hb hx => (k.2.1 b (Nat.lt_of_lt_of_le hb h.1) hx).trans (h.2.1 b hb hx), k.2.2.trans h.2.2⟩
theorem Fr.of_keep {X : Nat → Prop} {s s' : St} (h : Keep s s') : Fr X s s' := ⟨h.1, fun b hb _ => h.2.1 b hb, h.2.2⟩
theorem Fr.mono {X Y : Nat → Prop} {s s' : St} (h : Fr X s s') (hxy : ∀ b, b < s.nx → X b → Y b) : Fr Y s s' := ⟨h.1, fun b hb hy => h.2.1 b hb fun hx => hy (hxy b hb hx), h.2.2⟩
theorem Fr.keep {X : Nat → Prop} {s s' : St} (h : Fr X s s') (hx : ∀ b, b < s.nx → ¬ X b) : Keep s s' := ⟨h.1, fun b hb => h.2.1 b hb (hx b hb), h.2.2⟩
theorem AtN.fr {X : Nat → Prop} {s s' : St} (h : Fr X s s') {b a : Nat} {L : List Value} (hA : AtN s b a L) (hx : ¬ X b) : AtN s' b a L := by
  obtain ⟨h1, k, n, t, e, g, h2, h3⟩ := hA
  exact ⟨Nat.lt_of_lt_of_le h1 h.1, k, n, t, e, g, (h.2.1 b h1 hx).trans h2, h3⟩
theorem Own.fr {X : Nat → Prop} {s s' : St} (h : Fr X s s') {b : Nat} {L : List Value} (hA : Own s b L) (hx : ¬ X b) : Own s' b L := by
  obtain ⟨⟨h1, hok⟩, h0, k, n, t, e, g, h2, h3⟩ := hA
  exact ⟨⟨Nat.lt_of_lt_of_le h1 h.1, by unfold St.ok at hok ⊢; rw [h.2.2]; exact hok⟩, h0, k, n, t, e, g, (h.2.1 b h1 hx).trans h2, h3⟩
/-- a block put -/
theorem Fr.set {s : St} {b : Nat} {o : Option AObj} (hb : b < 4398046511104) : Fr (· = b) s (s.set b o) := ⟨Nat.le_refl _, fun c _ hx => by rw [St.at_set hb, if_neg hx], rfl⟩

/-! maps -/
section
variable {α : Type} [DecidableEq α]
def look : List (α × Value × Nat) → α → Option Value
  | [], _ => none
  | x :: l, a => if x.1 = a then some x.2.1 else look l a
def setv : List (α × Value × Nat) → α → Value → List (α × Value × Nat)
  | [], _, _ => []
  | x :: l, a, v => if x.1 = a then (x.1, v, x.2.2) :: l else x :: setv l a v
def delv : List (α × Value × Nat) → α → List (α × Value × Nat)
  | [], _ => []
  | x :: l, a => if x.1 = a then l else x :: delv l a
def ents (kv : α → Value) (l : List (α × Value × Nat)) : List MapEntry := l.map fun x => ⟨kv x.1, x.2.1, x.2.2⟩
/-- keys that stand for something -/
def KeyH (P : Program) (kt : TypeId) (d : TypeDesc) (kv : α → Value) : Prop := (∀ a, keyOk P d (kv a) = true) ∧ ∀ a b, kEqT P kt d (kv a) (kv b) = some (decide (a = b))
theorem findK_look {kt : TypeId} {d : TypeDesc} {kv : α → Value} (hk : KeyH P kt d kv) (a : α) : ∀ (l : List (α × Value × Nat)) (i : Nat),
    (look l a = none ∧ findK P kt d (kv a) (ents kv l) i = some none) ∨
    ∃ v n j, look l a = some v ∧ findK P kt d (kv a) (ents kv l) i = some (some (i + j, ⟨kv a, v, n⟩)) ∧ (∀ w, modL (fun e => ⟨kv a, w, e.born⟩) j (ents kv l) = ents kv (setv l a w)) ∧ delL j (ents kv l) = ents kv (delv l a)
  | [], i => .inl ⟨rfl, rfl⟩
  | x :: l, i => by
    have h := hk.2 a x.1
    by_cases hx : x.1 = a
    · have hx' : a = x.1 := hx.symm
      rw [decide_eq_true hx'] at h
      refine .inr ⟨x.2.1, x.2.2, 0, ?_, ?_, fun w => ?_, ?_⟩
      · unfold look; rw [if_pos hx]
      · show (match kEqT P kt d (kv a) (kv x.1) with | some b => bif b then some (some (i, (⟨kv x.1, x.2.1, x.2.2⟩ : MapEntry))) else findK P kt d (kv a) (ents kv l) (Nat.add i 1) | none => none) = _
        rw [h, hx]; rfl
      · unfold setv; rw [if_pos hx, ← hx]; rfl
      · unfold delv; rw [if_pos hx]; rfl
    · have hx' : ¬ a = x.1 := fun h => hx h.symm
      rw [decide_eq_false hx'] at h
      have hstep : findK P kt d (kv a) (ents kv (x :: l)) i = findK P kt d (kv a) (ents kv l) (i + 1) := by
        show (match kEqT P kt d (kv a) (kv x.1) with | some b => bif b then some (some (i, (⟨kv x.1, x.2.1, x.2.2⟩ : MapEntry))) else findK P kt d (kv a) (ents kv l) (Nat.add i 1) | none => none) = _
        rw [h]; rfl
      rcases findK_look hk a l (i + 1) with ⟨h1, h2⟩ | ⟨v, n, j, h1, h2, h3, h4⟩
      · refine .inl ⟨?_, hstep.trans h2⟩
        unfold look; rw [if_neg hx]; exact h1
      · refine .inr ⟨v, n, j + 1, ?_, ?_, fun w => ?_, ?_⟩
        · unfold look; rw [if_neg hx]; exact h1
        · rw [hstep, h2]; congr 3; omega
        · unfold setv; rw [if_neg hx]; show _ :: modL _ j (ents kv l) = _; rw [h3 w]; rfl
        · unfold delv; rw [if_neg hx]; show _ :: delL j (ents kv l) = _; rw [h4]; rfl
theorem look_mem : ∀ {l : List (α × Value × Nat)} {a : α}, look l a = none ↔ a ∉ l.map (·.1)
  | [], a => by simp [look]
  | x :: l, a => by
    unfold look
    by_cases hx : x.1 = a
    · rw [if_pos hx]; simp [hx]
    · rw [if_neg hx, look_mem (l := l)]
      have hx' : ¬ a = x.1 := fun h => hx h.symm
      simp only [List.map_cons, List.mem_cons, hx', false_or]
theorem look_app : ∀ {l : List (α × Value × Nat)} {a : α} {v : Value} {n : Nat}, look l a = none → ∀ b, look (l ++ [(a, v, n)]) b = if b = a then some v else look l b
  | [], a, v, n, _, b => by
    show (if a = b then some v else none) = _
    by_cases h : b = a
    · rw [if_pos h, if_pos h.symm]
    · rw [if_neg h, if_neg (fun e => h e.symm)]; rfl
  | x :: l, a, v, n, h, b => by
    unfold look at h
    by_cases hx : x.1 = a
    · rw [if_pos hx] at h; cases h
    · rw [if_neg hx] at h
      show (if x.1 = b then some x.2.1 else look (l ++ [(a, v, n)]) b) = if b = a then some v else (if x.1 = b then some x.2.1 else look l b)
      rw [look_app h b]
      by_cases hb : x.1 = b
      · rw [if_pos hb, if_pos hb, if_neg (fun e => hx (hb.trans e))]
      · rw [if_neg hb, if_neg hb]
theorem setv_keys : ∀ {l : List (α × Value × Nat)} {a : α} {v : Value}, (setv l a v).map (·.1) = l.map (·.1)
  | [], _, _ => rfl
  | x :: l, a, v => by
    unfold setv
    by_cases hx : x.1 = a
    · rw [if_pos hx]; rfl
    · rw [if_neg hx]; simp only [List.map_cons, setv_keys]
theorem look_setv : ∀ {l : List (α × Value × Nat)} {a : α} {v w : Value}, look l a = some w → ∀ b, look (setv l a v) b = if b = a then some v else look l b
  | [], _, _, _, h, _ => by simp [look] at h
  | x :: l, a, v, w, h, b => by
    unfold look at h
    unfold setv
    by_cases hx : x.1 = a
    · rw [if_pos hx]
      show (if x.1 = b then some v else look l b) = if b = a then some v else (if x.1 = b then some x.2.1 else look l b)
      by_cases hb : b = a
      · rw [if_pos hb, if_pos (hx.trans hb.symm)]
      · rw [if_neg hb, if_neg (fun e => hb (e.symm.trans hx)), if_neg (fun e => hb (e.symm.trans hx))]
    · rw [if_neg hx] at h ⊢
      show (if x.1 = b then some x.2.1 else look (setv l a v) b) = if b = a then some v else (if x.1 = b then some x.2.1 else look l b)
      rw [look_setv h b]
      by_cases hb : x.1 = b
      · rw [if_pos hb, if_pos hb, if_neg (fun e => hx (hb.trans e))]
      · rw [if_neg hb, if_neg hb]
theorem delv_sub : ∀ {l : List (α × Value × Nat)} {a : α}, List.Sublist (delv l a) l
  | [], _ => .slnil
  | x :: l, a => by
    unfold delv
    by_cases hx : x.1 = a
    · rw [if_pos hx]; exact List.sublist_cons_self _ _
    · rw [if_neg hx]; exact delv_sub.cons_cons _
theorem look_delv : ∀ {l : List (α × Value × Nat)} {a : α}, (l.map (·.1)).Nodup → ∀ b, look (delv l a) b = if b = a then none else look l b
  | [], a, _, b => by simp [delv, look]
  | x :: l, a, hn, b => by
    rw [List.map_cons, List.nodup_cons] at hn
    unfold delv
    by_cases hx : x.1 = a
    · rw [if_pos hx]
      show look l b = if b = a then none else (if x.1 = b then some x.2.1 else look l b)
      by_cases hb : b = a
      · rw [if_pos hb, hb, ← hx, look_mem.2 hn.1]
      · rw [if_neg hb, if_neg (fun e => hb (e.symm.trans hx))]
    · rw [if_neg hx]
      show (if x.1 = b then some x.2.1 else look (delv l a) b) = if b = a then none else (if x.1 = b then some x.2.1 else look l b)
      rw [look_delv hn.2 b]
      by_cases hb : x.1 = b
      · rw [if_pos hb, if_pos hb, if_neg (fun e => hx (hb.trans e))]
      · rw [if_neg hb, if_neg hb]
/-- a block that is a map, with all that it holds -/
def MapF (kv : α → Value) (s : St) (b : Nat) (f : α → Option Value) : Prop :=
  (b < s.nx ∧ s.ok b = true) ∧ b < 4398046511104 ∧ ∃ (l : List (α × Value × Nat)) (c : Nat), s.at b = some (.map (ents kv l) c) ∧ (l.map (·.1)).Nodup ∧ ∀ a, f a = look l a
theorem MapF.fr {kv : α → Value} {X : Nat → Prop} {s s' : St} (h : Fr X s s') {b : Nat} {f : α → Option Value} (hA : MapF kv s b f) (hx : ¬ X b) : MapF kv s' b f := by
  obtain ⟨⟨h1, hok⟩, h0, l, c, h2, h3⟩ := hA
  exact ⟨⟨Nat.lt_of_lt_of_le h1 h.1, by unfold St.ok at hok ⊢; rw [h.2.2]; exact hok⟩, h0, l, c, (h.2.1 b h1 hx).trans h2, h3⟩
theorem MapF.keep {kv : α → Value} {s s' : St} (h : Keep s s') {b : Nat} {f : α → Option Value} (hA : MapF kv s b f) : MapF kv s' b f := hA.fr (Fr.of_keep (X := fun _ => False) h) (fun h => h)
theorem MapF.push {kv : α → Value} {s : St} (h : s.nx < 4398046511104) (hfl : s.fl ≤ s.nx) : MapF kv (s.push (.map [] 0)) s.nx (fun _ => none) :=
  ⟨⟨by rw [St.nx_push]; omega, ok_of hfl⟩, h, [], 0, by rw [St.at_push h, if_pos rfl]; rfl, List.nodup_nil, fun _ => rfl⟩
theorem MapF.get {kv : α → Value} {s : St} {b : Nat} {f : α → Option Value} (h : MapF kv s b f) {kt : TypeId} {d : TypeDesc} (hk : KeyH P kt d kv) (a : α) {z : Value} {ok : Bool} (K : Value → Bool) :
    mapGet P kt d z ok (.map (some b)) (kv a) s K = K (match f a with | some v => pairV ok v true | none => pairV ok z false) := by
  obtain ⟨_, _, l, c, h2, h3, h4⟩ := h
  unfold mapGet
  rw [hk.1 a]
  simp only [cond_true, asMap, onMap, h2]
  rw [h4 a]
  rcases findK_look hk a l 0 with ⟨h5, h6⟩ | ⟨v, n, j, h5, h6, _⟩
  · rw [h5, h6]
  · rw [h5, h6]
theorem MapF.upd {kv : α → Value} {s : St} {b : Nat} {f : α → Option Value} (h : MapF kv s b f) {kt : TypeId} {d : TypeDesc} (hk : KeyH P kt d kv) (a : α) (v : Value) {K : KV} {r : Bool}
    (hK : ∀ s', s'.nx = s.nx → Fr (· = b) s s' → MapF kv s' b (fun x => if x = a then some v else f x) → K undef s' = r) : mapUpd P kt d (.map (some b)) (kv a) v s K = r := by
  obtain ⟨⟨h1, hok⟩, h0, l, c, h2, h3, h4⟩ := h
  unfold mapUpd
  rw [hk.1 a]
  simp only [cond_true, asMap, onMap, h2, hok]
  have fin : ∀ l' c', (l'.map (·.1)).Nodup → (∀ x, (if x = a then some v else f x) = look l' x) → MapF kv (s.set b (some (.map (ents kv l') c'))) b (fun x => if x = a then some v else f x) := fun l' c' hn hl =>
    ⟨⟨h1, hok⟩, h0, l', c', by rw [St.at_set h0, if_pos rfl], hn, hl⟩
  rcases findK_look hk a l 0 with ⟨h5, h6⟩ | ⟨w, n, j, h5, h6, h7, _⟩
  · rw [h6]
    have e : ents kv l ++ [⟨kv a, v, c⟩] = ents kv (l ++ [(a, v, c)]) := by unfold ents; rw [List.map_append]; rfl
    show K undef (s.set b (some (.map (ents kv l ++ [⟨kv a, v, c⟩]) (Nat.add c 1)))) = r
    rw [e]
    refine hK _ rfl (Fr.set h0) (fin _ _ ?_ fun x => ?_)
    · rw [List.map_append, List.nodup_append]
      refine ⟨h3, List.nodup_cons.2 ⟨List.not_mem_nil, List.nodup_nil⟩, fun y hy z hz => ?_⟩
      rw [List.map_cons, List.mem_cons] at hz
      rcases hz with hz | hz
      · subst hz; intro e; subst e; exact look_mem.1 h5 hy
      · simp at hz
    · rw [look_app h5, h4 x]
  · rw [h6]
    simp only [Nat.zero_add]
    rw [h7 v]
    refine hK _ rfl (Fr.set h0) (fin _ _ (by rw [setv_keys]; exact h3) fun x => ?_)
    rw [look_setv h5, h4 x]
theorem MapF.del {kv : α → Value} {s : St} {b : Nat} {f : α → Option Value} (h : MapF kv s b f) {kt : TypeId} {d : TypeDesc} (hk : KeyH P kt d kv) (a : α) {K : KV} {r : Bool}
    (hK : ∀ s', s'.nx = s.nx → Fr (· = b) s s' → MapF kv s' b (fun x => if x = a then none else f x) → K undef s' = r) : mapDel P kt d (.map (some b)) (kv a) s K = r := by
  obtain ⟨⟨h1, hok⟩, h0, l, c, h2, h3, h4⟩ := h
  unfold mapDel
  rw [hk.1 a]
  simp only [cond_true, asMap, onMap, h2, hok]
  have fin : ∀ l' c', (l'.map (·.1)).Nodup → (∀ x, (if x = a then none else f x) = look l' x) → MapF kv (s.set b (some (.map (ents kv l') c'))) b (fun x => if x = a then none else f x) := fun l' c' hn hl =>
    ⟨⟨h1, hok⟩, h0, l', c', by rw [St.at_set h0, if_pos rfl], hn, hl⟩
  rcases findK_look hk a l 0 with ⟨h5, h6⟩ | ⟨w, n, j, h5, h6, _, h8⟩
  · rw [h6]
    refine hK _ rfl (Fr.set h0) (fin _ _ h3 fun x => ?_)
    rw [h4 x]
    by_cases hx : x = a
    · rw [if_pos hx, hx, h5]
    · rw [if_neg hx]
  · rw [h6]
    simp only [Nat.zero_add]
    rw [h8]
    refine hK _ rfl (Fr.set h0) (fin _ _ (h3.sublist (delv_sub.map _)) fun x => ?_)
    rw [look_delv h3, h4 x]
end
end Go.Ab
