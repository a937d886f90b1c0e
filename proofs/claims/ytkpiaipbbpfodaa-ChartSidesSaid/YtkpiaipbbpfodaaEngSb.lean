/- Runs over open values: what frames and memory say; values that are read. -/
import Derived.Test.YtkpiaipbbpfodaaEngSa
namespace Go.Ab
open Go.RowKit
theorem dens_length : ∀ l : List SV, (dens l).length = l.length
  | [] => rfl
  | _ :: l => by simp [dens, dens_length l]
theorem dens_append : ∀ l r : List SV, dens (l ++ r) = dens l ++ dens r
  | [], _ => rfl
  | _ :: l, r => by simp [dens, dens_append l r]
theorem dens_get : ∀ (l : List SV) (i : Nat), (dens l)[i]? = (l[i]?).map den
  | [], _ => by simp [dens]
  | _ :: _, 0 => by simp [dens]
  | _ :: l, i + 1 => by simp [dens, dens_get l i]
theorem dens_drop : ∀ (l : List SV) (n : Nat), dens (l.drop n) = (dens l).drop n
  | [], n => by simp [dens]
  | _ :: _, 0 => rfl
  | _ :: l, n + 1 => by simp [dens, dens_drop l n]
theorem dens_take : ∀ (l : List SV) (n : Nat), dens (l.take n) = (dens l).take n
  | [], n => by simp [dens]
  | _ :: _, 0 => by simp [dens]
  | _ :: l, n + 1 => by simp [dens, dens_take l n]
theorem den_ofV (v : Value) : den (ofV v) = v := by cases v <;> rfl
theorem dens_ofVs : ∀ l : List Value, dens (ofVs l) = l
  | [] => rfl
  | v :: l => by simp [ofVs, dens, den_ofV, dens_ofVs l]
def FrameOK (k n : Nat) (t : Fm Value k) (f : Frm) : Prop := ∀ i, i < n → isJ (getF f i) = false → (getW k i).g t = den (getF f i)
theorem FrameOK.put {k n : Nat} {t : Fm Value k} {f : Frm} (hn : n ≤ pow8 k) (h : FrameOK k n t f) {d : Nat} (hd : d < n) {v : Value} {w : SV} (hv : isJ w = false → v = den w) : FrameOK k n ((setW k d).s v t) ((d, w) :: f) := by
  intro i hi hj
  have e : getF ((d, w) :: f) i = if i = d then w else getF f i := by
    show (bif Nat.beq d i then w else getF f i) = _
    by_cases h : i = d
    · subst h; rw [if_pos rfl, Nat.beq_refl]; rfl
    · rw [if_neg h]
      cases hb : Nat.beq d i with
      | false => rfl
      | true => exact absurd (beq_true hb).symm h
  rw [get_set k i d v t (by omega) (by omega)]
  rw [e] at hj ⊢
  by_cases h' : i = d
  · subst h'; rw [if_pos rfl] at hj ⊢; rw [if_pos rfl]; exact hv hj
  · rw [if_neg h'] at hj ⊢; rw [if_neg h']; exact h i hi hj
def putF (d : Option Tmp) (v : SV) (f : Frm) : Frm := match d with
  | none => f
  | some d => (d, v) :: f
def putK (d : Option Tmp) (v : SV) (f : Frm) (K : Frm → Prop) : Prop := match d with
  | none => K f
  | some d => K ((d, v) :: f)
theorem putK_eq (d : Option Tmp) (v : SV) (f : Frm) (K : Frm → Prop) : putK d v f K = K (putF d v f) := by cases d <;> rfl
theorem FrameOK.putO {k n : Nat} {t : Fm Value k} {f : Frm} (hn : n ≤ pow8 k) (h : FrameOK k n t f) {d : Option Tmp} {p : SW Value k} (hp : cPut k n d = some p) {v : Value} {w : SV} (hv : isJ w = false → v = den w) : FrameOK k n (p.s v t) (putF d w f) := by
  cases d with
  | none => cases hp; exact h
  | some d =>
    have hp : (bif Nat.blt d n then some (setW k d) else none) = some p := hp
    cases hd : Nat.blt d n with
    | false => rw [hd] at hp; cases hp
    | true => rw [hd] at hp; cases hp; exact h.put hn (blt_true hd) hv
theorem okO_ev {k n : Nat} {x : Operand} (h : okO n x = true) : ∃ g, cEv k n x = some g := by
  cases x with
  | tmp t => have h : Nat.blt t n = true := h; exact ⟨getW k t, by show (bif Nat.blt t n then some (getW k t) else none) = _; rw [h]; rfl⟩
  | const v => have h : pureC 4 v = true := h; exact ⟨⟨fun _ => v⟩, by show (bif pureC 4 v then some (⟨fun _ => v⟩ : GW Value k) else none) = _; rw [h]; rfl⟩
  | func g => exact ⟨_, rfl⟩
  | global _ => cases h
theorem evS_ok {k n : Nat} {t : Fm Value k} {f : Frm} (hf : FrameOK k n t f) (x : Operand) (h : isJ (evS n f x) = false) : ∃ g, cEv k n x = some g ∧ g.g t = den (evS n f x) := by
  cases x with
  | tmp i =>
    unfold evS at h ⊢
    unfold cEv
    cases hb : Nat.blt i n with
    | false => simp only [hb, cond_false] at h; cases h
    | true =>
      simp only [hb, cond_true] at h ⊢
      exact ⟨_, rfl, hf i (blt_true hb) h⟩
  | const v =>
    unfold evS at h ⊢
    unfold cEv
    cases hb : pureC 4 v with
    | false => simp only [hb, cond_false] at h; cases h
    | true =>
      simp only [hb, cond_true] at h ⊢
      refine ⟨_, rfl, ?_⟩
      cases v <;> first | rfl | (show Value.agg _ = Value.agg ⟨dens (ofVs _)⟩; rw [dens_ofVs])
  | func g => exact ⟨_, rfl, rfl⟩
  | global _ => cases h
theorem evS_eq {k n : Nat} {t : Fm Value k} {f : Frm} (hf : FrameOK k n t f) {x : Operand} {w : SV} (e : evS n f x = w) (h : isJ w = false) : ∃ g, cEv k n x = some g ∧ g.g t = den w := by
  subst e; exact evS_ok hf x h
/-! memory -/
def slL (f : Nat → List SV) : Nat → List Value
  | 0 => []
  | n + 1 => slL f n ++ dens (f n)
theorem slL_length {f : Nat → List SV} {sz : Nat} : ∀ {n : Nat}, (∀ j, j < n → (f j).length = sz) → (slL f n).length = n * sz
  | 0, _ => by simp [slL]
  | n + 1, h => by rw [slL, List.length_append, slL_length fun j hj => h j (by omega), dens_length, h n (by omega), Nat.succ_mul]
theorem slL_get {f : Nat → List SV} {sz : Nat} : ∀ {n : Nat}, (∀ j, j < n → (f j).length = sz) → ∀ j q, j < n → q < sz → (slL f n)[j * sz + q]? = (dens (f j))[q]?
  | n + 1, h, j, q, hj, hq => by
    have hl := slL_length (n := n) fun j hj => h j (by omega)
    rw [slL]
    by_cases h' : j = n
    · subst h'
      rw [List.getElem?_append_right (by omega), hl, Nat.add_sub_cancel_left]
    · have hlt : j * sz + q < n * sz := by
        have : (j + 1) * sz ≤ n * sz := Nat.mul_le_mul_right _ (by omega)
        rw [Nat.succ_mul] at this; omega
      rw [List.getElem?_append_left (by omega)]
      exact slL_get (fun j hj => h j (by omega)) j q (by omega) hq
theorem slL_congr {f g : Nat → List SV} : ∀ {n : Nat}, (∀ j, j < n → f j = g j) → slL f n = slL g n
  | 0, _ => rfl
  | n + 1, h => by rw [slL, slL, slL_congr fun j hj => h j (by omega), h n (by omega)]
def EntOK (X Z : Nat → Prop) (s0 s : St) : Ent → Prop
  | .own b e l => OwnE s b e (dens l) ∧ (s0.nx ≤ b ∨ X b)
  | .ro a n _ sz f => (∀ j, j < n → (f j).length = sz) ∧ (n = 0 ∨ ∃ b p, a = some ⟨b, p, none⟩ ∧ AtN s b p (slL f n) ∧ (s0.nx ≤ b ∨ X b ∨ Z b))
  | .gr a n e sz f => (∀ j, j < n → (f j).length = sz) ∧ SlV e sz s (.slice a n n) (slL f n) ∧ ∀ b, slB (.slice a n n) b → (s0.nx ≤ b ∨ X b)
def fpE : Ent → Nat → Prop
  | .own b _ _ => fun x => x = b
  | .ro _ _ _ _ _ => fun _ => False
  | .gr a n _ _ _ => slB (.slice a n n)
def rdE : Ent → Nat → Prop
  | .ro a n _ _ _ => fun x => n ≠ 0 ∧ ∃ p, a = some ⟨x, p, none⟩
  | _ => fun _ => False
/-- two entries that do not touch each other -/
def apE (x y : Ent) : Prop := (∀ b, fpE x b → ¬ fpE y b) ∧ (∀ b, fpE x b → ¬ rdE y b) ∧ ∀ b, rdE x b → ¬ fpE y b
structure MemOK (X Z : Nat → Prop) (s0 : St) (R : Nat) (s : St) (m : Mem) : Prop where
  fr : Fr X s0 s
  nx : s.nx + R ≤ 262144
  fl : s0.fl ≤ s0.nx
  ent : ∀ x ∈ m, EntOK X Z s0 s x.2
  dis : m.Pairwise fun x y => apE x.2 y.2
theorem getM_mem : ∀ {m : Mem} {i : Nat} {e : Ent}, getM m i = some e → ∃ j, (j, e) ∈ m
  | (j, v) :: r, i, e, h => by
    have h : (bif Nat.beq j i then some v else getM r i) = some e := h
    cases hb : Nat.beq j i with
    | true => rw [hb] at h; cases h; exact ⟨j, by simp⟩
    | false =>
      rw [hb] at h
      obtain ⟨q, hq⟩ := getM_mem h
      exact ⟨q, by simp [hq]⟩
theorem MemOK.get {X Z : Nat → Prop} {s0 : St} {R : Nat} {s : St} {m : Mem} (h : MemOK X Z s0 R s m) {i : Nat} {e : Ent} (hi : getM m i = some e) : EntOK X Z s0 s e := by
  obtain ⟨j, hj⟩ := getM_mem hi
  exact h.ent _ hj
/-- the cells of an element -/
theorem el_at {s : St} {b p n sz : Nat} {f : Nat → List SV} (hl : ∀ j, j < n → (f j).length = sz) (h : AtN s b p (slL f n)) {j : Nat} (hj : j < n) : AtN s b (p + j * sz) (dens (f j)) := by
  obtain ⟨h1, k, n', t, e, g, h2, h3, h4⟩ := h
  have hlen := slL_length hl
  have hjs : (j + 1) * sz ≤ n * sz := Nat.mul_le_mul_right _ (by omega)
  rw [Nat.succ_mul] at hjs
  have hd : (dens (f j)).length = sz := by rw [dens_length, hl j hj]
  refine ⟨h1, k, n', t, e, g, h2, by omega, ?_⟩
  rw [hd]
  refine List.ext_getElem? fun q => ?_
  by_cases hq : q < sz
  · rw [gets_get _ _ _ _ _ hq]
    have h5 := gets_get k t (slL f n).length p (j * sz + q) (by omega)
    rw [h4, slL_get hl j q hj hq] at h5
    rw [h5, Nat.add_assoc]
  · rw [List.getElem?_eq_none (by rw [gets_length]; omega), List.getElem?_eq_none (by omega)]
theorem gets_sub {k : Nat} {t : Fm Value k} {a : Nat} {L : List Value} (h : gets k t a L.length = L) {o n : Nat} (ho : o + n ≤ L.length) : gets k t (a + o) n = (L.drop o).take n := by
  refine List.ext_getElem? fun q => ?_
  by_cases hq : q < n
  · rw [gets_get _ _ _ _ _ hq, List.getElem?_take_of_lt hq, List.getElem?_drop]
    have := gets_get k t L.length a (o + q) (by omega)
    rw [h] at this
    rw [this, Nat.add_assoc]
  · rw [List.getElem?_eq_none (by rw [gets_length]; omega), List.getElem?_eq_none (by rw [List.length_take, List.length_drop]; omega)]
theorem AtN.sub {s : St} {b a : Nat} {L : List Value} (h : AtN s b a L) {o n : Nat} (ho : o + n ≤ L.length) : AtN s b (a + o) ((L.drop o).take n) := by
  obtain ⟨h1, k, n', t, e, g, h2, h3, h4⟩ := h
  have hl : ((L.drop o).take n).length = n := by rw [List.length_take, List.length_drop]; omega
  exact ⟨h1, k, n', t, e, g, h2, by omega, by rw [hl]; exact gets_sub h4 ho⟩
/-! the lists -/
theorem nthS_inv : ∀ {i : Nat} {l : List SV} {K : SV → Prop}, nthS i l K → ∃ v, l[i]? = some v ∧ K v
  | 0, x :: _, K, h => ⟨x, rfl, by unfold nthS at h; rw [forceS_eq] at h; exact h⟩
  | i + 1, _ :: l, K, h => by obtain ⟨v, h1, h2⟩ := nthS_inv (i := i) (l := l) h; exact ⟨v, by simpa using h1, h2⟩
  | 0, [], _, h => h.elim
  | _ + 1, [], _, h => h.elim
theorem takeS_inv : ∀ {n : Nat} {l : List SV} {K : List SV → Prop}, takeS n l K → n ≤ l.length ∧ K (l.take n)
  | 0, _, K, h => ⟨Nat.zero_le _, by simpa [takeS] using h⟩
  | n + 1, x :: l, K, h => by
    unfold takeS at h; rw [forceS_eq] at h
    obtain ⟨h1, h2⟩ := takeS_inv (n := n) (l := l) h
    exact ⟨by simp; exact h1, by simpa using h2⟩
  | _ + 1, [], _, h => h.elim
theorem dropS_inv : ∀ {n : Nat} {l : List SV} {K : List SV → Prop}, dropS n l K → n ≤ l.length ∧ K (l.drop n)
  | 0, _, K, h => ⟨Nat.zero_le _, by simpa [dropS] using h⟩
  | n + 1, x :: l, K, h => by
    obtain ⟨h1, h2⟩ := dropS_inv (n := n) (l := l) h
    exact ⟨by simp; exact h1, by simpa using h2⟩
  | _ + 1, [], _, h => h.elim
theorem cellS_inv {o n : Nat} {agg : Bool} {l : List SV} {K : SV → Prop} (h : cellS o n agg l K) : (agg = true ∧ o + n ≤ l.length ∧ K (.agg ((l.drop o).take n))) ∨ (agg = false ∧ ∃ v, l[o]? = some v ∧ K v) := by
  unfold cellS at h
  cases agg with
  | true =>
    left
    simp only [cond_true] at h
    obtain ⟨h1, h2⟩ := dropS_inv h
    obtain ⟨h3, h4⟩ := takeS_inv h2
    rw [List.length_drop] at h3
    exact ⟨rfl, by omega, h4⟩
  | false =>
    right
    simp only [cond_false] at h
    exact ⟨rfl, nthS_inv h⟩
theorem putS_inv : ∀ {o : Nat} {xs l : List SV} {K : List SV → Prop}, putS o xs l K → o + xs.length ≤ l.length ∧ K (l.take o ++ xs ++ l.drop (o + xs.length))
  | 0, [], l, K, h => ⟨by simp, by cases l <;> simpa [putS] using h⟩
  | 0, x :: xs, y :: l, K, h => by
    obtain ⟨h1, h2⟩ := putS_inv (o := 0) (xs := xs) (l := l) h
    refine ⟨by simp only [List.length_cons] at h1 ⊢; omega, ?_⟩
    have e : ([] : List SV) ++ x :: xs ++ (y :: l).drop (0 + (x :: xs).length) = x :: (l.take 0 ++ xs ++ l.drop (0 + xs.length)) := by simp
    rw [List.take_zero, e]; exact h2
  | o + 1, xs, y :: l, K, h => by
    have h : putS o xs l (fun r => K (y :: r)) := by cases xs <;> exact h
    obtain ⟨h1, h2⟩ := putS_inv h
    refine ⟨by simp only [List.length_cons]; omega, ?_⟩
    have e : (y :: l).take (o + 1) ++ xs ++ (y :: l).drop (o + 1 + xs.length) = y :: (l.take o ++ xs ++ l.drop (o + xs.length)) := by
      rw [show o + 1 + xs.length = (o + xs.length) + 1 by omega, List.drop_succ_cons]; simp
    rw [e]; exact h2
  | 0, _ :: _, [], _, h => h.elim
  | _ + 1, [], [], _, h => h.elim
  | _ + 1, _ :: _, [], _, h => h.elim
theorem forceV_eq : ∀ (l : List Value) (K : List SV → Prop), forceV l K = K (ofVs l)
  | [], K => rfl
  | x :: l, K => by unfold forceV; rw [forceS_eq, forceV_eq l]; rfl
theorem njS_inv {v : SV} {K : SV → Prop} (h : njS v K) : isJ v = false ∧ K v := by
  unfold njS at h
  cases hj : isJ v with
  | true => rw [hj] at h; exact h.elim
  | false => rw [hj] at h; rw [forceS_eq] at h; exact ⟨rfl, h⟩
theorem brS_inv {b : Bool} {x y : Prop} (h : brS b x y) : (b = true ∧ x) ∨ (b = false ∧ y) := by cases b; exact .inr ⟨rfl, h.f rfl⟩; exact .inl ⟨rfl, h.t rfl⟩
theorem splice_ok : ∀ {o : Nat} {xs l : List Value}, o + xs.length ≤ l.length → splice o xs l = some (l.take o ++ xs ++ l.drop (o + xs.length))
  | 0, [], l, _ => by cases l <;> simp [splice]
  | o + 1, [], l, h => by
    cases l <;> simp [splice]
  | 0, x :: xs, [], h => by simp at h
  | 0, x :: xs, y :: l, h => by
    have := splice_ok (o := 0) (xs := xs) (l := l) (by simp at h ⊢; omega)
    unfold splice; rw [this]; simp
  | o + 1, x :: xs, [], h => by simp at h
  | o + 1, x :: xs, y :: l, h => by
    have := splice_ok (o := o) (xs := x :: xs) (l := l) (by simp at h ⊢; omega)
    unfold splice; rw [this, show o + 1 + (x :: xs).length = (o + (x :: xs).length) + 1 by omega]; simp
end Go.Ab
