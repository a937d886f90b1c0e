/- What an abstract state says of a real one, and the laws of both. -/
import Derived.Test.YtogncjicndbahaaEngA
namespace Go.Ab
section fm
variable {β : Type}
def comp : {α : Type} → Nat → N8 α → α
  | _, 0, t => t.a | _, 1, t => t.b | _, 2, t => t.c | _, 3, t => t.d | _, 4, t => t.e | _, 5, t => t.f | _, 6, t => t.g | _, _, t => t.h
def upd {α : Type} (F : α → α) : Nat → N8 α → N8 α
  | 0, t => { t with a := F t.a } | 1, t => { t with b := F t.b } | 2, t => { t with c := F t.c } | 3, t => { t with d := F t.d }
  | 4, t => { t with e := F t.e } | 5, t => { t with f := F t.f } | 6, t => { t with g := F t.g } | _, t => { t with h := F t.h }
theorem getW_succ (k i : Nat) (t : Fm β (k + 1)) : (getW (k + 1) i).g t = (getW k (i / 8)).g (comp (i % 8) (t : N8 (Fm β k))) := by
  have h8 : i % 8 < 8 := Nat.mod_lt _ (by decide)
  show ((match Nat.mod i 8 with
    | 0 => _ | 1 => _ | 2 => _ | 3 => _ | 4 => _ | 5 => _ | 6 => _ | _ => _ : GW β (k + 1))).g t = _
  have e : Nat.mod i 8 = i % 8 := rfl
  rw [e]
  generalize i % 8 = m at h8
  match m, h8 with
  | 0, _ => rfl | 1, _ => rfl | 2, _ => rfl | 3, _ => rfl | 4, _ => rfl | 5, _ => rfl | 6, _ => rfl | 7, _ => rfl
theorem setW_succ (k j : Nat) (v : β) (t : Fm β (k + 1)) : (setW (k + 1) j).s v t = upd ((setW k (j / 8)).s v) (j % 8) (t : N8 (Fm β k)) := by
  have h8 : j % 8 < 8 := Nat.mod_lt _ (by decide)
  show ((match Nat.mod j 8 with
    | 0 => _ | 1 => _ | 2 => _ | 3 => _ | 4 => _ | 5 => _ | 6 => _ | _ => _ : SW β (k + 1))).s v t = _
  have e : Nat.mod j 8 = j % 8 := rfl
  rw [e]
  generalize j % 8 = m at h8
  match m, h8 with
  | 0, _ => rfl | 1, _ => rfl | 2, _ => rfl | 3, _ => rfl | 4, _ => rfl | 5, _ => rfl | 6, _ => rfl | 7, _ => rfl
theorem comp_upd {α : Type} (F : α → α) (a b : Nat) (t : N8 α) (ha : a < 8) (hb : b < 8) : comp a (upd F b t) = if a = b then F (comp a t) else comp a t := by
  match a, ha, b, hb with
  | 0, _, 0, _ | 0, _, 1, _ | 0, _, 2, _ | 0, _, 3, _ | 0, _, 4, _ | 0, _, 5, _ | 0, _, 6, _ | 0, _, 7, _
  | 1, _, 0, _ | 1, _, 1, _ | 1, _, 2, _ | 1, _, 3, _ | 1, _, 4, _ | 1, _, 5, _ | 1, _, 6, _ | 1, _, 7, _
  | 2, _, 0, _ | 2, _, 1, _ | 2, _, 2, _ | 2, _, 3, _ | 2, _, 4, _ | 2, _, 5, _ | 2, _, 6, _ | 2, _, 7, _
  | 3, _, 0, _ | 3, _, 1, _ | 3, _, 2, _ | 3, _, 3, _ | 3, _, 4, _ | 3, _, 5, _ | 3, _, 6, _ | 3, _, 7, _
  | 4, _, 0, _ | 4, _, 1, _ | 4, _, 2, _ | 4, _, 3, _ | 4, _, 4, _ | 4, _, 5, _ | 4, _, 6, _ | 4, _, 7, _
  | 5, _, 0, _ | 5, _, 1, _ | 5, _, 2, _ | 5, _, 3, _ | 5, _, 4, _ | 5, _, 5, _ | 5, _, 6, _ | 5, _, 7, _
  | 6, _, 0, _ | 6, _, 1, _ | 6, _, 2, _ | 6, _, 3, _ | 6, _, 4, _ | 6, _, 5, _ | 6, _, 6, _ | 6, _, 7, _
  | 7, _, 0, _ | 7, _, 1, _ | 7, _, 2, _ | 7, _, 3, _ | 7, _, 4, _ | 7, _, 5, _ | 7, _, 6, _ | 7, _, 7, _ => rfl
theorem pow8_succ (k : Nat) : pow8 (k + 1) = 8 * pow8 k := rfl
theorem get_set : ∀ (k i j : Nat) (v : β) (t : Fm β k), i < pow8 k → j < pow8 k → (getW k i).g ((setW k j).s v t) = if i = j then v else (getW k i).g t
  | 0, i, j, v, t, hi, hj => by
    have hi : i < 1 := hi
    have hj : j < 1 := hj
    have : i = j := by omega
    rw [if_pos this]; rfl
  | k + 1, i, j, v, t, hi, hj => by
    rw [pow8_succ] at hi hj
    have h1 := getW_succ k i ((setW (k + 1) j).s v t)
    have h2 := setW_succ k j v t
    have h3 : comp (i % 8) ((setW (k + 1) j).s v t : N8 (Fm β k)) = comp (i % 8) (upd ((setW k (j / 8)).s v) (j % 8) (t : N8 (Fm β k))) := congrArg (comp (α := Fm β k) (i % 8)) h2
    rw [h1, getW_succ]
    refine (congrArg (getW k (i / 8)).g (h3.trans (comp_upd _ _ _ _ (Nat.mod_lt _ (by decide)) (Nat.mod_lt _ (by decide))))).trans ?_
    by_cases hm : i % 8 = j % 8
    · rw [if_pos hm, get_set k (i / 8) (j / 8) v _ (by omega) (by omega)]
      by_cases hd : i / 8 = j / 8
      · rw [if_pos hd, if_pos (by omega)]
      · rw [if_neg hd, if_neg (by omega)]
    · rw [if_neg hm, if_neg (by omega)]
theorem get_ini (v : β) : ∀ (k i : Nat), (getW k i).g (ini v k) = v
  | 0, _ => rfl
  | k + 1, i => by
    rw [getW_succ]
    have : comp (i % 8) (ini v (k + 1) : N8 (Fm β k)) = ini v k := by
      have h8 : i % 8 < 8 := Nat.mod_lt _ (by decide)
      generalize i % 8 = m at h8
      match m, h8 with
      | 0, _ | 1, _ | 2, _ | 3, _ | 4, _ | 5, _ | 6, _ | 7, _ => rfl
    rw [this]; exact get_ini v k _
end fm
theorem le_lvl (n : Nat) (h : n ≤ 32768) : n ≤ pow8 (lvl n) := by
  unfold lvl
  have c : ∀ m, Nat.ble n m = true ∨ Nat.ble n m = false := fun m => by cases Nat.ble n m <;> simp
  rcases c 1 with h1 | h1 <;> simp only [h1, cond_true, cond_false]
  · exact Nat.le_of_ble_eq_true h1
  rcases c 8 with h1 | h1 <;> simp only [h1, cond_true, cond_false]
  · exact Nat.le_of_ble_eq_true h1
  rcases c 64 with h1 | h1 <;> simp only [h1, cond_true, cond_false]
  · exact Nat.le_of_ble_eq_true h1
  rcases c 512 with h1 | h1 <;> simp only [h1, cond_true, cond_false]
  · exact Nat.le_of_ble_eq_true h1
  rcases c 4096 with h1 | h1 <;> simp only [h1, cond_true, cond_false]
  · exact Nat.le_of_ble_eq_true h1
  · exact h
theorem gets_length (k : Nat) (t : Fm Value k) : ∀ (n o : Nat), (gets k t o n).length = n
  | 0, _ => rfl
  | n + 1, o => by simp [gets, gets_length k t n]
theorem gets_get (k : Nat) (t : Fm Value k) : ∀ (n o i : Nat), i < n → (gets k t o n)[i]? = some ((getW k (o + i)).g t)
  | 0, _, i, h => absurd h (by omega)
  | n + 1, o, 0, _ => rfl
  | n + 1, o, i + 1, h => by
    have : gets k t o (n + 1) = (getW k o).g t :: gets k t (o + 1) n := rfl
    rw [this, List.getElem?_cons_succ, gets_get k t n (o + 1) i (by omega)]
    rw [show o + 1 + i = o + (i + 1) from by omega]
theorem puts_get (k : Nat) : ∀ (vs : List Value) (o i : Nat) (t : Fm Value k), o + vs.length ≤ pow8 k → i < pow8 k →
    (getW k i).g (puts k o vs t) = if o ≤ i ∧ i < o + vs.length then vs.getD (i - o) undef else (getW k i).g t
  | [], o, i, t, _, _ => by rw [if_neg (by rintro ⟨a, b⟩; simp only [List.length_nil] at b; omega)]; rfl
  | v :: vs, o, i, t, h, hi => by
    simp only [List.length_cons] at h
    show (getW k i).g (puts k (o + 1) vs ((setW k o).s v t)) = _
    rw [puts_get k vs (o + 1) i _ (by omega) hi, get_set _ _ _ _ _ hi (by omega)]
    simp only [List.length_cons]
    by_cases h1 : o + 1 ≤ i ∧ i < o + 1 + vs.length
    · rw [if_pos h1, if_pos (by omega)]
      have : i - o = (i - (o + 1)) + 1 := by omega
      rw [this, List.getD_cons_succ]
    · rw [if_neg h1]
      by_cases h2 : i = o
      · rw [if_pos h2, if_pos (by omega)]; subst h2; simp
      · rw [if_neg h2, if_neg (by omega)]

/-! ### The relation -/
/-- where a logical block lies: block, offset of its cell 0, size of the block, cells of an element, whether its capacity is open -/
structure Rn where
  blk : Nat
  sh : Nat
  sz : Nat
  es : Nat
  gr : Bool
abbrev Ren := Nat → Option Rn

def FR (ρ : Ren) : Fn → Fn → Prop
  | .yield l, fn' => ∃ r, ρ l = some r ∧ fn' = .yield r.blk
  | fn, fn' => fn' = fn

mutual
inductive VR (ρ : Ren) : Value → Value → Prop
  | bool (b : Bool) : VR ρ (.bool b) (.bool b)
  | int (k : IntKind) (n : Int) : VR ρ (.int k n) (.int k n)
  | float (k : FloatKind) (b : Nat) : VR ρ (.float k b) (.float k b)
  | string (s : ByteArray) : VR ρ (.string s) (.string s)
  | nilp : VR ρ (.pointer none) (.pointer none)
  | ptr {b o : Nat} {r : Rn} (h : ρ b = some r) : VR ρ (.pointer (some ⟨b, o, none⟩)) (.pointer (some ⟨r.blk, r.sh + o, none⟩))
  | nils (n c : Nat) : VR ρ (.slice none n c) (.slice none n c)
  | slc {b o n c O C : Nat} {r : Rn} (h : ρ b = some r) (hn : n ≤ c) (h0 : r.gr = false → C = c ∧ O = r.sh + o)
      (h1 : r.gr = true → c ≤ C ∧ (c ≠ 0 → O = r.sh + o) ∧ O + C * r.es ≤ r.sz) : VR ρ (.slice (some ⟨b, o, none⟩) n c) (.slice (some ⟨r.blk, O, none⟩) n C)
  | nilm : VR ρ (.map none) (.map none)
  | mapv {b : Nat} {r : Rn} (h : ρ b = some r) : VR ρ (.map (some b)) (.map (some r.blk))
  | func {fn fn' : Fn} {f c F C : List Value} (h : FR ρ fn fn') (hf : VsR ρ f F) (hc : VsR ρ c C) : VR ρ (.func fn ⟨f⟩ ⟨c⟩) (.func fn' ⟨F⟩ ⟨C⟩)
  | nilf : VR ρ .nilFunc .nilFunc
  | iface {v V : Value} (t : TypeId) (h : VR ρ v V) : VR ρ (.iface t v) (.iface t V)
  | nili : VR ρ .nilIface .nilIface
  | agg {l L : List Value} (h : VsR ρ l L) : VR ρ (.agg ⟨l⟩) (.agg ⟨L⟩)
  | tuple {l L : List Value} (h : VsR ρ l L) : VR ρ (.tuple ⟨l⟩) (.tuple ⟨L⟩)
  /-- a slice without room, wherever it points -/
  | emp (a : Addr) : VR ρ empty0 (.slice (some a) 0 0)
  /-- what is not known: no operation takes it, it can only be moved -/
  | junk (V : Value) : VR ρ (.chan none) V
inductive VsR (ρ : Ren) : List Value → List Value → Prop
  | nil : VsR ρ [] []
  | cons {v V : Value} {l L : List Value} (h : VR ρ v V) (hs : VsR ρ l L) : VsR ρ (v :: l) (V :: L)
end
def Ext (ρ ρ' : Ren) : Prop := ∀ b r, ρ b = some r → ρ' b = some r
theorem Ext.refl (ρ : Ren) : Ext ρ ρ := fun _ _ h => h
theorem Ext.trans {ρ ρ' ρ'' : Ren} (h : Ext ρ ρ') (h' : Ext ρ' ρ'') : Ext ρ ρ'' := fun b r x => h' b r (h b r x)
theorem FR.mono {ρ ρ' : Ren} (e : Ext ρ ρ') {fn fn' : Fn} (h : FR ρ fn fn') : FR ρ' fn fn' := by
  cases fn <;> first | exact h | (obtain ⟨r, h1, h2⟩ := h; exact ⟨r, e _ _ h1, h2⟩)
mutual
theorem VR.mono {ρ ρ' : Ren} (e : Ext ρ ρ') : {v V : Value} → VR ρ v V → VR ρ' v V
  | _, _, .bool b => .bool b
  | _, _, .int k n => .int k n
  | _, _, .float k n => .float k n
  | _, _, .string s => .string s
  | _, _, .nilp => .nilp
  | _, _, .ptr h => .ptr (e _ _ h)
  | _, _, .nils n c => .nils n c
  | _, _, .slc h hn h0 h1 => .slc (e _ _ h) hn h0 h1
  | _, _, .nilm => .nilm
  | _, _, .mapv h => .mapv (e _ _ h)
  | _, _, .func h hf hc => .func (h.mono e) (VsR.mono e hf) (VsR.mono e hc)
  | _, _, .nilf => .nilf
  | _, _, .iface t h => .iface t (VR.mono e h)
  | _, _, .nili => .nili
  | _, _, .agg h => .agg (VsR.mono e h)
  | _, _, .tuple h => .tuple (VsR.mono e h)
  | _, _, .junk V => .junk V
  | _, _, .emp a => .emp a
theorem VsR.mono {ρ ρ' : Ren} (e : Ext ρ ρ') : {l L : List Value} → VsR ρ l L → VsR ρ' l L
  | _, _, .nil => .nil
  | _, _, .cons h hs => .cons (VR.mono e h) (VsR.mono e hs)
end
theorem VsR.length {ρ : Ren} : {l L : List Value} → VsR ρ l L → l.length = L.length
  | _, _, .nil => rfl
  | _, _, .cons _ hs => by simp [VsR.length hs]
theorem VsR.append {ρ : Ren} {l L l' L' : List Value} (h : VsR ρ l L) (h' : VsR ρ l' L') : VsR ρ (l ++ l') (L ++ L') := by
  induction l generalizing L with
  | nil => cases h; exact h'
  | cons x xs ih => cases h with | cons h1 h2 => exact .cons h1 (ih h2)
theorem VsR.get {ρ : Ren} {l L : List Value} (h : VsR ρ l L) {i : Nat} {v : Value} (hi : l[i]? = some v) : ∃ V, L[i]? = some V ∧ VR ρ v V := by
  induction l generalizing L i with
  | nil => simp at hi
  | cons x xs ih =>
    cases h with
    | cons h1 h2 =>
      cases i with
      | zero => simp at hi; subst hi; exact ⟨_, by simp, h1⟩
      | succ i => simp at hi; simpa using ih h2 hi
theorem VsR.of_get {ρ : Ren} : ∀ {l L : List Value}, l.length = L.length → (∀ i, i < l.length → ∃ v V, l[i]? = some v ∧ L[i]? = some V ∧ VR ρ v V) → VsR ρ l L
  | [], [], _, _ => .nil
  | [], _ :: _, h, _ => absurd h (by simp)
  | _ :: _, [], h, _ => absurd h (by simp)
  | x :: xs, X :: XS, h, hg => by
    refine .cons ?_ (VsR.of_get (by simpa using h) fun i hi => ?_)
    · obtain ⟨v, V, h1, h2, h3⟩ := hg 0 (by simp)
      simp at h1 h2; subst h1 h2; exact h3
    · obtain ⟨v, V, h1, h2, h3⟩ := hg (i + 1) (by simpa using hi)
      exact ⟨v, V, by simpa using h1, by simpa using h2, h3⟩
theorem VR.undef (ρ : Ren) : VR ρ undef undef := .tuple .nil

mutual
theorem pureC_VR (ρ : Ren) : ∀ (f : Nat) (v : Value), pureC f v = true → VR ρ v v
  | _, .bool b, _ => .bool b
  | _, .int k n, _ => .int k n
  | _, .string s, _ => .string s
  | _, .float k b, _ => .float k b
  | _, .pointer none, _ => .nilp
  | _, .slice none n c, _ => .nils n c
  | _, .map none, _ => .nilm
  | _, .nilFunc, _ => .nilf
  | _, .nilIface, _ => .nili
  | f + 1, .agg ⟨l⟩, h => .agg (pureC_VsR ρ f l (by simpa [pureC] using h))
  | f + 1, .tuple ⟨l⟩, h => .tuple (pureC_VsR ρ f l (by simpa [pureC] using h))
  | f + 1, .iface t v, h => .iface t (pureC_VR ρ f v (by simpa [pureC] using h))
  | 0, .agg _, h | 0, .tuple _, h | 0, .iface _ _, h => by simp [pureC] at h
  | 0, .pointer (some _), h | 0, .slice (some _) _ _, h | 0, .map (some _), h | 0, .complex _ _ _, h | 0, .chan _, h | 0, .func _ _ _, h => by simp [pureC] at h
  | _ + 1, .pointer (some _), h | _ + 1, .slice (some _) _ _, h | _ + 1, .map (some _), h | _ + 1, .complex _ _ _, h | _ + 1, .chan _, h | _ + 1, .func _ _ _, h => by simp [pureC] at h
theorem pureC_VsR (ρ : Ren) : ∀ (f : Nat) (l : List Value), (∀ v ∈ l, pureC f v = true) → VsR ρ l l
  | _, [], _ => .nil
  | f, v :: l, h => .cons (pureC_VR ρ f v (h v (by simp))) (pureC_VsR ρ f l fun w hw => h w (by simp [hw]))
end
mutual
/-- an address-free value is related to itself alone -/
theorem pureC_eq {ρ : Ren} : ∀ {v V : Value} (f : Nat), VR ρ v V → pureC f v = true → V = v
  | _, _, _, .bool b, _ => rfl
  | _, _, _, .int k n, _ => rfl
  | _, _, _, .string s, _ => rfl
  | _, _, _, .float k b, _ => rfl
  | _, _, _, .nilp, _ => rfl
  | _, _, _, .nils n c, _ => rfl
  | _, _, _, .nilm, _ => rfl
  | _, _, _, .nilf, _ => rfl
  | _, _, _, .nili, _ => rfl
  | _, _, f, .agg hl, h => by
    cases f with
    | zero => simp [pureC] at h
    | succ f => rw [pureC_eqs f hl (by simpa [pureC] using h)]
  | _, _, f, .tuple hl, h => by
    cases f with
    | zero => simp [pureC] at h
    | succ f => rw [pureC_eqs f hl (by simpa [pureC] using h)]
  | _, _, f, .iface _ hv, h => by
    cases f with
    | zero => simp [pureC] at h
    | succ f => rw [pureC_eq f hv (by simpa [pureC] using h)]
  | _, _, f, .ptr _, h => by cases f <;> simp [pureC] at h
  | _, _, f, .mapv _, h => by cases f <;> simp [pureC] at h
  | _, _, f, .junk _, h => by cases f <;> simp [pureC] at h
  | _, _, f, .emp _, h => by cases f <;> simp [pureC] at h
  | _, _, f, .slc _ _ _ _, h => by cases f <;> simp [pureC] at h
  | _, _, f, .func _ _ _, h => by cases f <;> simp [pureC] at h
theorem pureC_eqs {ρ : Ren} : ∀ {l L : List Value} (f : Nat), VsR ρ l L → (∀ v ∈ l, pureC f v = true) → L = l
  | _, _, _, .nil, _ => rfl
  | _, _, f, .cons hv hl, h => by rw [pureC_eq f hv (h _ (by simp)), pureC_eqs f hl (fun w hw => h w (by simp [hw]))]
end
end Go.Ab
