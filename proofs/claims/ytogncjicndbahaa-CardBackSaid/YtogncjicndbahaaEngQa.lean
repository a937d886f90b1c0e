/- What arguments read as, in an abstract state; a law from an open run. -/
import Derived.Test.YtogncjicndbahaaEngQ
import Derived.Carry
import Derived.ChangeArms
namespace Go.Ab
open Go.RowKit
variable {P : Program}
/-- cells that are known -/
def AtN (s : St) (b a : Nat) (L : List Value) : Prop := b < s.nx ∧ ∃ k n t e g, s.at b = some (.cells k n t e g) ∧ a + L.length ≤ n ∧ gets k t a L.length = L
theorem AtN.keep {s s' : St} (h : Keep s s') {b a : Nat} {L : List Value} (hA : AtN s b a L) : AtN s' b a L := by
  obtain ⟨h1, k, n, t, e, g, h2, h3⟩ := hA
  exact ⟨Nat.lt_of_lt_of_le h1 h.1, k, n, t, e, g, (h.2.1 b h1).trans h2, h3⟩
theorem AtN.ldN {s : St} {b a a' : Nat} {L : List Value} (hA : AtN s b a L) (e : a' = a) {m : Nat} (hm : m = L.length) (K : List Value → Bool) : ldN s b a' m K = K L := by
  obtain ⟨h1, k, n, t, e', g, h2, h3, h4⟩ := hA
  subst e hm
  unfold Ab.ldN onCells
  rw [h2]
  have hble : Nat.ble (Nat.add a' L.length) n = true := Nat.ble_eq_true_of_le h3
  simp only [hble, cond_true, h4]
theorem AtN.ld1 {s : St} {b a a' : Nat} {L : List Value} (hA : AtN s b a L) {j : Nat} {V : Value} (hV : L[j]? = some V) (e : a' = a + j) (K : Value → Bool) : ld1 s b a' K = K V := by
  obtain ⟨h1, k, n, t, e', g, h2, h3, h4⟩ := hA
  subst e
  have hj : j < L.length := by
    rcases Nat.lt_or_ge j L.length with h | h
    · exact h
    · rw [List.getElem?_eq_none h] at hV; cases hV
  unfold Ab.ld1 onCells
  rw [h2]
  simp only [blt_of (show a + j < n by omega), cond_true]
  have := gets_get k t L.length a j hj
  rw [h4, hV] at this
  rw [Option.some.inj this]
/-- a slice that reads as a list; R: what an element's cells say -/
def Sl {α : Type} (s : St) (sz : Nat) (R : List Value → α → Prop) (v : Value) (l : List α) : Prop :=
  (∃ b o c, v = .slice (some ⟨b, o, none⟩) l.length c ∧ l.length ≤ c ∧ ∀ i y, l[i]? = some y → ∃ ci, R ci y ∧ ci.length = sz ∧ AtN s b (o + i * sz) ci) ∨ (l = [] ∧ (v = .slice none 0 0 ∨ v = empty0))
theorem Sl.keep {α : Type} {s s' : St} (h : Keep s s') {sz : Nat} {R R' : List Value → α → Prop} (hR : ∀ c y, R c y → R' c y) {v : Value} {l : List α} (hv : Sl s sz R v l) : Sl s' sz R' v l := by
  rcases hv with ⟨b, o, c, h1, h2, h3⟩ | hv
  · refine .inl ⟨b, o, c, h1, h2, fun i y hi => ?_⟩
    obtain ⟨ci, h4, h5, h6⟩ := h3 i y hi
    exact ⟨ci, hR _ _ h4, h5, h6.keep h⟩
  · exact .inr hv
def R1 (ci : List Value) (x : Int) : Prop := ci = [.int .i64 x]
def SlI (s : St) : Value → List Int → Prop := Sl s 1 R1
def SlR (s : St) : Value → List (List Int) → Prop := Sl s 1 fun ci row => ∃ v, ci = [v] ∧ SlI s v row
theorem SlI.keep {s s' : St} (h : Keep s s') {v : Value} {l : List Int} (hv : SlI s v l) : SlI s' v l := Sl.keep h (fun _ _ h => h) hv
theorem SlR.keep {s s' : St} (h : Keep s s') {v : Value} {l : List (List Int)} (hv : SlR s v l) : SlR s' v l := Sl.keep h (fun _ _ ⟨v, h1, h2⟩ => ⟨v, h1, h2.keep h⟩) hv

/-! ### in the world -/
def SlW {α : Type} (W : World) (sz : Nat) (R : List Value → α → Prop) (v : Value) (l : List α) : Prop :=
  (∃ B O c, v = .slice (some ⟨B, O, none⟩) l.length c ∧ l.length ≤ c ∧ ∀ i y, l[i]? = some y → ∃ ci, R ci y ∧ ci.length = sz ∧ ∀ j V, ci[j]? = some V → W.cell? ⟨B, O + i * sz + j, none⟩ = some V) ∨
  (l = [] ∧ (v = .slice none 0 0 ∨ ∃ a, v = .slice (some a) 0 0))
def blkOf : Value → List Nat
  | .slice (some a) _ _ => [a.block]
  | .pointer (some a) => [a.block]
  | _ => []
theorem AtN_stOf {W : World} {Bs : List Nat} (hl : Bs.length ≤ 4398046511104) {B b : Nat} (hb : nameIn Bs B = some b) {o : Nat} {L : List Value} (hne : L ≠ []) (h : ∀ i V, L[i]? = some V → W.cell? ⟨B, o + i, none⟩ = some V) : AtN (stOf W Bs) b o (L.map (al1 Bs)) := by
  obtain ⟨V0, hV0⟩ : ∃ V, L[0]? = some V := by cases L with | nil => exact absurd rfl hne | cons x _ => exact ⟨x, rfl⟩
  obtain ⟨C, e, fr, h1, _⟩ := cell_some (h 0 V0 hV0)
  have hC : ∀ i V, L[i]? = some V → C[o + i]? = some V := fun i V hi => by have := h i V hi; rwa [cell_at h1] at this
  have hlt : o + L.length ≤ C.size := by
    have hL : 0 < L.length := by cases L with | nil => exact absurd rfl hne | cons x _ => simp
    have := hC (L.length - 1) _ (List.getElem?_eq_getElem (by omega))
    rcases Nat.lt_or_ge (o + (L.length - 1)) C.size with h | h
    · omega
    · rw [Array.getElem?_eq_none h] at this; cases this
  have hbs := nameIn_some hb
  have hbl : b < (stOf W Bs).nx := by
    rw [stOf_nx]
    rcases Nat.lt_or_ge b Bs.length with h | h
    · exact h
    · rw [List.getElem?_eq_none h] at hbs; cases hbs
  have hat : (stOf W Bs).at b = some (.cells C.size C.size (puts C.size 0 (C.toList.map (al1 Bs)) (ini undef C.size)) ro false) := by rw [stOf_at hl, hbs, Option.bind_some, objOf_cells h1]
  refine ⟨hbl, _, _, _, _, _, hat, (by rw [List.length_map]; exact hlt), ?_⟩
  rw [List.length_map]
  refine List.ext_getElem? fun i => ?_
  by_cases hi : i < L.length
  · have h8 := le_pow8 C.size
    have hll : (C.toList.map (al1 Bs)).length = C.size := by simp
    rw [gets_get _ _ _ _ _ hi, puts_get _ _ 0 _ _ (by omega) (by omega), if_pos (by omega), Nat.sub_zero, List.getD_eq_getElem?_getD, List.getElem?_map, List.getElem?_map]
    have := hC i _ (List.getElem?_eq_getElem hi)
    rw [← arr_get?] at this
    rw [this, List.getElem?_eq_getElem hi]; rfl
  · rw [List.getElem?_eq_none (by rw [gets_length]; omega), List.getElem?_eq_none (by rw [List.length_map]; omega)]
/-- what reads as a list in the world does so in the state that names its block -/
theorem SlW.named {α : Type} {W : World} {Bs : List Nat} (hl : Bs.length ≤ 4398046511104) {sz : Nat} (hsz : 0 < sz) {R R' : List Value → α → Prop} {v : Value} {l : List α} (h : SlW W sz R v l) (hv : ∀ B ∈ blkOf v, B ∈ Bs)
    (hR : ∀ (i : Nat) (ci : List Value) (y : α), l[i]? = some y → R ci y → R' (ci.map (al1 Bs)) y) : Sl (stOf W Bs) sz R' (al1 Bs v) l := by
  rcases h with ⟨B, O, c, rfl, h1, h2⟩ | ⟨h1, h2⟩
  · obtain ⟨b, hb⟩ := nameIn_mem (hv B (by simp [blkOf]))
    refine .inl ⟨b, O, c, by simp only [al1, hb, h1, if_true], h1, fun i y hi => ?_⟩
    obtain ⟨ci, h3, h4, h5⟩ := h2 i y hi
    refine ⟨_, hR i ci y hi h3, by rw [List.length_map]; exact h4, AtN_stOf hl hb ?_ h5⟩
    intro e; rw [e] at h4; simp at h4; omega
  · subst h1
    rcases h2 with rfl | ⟨⟨B, O, spot⟩, rfl⟩
    · exact .inr ⟨rfl, .inl rfl⟩
    · cases spot with
      | some p => exact .inr ⟨rfl, .inr (by simp [al1])⟩
      | none =>
        obtain ⟨b, hb⟩ := nameIn_mem (hv B (by simp [blkOf]))
        exact .inl ⟨b, O, 0, by simp [al1, hb], Nat.le_refl _, fun i y hi => by simp at hi⟩
theorem list_of {α : Type} {Q : Nat → α → Prop} : ∀ (n : Nat), (∀ i, i < n → ∃ y, Q i y) → ∃ l : List α, l.length = n ∧ ∀ i y, l[i]? = some y → Q i y
  | 0, _ => ⟨[], rfl, fun i y h => by simp at h⟩
  | n + 1, h => by
    obtain ⟨l, h1, h2⟩ := list_of n fun i hi => h i (by omega)
    obtain ⟨y, hy⟩ := h n (by omega)
    refine ⟨l ++ [y], by rw [List.length_append, h1]; rfl, fun i z hz => ?_⟩
    rcases Nat.lt_or_ge i l.length with hi | hi
    · rw [List.getElem?_append_left hi] at hz; exact h2 i z hz
    · rw [List.getElem?_append_right hi] at hz
      cases hd : i - l.length with
      | zero =>
        rw [hd] at hz
        have : i = n := by omega
        subst this
        simp at hz; subst hz; exact hy
      | succ m => rw [hd] at hz; simp at hz
section
variable {H : Type} {enc : TypeId × Value → H} {W : World} {fuel : Nat} {t e : TypeId}
/-- a slice, read -/
theorem SlW_of {α : Type} {R : List Value → α → Prop} (ht : P.underlying t = some (.slice e)) (hsz : 0 < P.cellsOf e) (hR : ∀ m cs x, DataW.trod enc P W 0 (fun _ => true) true m e cs = some x → cs.length = P.cellsOf e → ∃ y, R cs y)
    {cs : List Value} {x : DataW H × List MemPlace} (h : DataW.trod enc P W 0 (fun _ => true) true fuel t cs = some x) : ∃ v l, cs = [v] ∧ SlW W (P.cellsOf e) R v l := by
  rcases DataW.trod_slice ht h with ⟨rfl, _⟩ | ⟨a, len, cap, elems, rest, n, _, rfl, _, _, hlc, _, hel, hE, hRest, _⟩
  · exact ⟨_, [], rfl, .inr ⟨rfl, .inl rfl⟩⟩
  · by_cases hc : cap = 0
    · have : len = 0 := by omega
      subst hc this
      exact ⟨_, [], rfl, .inr ⟨rfl, .inr ⟨a, rfl⟩⟩⟩
    · obtain ⟨hrl, hRest⟩ := hRest rfl
      have hcell : ∀ i, i < cap → ∃ ci y, W.cells? 0 (a.add (i * P.cellsOf e)) (P.cellsOf e) = some ci ∧ DataW.trod enc P W 0 (fun _ => true) true n e ci = some y := fun i hi => by
        have hsome : ∃ y, (W.cells? 0 (a.add (i * P.cellsOf e)) (P.cellsOf e)).bind (DataW.trod enc P W 0 (fun _ => true) true n e) = some y := by
          by_cases hil : i < len
          · rw [hE i hil, List.getElem?_eq_getElem (by omega)]; exact ⟨_, rfl⟩
          · have := hRest (i - len) (by omega)
            rw [show len + (i - len) = i from by omega] at this
            rw [this, List.getElem?_eq_getElem (by omega)]; exact ⟨_, rfl⟩
        obtain ⟨y, hy⟩ := hsome
        rw [Option.bind_eq_some_iff] at hy
        obtain ⟨ci, h1, h2⟩ := hy
        exact ⟨ci, y, h1, h2⟩
      obtain ⟨B, O, spot⟩ := a
      have hspot : spot = none := by
        obtain ⟨ci, y, h1, _⟩ := hcell 0 (by omega)
        obtain ⟨_, hl, hcl⟩ := World.cells?_some h1
        have g0 := hcl 0 hsz
        obtain ⟨c0, hc0⟩ : ∃ c0, ci[0]? = some c0 := by
          cases ci with
          | nil => simp at hl; omega
          | cons c _ => exact ⟨c, rfl⟩
        rw [hc0] at g0
        simpa [Addr.add] using World.cell?_spot g0
      subst hspot
      obtain ⟨l, hl, hQ⟩ := list_of (α := α) (Q := fun i y => ∃ ci, R ci y ∧ ci.length = P.cellsOf e ∧ ∀ j V, ci[j]? = some V → W.cell? ⟨B, O + i * P.cellsOf e + j, none⟩ = some V) len fun i hi => by
        obtain ⟨ci, x, h1, h2⟩ := hcell i (by omega)
        obtain ⟨_, hlen, hcl⟩ := World.cells?_some h1
        obtain ⟨y, hy⟩ := hR n ci x h2 hlen
        refine ⟨y, ci, hy, hlen, fun j V hj => ?_⟩
        have hj' : j < P.cellsOf e := by
          rcases Nat.lt_or_ge j ci.length with h | h
          · omega
          · rw [List.getElem?_eq_none h] at hj; cases hj
        have := hcl j hj'
        rw [addr_add, addr_add, hj] at this
        exact this
      subst hl
      exact ⟨_, l, rfl, .inl ⟨B, O, cap, rfl, hlc, hQ⟩⟩
end
/-- what is not below stays: an argument of whatever type reads as it did -/
theorem trodAll_below {H : Type} {enc : TypeId × Value → H} (hl : laidOutB P = true) {W W' : World} (hb : Below W.heap.size W W') : ∀ {ts : List TypeId} {vs : List Value} {ds : List (DataW H)} {ps : List MemPlace},
    ts.all (fun t => P.readableRec t && Nat.blt t P.types.size) = true → DataW.TrodAll enc P W 0 (fun _ => true) true ts vs ds ps → (∀ x ∈ ps, x.block < W.heap.size) → DataW.TrodAll enc P W' 0 (fun b => decide (b < W.heap.size)) true ts vs ds ps
  | [], [], [], _, _, h, _ => h
  | t :: ts, v :: vs, d :: ds, ps, ht, ⟨p, q, h1, h2, e⟩, hs => by
    rw [List.all_cons, Bool.and_eq_true, Bool.and_eq_true] at ht
    exact ⟨p, q, Below.trod hl ht.1.1 (blt_true ht.1.2) h1 hb (fun x hx => hs x (by rw [e]; exact List.mem_append_left _ hx)),
      trodAll_below hl hb ht.2 h2 (fun x hx => hs x (by rw [e]; exact List.mem_append_right _ hx)), e⟩
/-- A LAW: if its open run, over what the blocks of a list hold, comes to true, the function returns true and leaves memory as it was. -/
theorem calls_open (hd : DrawH P) (hn : NameH P) {F D : Nat} {ext : CallT → CallT} (hext : ∀ call, CallOK P call → CallOK P (ext call)) {f : FuncId} {args : List Value} {W : World} {Bs : List Nat} (hB : Bs.Nodup) (hl : Bs.length ≤ 4398046511104)
    (hrun : (cFun P F f).run (callF P F ext D) (args.map (alV Bs)) (isTrue true) (stOf W Bs) = true) : Calls P f ⟨args⟩ W fun e W' => e = .returned (.bool true) ∧ Below W.heap.size W W' := by
  obtain ⟨_, hc⟩ := cFun_ok hd (callF_ok hd hn hext D) hrun (alVs_VsR W Bs args) (stOf_SR hB hl)
  have hc : CallsIn Fence.wide 0 P f ⟨args⟩ W _ := hc none 0
  refine (callsIn_wide.1 hc).mono fun e W' ⟨X, he, ρ', v, s', hst, hv, hk⟩ => ?_
  have hX : X = .bool true := by
    unfold isTrue at hk
    cases v <;> (try (cases hk; done))
    rename_i c
    have : c = true := by simpa using hk
    subst this
    exact hv.bool_inv
  subst hX
  refine ⟨he, hst.os, hst.tape, hst.output, hst.size, fun B hB' => hst.frame B hB' fun b o r h _ _ => ?_⟩
  rw [stOf_at hl] at h
  cases hBb : Bs[b]? with
  | none => simp [hBb] at h
  | some B' =>
    simp only [hBb, Option.bind_some] at h
    unfold objOf at h
    split at h
    · cases h; rfl
    · cases h
theorem callF_extK {F w d g : Nat} {b : Bool} (hg : Nat.beq g w = false) (args : List Value) (K : KV) (s : St) :
    callF P F (extK w b) (d + 1) (.func (.func g) ⟨[]⟩ ⟨[]⟩) args K s = (cFun P F g).run (callF P F (extK w b) d) args K s := by
  unfold callF extK
  simp only [hg, cond_false, List.nil_append, List.append_nil]
theorem callF_extK_w {F w d : Nat} {b : Bool} (K : KV) (s : St) : callF P F (extK w b) (d + 1) (.func (.func w) ⟨[]⟩ ⟨[]⟩) [] K s = K (.bool b) s := by
  unfold callF extK
  simp only [Nat.beq_refl, cond_true, List.append_nil]
end Go.Ab
