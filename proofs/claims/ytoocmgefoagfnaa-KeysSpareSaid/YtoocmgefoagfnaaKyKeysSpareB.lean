/- Keys: the search, chains, clashes, truths. -/
import Derived.Test.YtoocmgefoagfnaaKyKeysSpareA
import Derived.KernelRfl
namespace Go.Proofs.Ytoocmgefoagfnaa
open Go.Ab
attribute [local irreducible] aggOk drwOK
set_option maxRecDepth 100000
set_option maxHeartbeats 4000000
set_option linter.unusedVariables false
set_option linter.unusedSimpArgs false
/-- what a chain leads to -/
inductive Rch (ru : Nat → Nat × Nat) (n : Nat) (x : Nat) : Nat → Prop
  | refl : Rch ru n x x
  | tail {y z : Nat} : Rch ru n x y → z ∈ afL ru y n → Rch ru n x z
theorem Rch.trans {ru : Nat → Nat × Nat} {n x y z : Nat} (h : Rch ru n x y) (k : Rch ru n y z) : Rch ru n x z := by
  induction k with
  | refl => exact h
  | tail _ hz ih => exact ih.tail hz
theorem afL_contra {ru : Nat → Nat × Nat} {n x y : Nat} (h : y ∈ afL ru x n) : ng x ∈ afL ru (ng y) n := by
  obtain ⟨j, hj, h2⟩ := mem_afL.1 h
  refine mem_afL.2 ⟨j, hj, ?_⟩
  rw [ng_ng]
  rcases h2 with ⟨e1, e2⟩ | ⟨e1, e2⟩
  · exact .inr ⟨e2, e1⟩
  · exact .inl ⟨e2, e1⟩
theorem Rch.contra {ru : Nat → Nat × Nat} {n x y : Nat} (h : Rch ru n x y) : Rch ru n (ng y) (ng x) := by
  induction h with
  | refl => exact .refl
  | tail _ hz ih => exact (Rch.tail .refl (afL_contra hz)).trans ih
theorem Rch.contra' {ru : Nat → Nat × Nat} {n x y : Nat} (h : Rch ru n x (ng y)) : Rch ru n y (ng x) := by
  have := h.contra
  rw [ng_ng] at this
  exact this
theorem Rch.true {ru : Nat → Nat × Nat} {n bits x y : Nat} (h : okR ru n bits = true) (hxy : Rch ru n x y) (hx : trB bits x = true) : trB bits y = true := by
  induction hxy with
  | refl => exact hx
  | tail _ hz ih => exact step_true h hz ih
theorem ng_lt {x T : Nat} (h : x < 2 * T) : ng x < 2 * T := by unfold ng; split <;> omega
/-- cases that are closed and agree with each other -/
structure Cons (ru : Nat → Nat × Nat) (n : Nat) (A : Nat → Prop) : Prop where
  cl : ∀ x y, A x → y ∈ afL ru x n → A y
  co : ∀ x, A x → ¬ A (ng x)
theorem Cons.rch {ru : Nat → Nat × Nat} {n : Nat} {A : Nat → Prop} (h : Cons ru n A) {x y : Nat} (hx : A x) (hxy : Rch ru n x y) : A y := by
  induction hxy with
  | refl => exact hx
  | tail _ hz ih => exact h.cl _ _ ih hz
theorem Cons.add {ru : Nat → Nat × Nat} {n : Nat} {A : Nat → Prop} (h : Cons ru n A) {x : Nat} (h1 : ¬ Rch ru n x (ng x)) (h2 : ¬ A (ng x)) : Cons ru n (fun y => A y ∨ Rch ru n x y) := by
  refine ⟨fun y z hy hz => hy.imp (fun hy => h.cl _ _ hy hz) fun hy => hy.tail hz, fun y hy hy2 => ?_⟩
  rcases hy with hy | hy <;> rcases hy2 with hy2 | hy2
  · exact h.co _ hy hy2
  · exact h2 (h.rch hy hy2.contra')
  · exact h2 (h.rch hy2 hy.contra)
  · exact h1 (hy.trans (by have := hy2.contra'; exact this))
/-- a book is possible: no case leads to its contrary and back -/
def Poss (ru : Nat → Nat × Nat) (n T : Nat) : Prop := ∀ x, x < 2 * T → ¬ (Rch ru n x (ng x) ∧ Rch ru n (ng x) x)
theorem Cons.all {ru : Nat → Nat × Nat} {n T : Nat} (hp : Poss ru n T) {A : Nat → Prop} (h : Cons ru n A) : ∀ k, k ≤ T → ∃ B, Cons ru n B ∧ (∀ x, A x → B x) ∧ ∀ x, x < 2 * k → B x ∨ B (ng x)
  | 0, _ => ⟨A, h, fun _ h => h, fun x hx => absurd hx (by omega)⟩
  | k + 1, hk => by
    obtain ⟨B, h1, h2, h3⟩ := Cons.all hp h k (by omega)
    have key : ∃ C, Cons ru n C ∧ (∀ x, B x → C x) ∧ (C (2 * k) ∨ C (ng (2 * k))) := by
      by_cases hb : B (2 * k)
      · exact ⟨B, h1, fun _ h => h, .inl hb⟩
      · by_cases hb2 : B (ng (2 * k))
        · exact ⟨B, h1, fun _ h => h, .inr hb2⟩
        · by_cases hr : Rch ru n (2 * k) (ng (2 * k))
          · have hr2 : ¬ Rch ru n (ng (2 * k)) (ng (ng (2 * k))) := fun h => hp (2 * k) (by omega) ⟨hr, by rw [ng_ng] at h; exact h⟩
            exact ⟨_, h1.add hr2 (by rw [ng_ng]; exact hb), fun _ h => .inl h, .inr (.inr .refl)⟩
          · exact ⟨_, h1.add hr hb2, fun _ h => .inl h, .inl (.inr .refl)⟩
    obtain ⟨C, g1, g2, g3⟩ := key
    refine ⟨C, g1, fun x hx => g2 x (h2 x hx), fun x hx => ?_⟩
    by_cases e : x < 2 * k
    · exact (h3 x e).imp (g2 x) (g2 _)
    · by_cases e2 : x = 2 * k
      · rw [e2]; exact g3
      · have e3 : x = ng (2 * k) := by unfold ng; rw [if_neg (by omega)]; omega
        rw [e3, ng_ng]; exact g3.symm
theorem bits_of (p : Nat → Bool) : ∀ T, ∃ bits, bits < 2 ^ T ∧ ∀ t, t < T → tb bits t = p t
  | 0 => ⟨0, by simp, fun t h => absurd h (by omega)⟩
  | T + 1 => by
    obtain ⟨b, h1, h2⟩ := bits_of p T
    have hp : 2 ^ (T + 1) = 2 ^ T + 2 ^ T := by rw [Nat.pow_succ]; omega
    cases hT : p T with
    | false =>
      refine ⟨b, by omega, fun t ht => ?_⟩
      by_cases e : t = T
      · subst e; rw [hT]; unfold tb; rw [Nat.div_eq_of_lt h1]; rfl
      · exact h2 t (by omega)
    | true =>
      refine ⟨b + 2 ^ T, by omega, fun t ht => ?_⟩
      by_cases e : t = T
      · subst e; rw [hT]; unfold tb
        rw [Nat.add_div_right _ (Nat.pow_pos (by decide)), Nat.div_eq_of_lt h1]; rfl
      · rw [← h2 t (by omega)]; unfold tb
        have e2 : 2 ^ T = 2 ^ t * (2 * 2 ^ (T - t - 1)) := by rw [← Nat.mul_assoc, ← Nat.pow_succ, ← Nat.pow_add]; congr 1; omega
        rw [e2, Nat.add_mul_div_left _ _ (Nat.pow_pos (by decide)), Nat.add_mul_mod_self_left]
/-- as many rules hold as can: a possible book has a truth that agrees with given cases from none of which a chain leads to the contrary of one of them -/
theorem sat {ru : Nat → Nat × Nat} {n T : Nat} (hr : ∀ j, j < n → (ru j).1 < 2 * T ∧ (ru j).2 < 2 * T) (hp : Poss ru n T) {gv : Nat → Nat} {n3 : Nat} (hv : ∀ j, j < n3 → gv j < 2 * T) (hg : ∀ i j, i < n3 → j < n3 → ¬ Rch ru n (gv i) (ng (gv j))) : ∃ bits, bits < 2 ^ T ∧ okR ru n bits = true ∧ okG gv n3 bits = true := by
  have h0 : Cons ru n (fun y => ∃ j, j < n3 ∧ Rch ru n (gv j) y) := ⟨fun x y ⟨j, hj, hx⟩ hy => ⟨j, hj, hx.tail hy⟩, fun x ⟨j, hj, hx⟩ ⟨q, hq, hx2⟩ => hg j q hj hq (hx.trans hx2.contra')⟩
  obtain ⟨B, h1, h2, h3⟩ := h0.all hp T (Nat.le_refl _)
  obtain ⟨bits, b1, b2⟩ := bits_of (fun t => @decide (B (2 * t + 1)) (Classical.propDecidable _)) T
  have key : ∀ x, x < 2 * T → B x → trB bits x = true := fun x hx hB => by
    unfold trB
    rw [b2 (x / 2) (by omega)]
    rcases Nat.mod_two_eq_zero_or_one x with e | e
    · have e2 : 2 * (x / 2) + 1 = ng x := by unfold ng; rw [if_neg (by omega)]; omega
      rw [e2, e]
      have : ¬ B (ng x) := h1.co x hB
      simp [this]
    · have e2 : 2 * (x / 2) + 1 = x := by omega
      rw [e2, e]
      simp [hB]
  refine ⟨bits, b1, mem_okR.2 fun j hj => ?_, mem_okG.2 fun j hj => key _ (hv j hj) (h2 _ ⟨j, hj, .refl⟩)⟩
  obtain ⟨r1, r2⟩ := hr j hj
  rcases h3 _ r1 with h | h
  · exact .inl (key _ r1 h)
  · exact .inr (key _ r2 (h1.cl _ _ h (mem_afL.2 ⟨j, hj, .inl ⟨(ng_ng _).symm, rfl⟩⟩)))
theorem sat_iff {ru : Nat → Nat × Nat} {n T : Nat} (hr : ∀ j, j < n → (ru j).1 < 2 * T ∧ (ru j).2 < 2 * T) {gv : Nat → Nat} {n3 : Nat} (hv : ∀ j, j < n3 → gv j < 2 * T) : (∃ bits, bits < 2 ^ T ∧ okR ru n bits = true ∧ okG gv n3 bits = true) ↔ Poss ru n T ∧ ∀ i j, i < n3 → j < n3 → ¬ Rch ru n (gv i) (ng (gv j)) := by
  refine ⟨fun ⟨bits, _, h1, h2⟩ => ⟨fun x hx ⟨r1, r2⟩ => ?_, fun i j hi hj hr => ?_⟩, fun ⟨h1, h2⟩ => sat hr h1 hv h2⟩
  · cases hb : trB bits x with
    | true => have := r1.true h1 hb; rw [trB_ng, hb] at this; cases this
    | false => have := r2.true h1 (by rw [trB_ng, hb]; rfl); rw [hb] at this; cases this
  · have g1 := mem_okG.1 h2 i hi
    have g2 := mem_okG.1 h2 j hj
    have := hr.true h1 g1
    rw [trB_ng, g2] at this; cases this
/-! the search -/
theorem nodup_le : ∀ (N : Nat) (l : List Nat), l.Nodup → (∀ x ∈ l, x < N) → l.length ≤ N
  | 0, l, _, h => by
    cases l with
    | nil => simp
    | cons x l => exact absurd (h x (by simp)) (by omega)
  | N + 1, l, hn, h => by
    have h1 := nodup_le N (l.erase N) (hn.erase N) fun x hx => by
      have := (hn.mem_erase_iff).1 hx
      have := h x this.2
      omega
    by_cases hm : N ∈ l
    · rw [List.length_erase_of_mem hm] at h1; omega
    · rw [List.erase_of_not_mem hm] at h1; omega
/-- what a search has found: for each case that was reached the one before it, and how far it is -/
structure RS (ru : Nat → Nat × Nat) (n T : Nat) (fr : Nat → Nat) (n2 : Nat) (g : Nat → Option Nat) (D : Nat → Nat) : Prop where
  src : ∀ j, j < n2 → g (fr j) ≠ none ∧ D (fr j) = 0
  par : ∀ y x, g y = some x → (x = y ∧ D y = 0 ∧ ∃ j, j < n2 ∧ fr j = y) ∨ (D y = D x + 1 ∧ g x ≠ none ∧ y ∈ afL ru x n)
  clos : ∀ x, g x ≠ none → ∀ y ∈ afL ru x n, g y ≠ none ∧ D y ≤ D x + 1
  lt : ∀ y, g y ≠ none → y < 2 * T
theorem RS.reach {ru : Nat → Nat × Nat} {n T : Nat} {fr : Nat → Nat} {n2 : Nat} {g : Nat → Option Nat} {D : Nat → Nat} (h : RS ru n T fr n2 g D) (y : Nat) : g y ≠ none ↔ ∃ j, j < n2 ∧ Rch ru n (fr j) y := by
  constructor
  · have key : ∀ d y, D y = d → g y ≠ none → ∃ j, j < n2 ∧ Rch ru n (fr j) y := by
      intro d
      induction d with
      | zero =>
        intro y hd hy
        cases hg : g y with
        | none => exact absurd hg hy
        | some x =>
          rcases h.par y x hg with ⟨_, _, j, hj, e⟩ | ⟨e, _⟩
          · exact ⟨j, hj, by rw [e]; exact .refl⟩
          · omega
      | succ d ih =>
        intro y hd hy
        cases hg : g y with
        | none => exact absurd hg hy
        | some x =>
          rcases h.par y x hg with ⟨_, e, _⟩ | ⟨e, hx, hm⟩
          · omega
          · obtain ⟨j, hj, hr⟩ := ih x (by omega) hx
            exact ⟨j, hj, hr.tail hm⟩
    exact key _ y rfl
  · rintro ⟨j, hj, hr⟩
    induction hr with
    | refl => exact (h.src j hj).1
    | tail _ hz ih => exact (h.clos _ ih _ hz).1
/-- before a round of the search -/
structure BO (ru : Nat → Nat × Nat) (n T : Nat) (fr : Nat → Nat) (n2 : Nat) (g : Nat → Option Nat) (D : Nat → Nat) (q : List Nat) (i : Nat) : Prop where
  nd : q.Nodup
  mem : ∀ y, g y ≠ none ↔ y ∈ q
  lt : ∀ y ∈ q, y < 2 * T
  src : ∀ j, j < n2 → g (fr j) ≠ none ∧ D (fr j) = 0
  par : ∀ y x, g y = some x → (x = y ∧ D y = 0 ∧ ∃ j, j < n2 ∧ fr j = y) ∨ (D y = D x + 1 ∧ g x ≠ none ∧ y ∈ afL ru x n)
  mono : ∀ a b, a ≤ b → b < q.length → D (q.getD a 0) ≤ D (q.getD b 0)
  top : ∀ b, i < q.length → b < q.length → D (q.getD b 0) ≤ D (q.getD i 0) + 1
  clos : ∀ a, a < i → ∀ y ∈ afL ru (q.getD a 0) n, g y ≠ none ∧ D y ≤ D (q.getD a 0) + 1
  le : i ≤ q.length
/-- in a round: so many of the cases that can follow are done -/
def BK (ru : Nat → Nat × Nat) (n T : Nat) (fr : Nat → Nat) (n2 : Nat) (g : Nat → Option Nat) (D : Nat → Nat) (q : List Nat) (i k : Nat) : Prop :=
  BO ru n T fr n2 g D q i ∧ i < q.length ∧ ∀ r, r < k → r < (afL ru (q.getD i 0) n).length → g ((afL ru (q.getD i 0) n).getD r 0) ≠ none ∧ D ((afL ru (q.getD i 0) n).getD r 0) ≤ D (q.getD i 0) + 1
def updN {α : Type} (g : Nat → α) (y : Nat) (x : α) (z : Nat) : α := if z = y then x else g z
theorem updN_same {α : Type} (g : Nat → α) (y : Nat) (x : α) : updN g y x y = x := by unfold updN; rw [if_pos rfl]
theorem updN_other {α : Type} {g : Nat → α} {y : Nat} {x : α} {z : Nat} (h : z ≠ y) : updN g y x z = g z := by unfold updN; rw [if_neg h]
theorem getD_app {q : List Nat} {y a : Nat} (h : a < q.length) : (q ++ [y]).getD a 0 = q.getD a 0 := by
  rw [List.getD_eq_getElem?_getD, List.getD_eq_getElem?_getD, List.getElem?_append_left h]
theorem getD_last {q : List Nat} {y : Nat} : (q ++ [y]).getD q.length 0 = y := by
  rw [List.getD_eq_getElem?_getD, List.getElem?_append_right (Nat.le_refl _), Nat.sub_self]; rfl
theorem getD_mem' {l : List Nat} {k : Nat} (h : k < l.length) : l.getD k 0 ∈ l := by rw [List.getD_eq_getElem?_getD, List.getElem?_eq_getElem h]; exact List.getElem_mem h
theorem afL_lt {ru : Nat → Nat × Nat} {n T : Nat} (hr : ∀ j, j < n → (ru j).1 < 2 * T ∧ (ru j).2 < 2 * T) {x y : Nat} (h : y ∈ afL ru x n) : y < 2 * T := by
  obtain ⟨j, hj, h2⟩ := mem_afL.1 h
  have := hr j hj
  rcases h2 with ⟨_, e⟩ | ⟨_, e⟩ <;> omega
section
variable {ru : Nat → Nat × Nat} {n T : Nat} {fr : Nat → Nat} {n2 : Nat} {g : Nat → Option Nat} {D : Nat → Nat} {q : List Nat} {i k : Nat}
theorem BO.start (h : BO ru n T fr n2 g D q i) (hi : i < q.length) : BK ru n T fr n2 g D q i 0 := ⟨h, hi, fun r hr => absurd hr (Nat.not_lt_zero _)⟩
theorem BO.len (h : BO ru n T fr n2 g D q i) : q.length ≤ 2 * T := nodup_le _ q h.nd h.lt
theorem BO.done (h : BO ru n T fr n2 g D q q.length) : RS ru n T fr n2 g D :=
  ⟨h.src, h.par, fun x hx y hy => by
    obtain ⟨a, ha, e⟩ := List.mem_iff_getElem.1 ((h.mem x).1 hx)
    have e2 : q.getD a 0 = x := by rw [List.getD_eq_getElem?_getD, List.getElem?_eq_getElem ha]; exact e
    have := h.clos a ha y (by rw [e2]; exact hy)
    rw [e2] at this; exact this, fun y hy => h.lt y ((h.mem y).1 hy)⟩
theorem BK.next (h : BK ru n T fr n2 g D q i (afL ru (q.getD i 0) n).length) : BO ru n T fr n2 g D q (i + 1) := by
  obtain ⟨h, hi, hk⟩ := h
  refine ⟨h.nd, h.mem, h.lt, h.src, h.par, h.mono, fun b hi2 hb => ?_, fun a ha y hy => ?_, hi⟩
  · have h1 := h.top b hi hb
    have h2 := h.mono i (i + 1) (by omega) hi2
    omega
  · by_cases e : a = i
    · subst e
      obtain ⟨r, hr, e2⟩ := List.mem_iff_getElem.1 hy
      have e3 : (afL ru (q.getD a 0) n).getD r 0 = y := by rw [List.getD_eq_getElem?_getD, List.getElem?_eq_getElem hr]; exact e2
      have := hk r hr hr
      rw [e3] at this; exact this
    · exact h.clos a (by omega) y hy
theorem BK.old (h : BK ru n T fr n2 g D q i k) (hk : k < (afL ru (q.getD i 0) n).length) (hg : g ((afL ru (q.getD i 0) n).getD k 0) ≠ none) : BK ru n T fr n2 g D q i (k + 1) := by
  obtain ⟨h, hi, h2⟩ := h
  refine ⟨h, hi, fun r hr hl => ?_⟩
  by_cases e : r = k
  · subst e
    refine ⟨hg, ?_⟩
    obtain ⟨b, hb, e2⟩ := List.mem_iff_getElem.1 ((h.mem _).1 hg)
    have e3 : q.getD b 0 = (afL ru (q.getD i 0) n).getD r 0 := by rw [List.getD_eq_getElem?_getD, List.getElem?_eq_getElem hb]; exact e2
    have := h.top b hi hb
    rw [e3] at this; exact this
  · exact h2 r (by omega) hl
theorem BK.new (hr : ∀ j, j < n → (ru j).1 < 2 * T ∧ (ru j).2 < 2 * T) (h : BK ru n T fr n2 g D q i k) (hk : k < (afL ru (q.getD i 0) n).length) {y : Nat} (hy : y = (afL ru (q.getD i 0) n).getD k 0) (hg : g y = none) :
    BK ru n T fr n2 (updN g y (some (q.getD i 0))) (updN D y (D (q.getD i 0) + 1)) (q ++ [y]) i (k + 1) := by
  obtain ⟨h, hi, h2⟩ := h
  have hyq : y ∉ q := fun hm => (h.mem y).2 hm hg
  have hne : ∀ z, g z ≠ none → z ≠ y := fun z hz e => hz (by rw [e]; exact hg)
  have hneq : ∀ a, a < q.length → q.getD a 0 ≠ y := fun a ha e => hyq (by rw [← e]; exact getD_mem' ha)
  have hxi := hneq i hi
  have hq' : ∀ a, a < q.length → (q ++ [y]).getD a 0 = q.getD a 0 := fun a ha => getD_app ha
  have hD' : ∀ a, a < q.length → updN D y (D (q.getD i 0) + 1) ((q ++ [y]).getD a 0) = D (q.getD a 0) := fun a ha => by rw [hq' a ha, updN_other (hneq a ha)]
  have hDl : updN D y (D (q.getD i 0) + 1) ((q ++ [y]).getD q.length 0) = D (q.getD i 0) + 1 := by rw [getD_last, updN_same]
  have hym : y ∈ afL ru (q.getD i 0) n := by rw [hy]; exact getD_mem' hk
  have hxq : g (q.getD i 0) ≠ none := (h.mem _).2 (getD_mem' hi)
  have hll : (q ++ [y]).length = q.length + 1 := by simp
  have g1 : ∀ z, updN g y (some (q.getD i 0)) z ≠ none ↔ z ∈ q ++ [y] := fun z => by
    by_cases e : z = y
    · rw [e, updN_same]; simp
    · rw [updN_other e, h.mem z]; simp [e]
  have hne2 : ∀ z, g z ≠ none → updN g y (some (q.getD i 0)) z ≠ none ∧ updN D y (D (q.getD i 0) + 1) z = D z := fun z hz => ⟨by rw [updN_other (hne z hz)]; exact hz, by rw [updN_other (hne z hz)]⟩
  refine ⟨⟨?_, g1, fun z hz => ?_, fun j hj => ?_, fun z x hz => ?_, fun a b hab hb => ?_, fun b hi2 hb => ?_, fun a ha z hz => ?_, by have := h.le; omega⟩, by omega, fun r hr2 hl => ?_⟩
  · rw [List.nodup_append]
    exact ⟨h.nd, by simp, fun a ha b hb e => by rw [List.mem_singleton] at hb; subst hb; subst e; exact hyq ha⟩
  · rcases List.mem_append.1 hz with hz | hz
    · exact h.lt z hz
    · rw [List.mem_singleton.1 hz]; exact afL_lt hr hym
  · obtain ⟨s1, s2⟩ := h.src j hj
    obtain ⟨t1, t2⟩ := hne2 _ s1
    exact ⟨t1, t2.trans s2⟩
  · by_cases e : z = y
    · rw [e, updN_same] at hz
      cases hz
      rw [e, updN_same, updN_other hxi]
      exact .inr ⟨rfl, by rw [updN_other hxi]; exact hxq, hym⟩
    · rw [updN_other e] at hz
      have hzn : g z ≠ none := by rw [hz]; simp
      rw [updN_other e]
      rcases h.par z x hz with ⟨e1, e2, e3⟩ | ⟨e1, e2, e3⟩
      · exact .inl ⟨e1, e2, e3⟩
      · obtain ⟨t1, t2⟩ := hne2 x e2
        exact .inr ⟨by rw [t2]; exact e1, t1, e3⟩
  · rw [hll] at hb
    by_cases eb : b = q.length
    · rw [eb, hDl]
      by_cases ea : a = q.length
      · rw [ea, hDl]; exact Nat.le_refl _
      · rw [hD' a (by omega)]; exact h.top a hi (by omega)
    · rw [hD' b (by omega), hD' a (by omega)]; exact h.mono a b hab (by omega)
  · rw [hll] at hb
    rw [hD' i hi]
    by_cases eb : b = q.length
    · rw [eb, hDl]; exact Nat.le_refl _
    · rw [hD' b (by omega)]; exact h.top b hi (by omega)
  · rw [hq' a (by omega)] at hz
    obtain ⟨s1, s2⟩ := h.clos a ha z hz
    obtain ⟨t1, t2⟩ := hne2 z s1
    exact ⟨t1, by rw [t2, hD' a (by omega)]; exact s2⟩
  · rw [hq' i hi] at hl ⊢
    by_cases e : r = k
    · rw [e, ← hy, updN_same]
      rw [updN_same, updN_other hxi]
      exact ⟨by simp, Nat.le_refl _⟩
    · obtain ⟨s1, s2⟩ := h2 r (by omega) hl
      obtain ⟨t1, t2⟩ := hne2 _ s1
      exact ⟨t1, by rw [t2, updN_other hxi]; exact s2⟩
/-- the search begins -/
structure BS (T : Nat) (fr : Nat → Nat) (j : Nat) (g : Nat → Option Nat) (q : List Nat) : Prop where
  nd : q.Nodup
  mem : ∀ y, g y ≠ none ↔ y ∈ q
  lt : ∀ y ∈ q, y < 2 * T
  src : ∀ r, r < j → g (fr r) ≠ none
  par : ∀ y x, g y = some x → x = y ∧ ∃ r, r < j ∧ fr r = y
theorem BS.zero : BS T fr 0 (fun _ => none) [] := ⟨List.nodup_nil, fun y => by simp, fun y hy => by simp at hy, fun r hr => absurd hr (Nat.not_lt_zero _), fun y x h => by cases h⟩
theorem BS.old {j : Nat} (h : BS T fr j g q) (hg : g (fr j) ≠ none) : BS T fr (j + 1) g q :=
  ⟨h.nd, h.mem, h.lt, fun r hr => by
    by_cases e : r = j
    · rw [e]; exact hg
    · exact h.src r (by omega), fun y x hy => by obtain ⟨e, r, hr, e2⟩ := h.par y x hy; exact ⟨e, r, by omega, e2⟩⟩
theorem BS.new {j : Nat} (h : BS T fr j g q) (hj : fr j < 2 * T) (hg : g (fr j) = none) : BS T fr (j + 1) (updN g (fr j) (some (fr j))) (q ++ [fr j]) := by
  have hyq : fr j ∉ q := fun hm => (h.mem _).2 hm hg
  refine ⟨?_, fun z => ?_, fun z hz => ?_, fun r hr => ?_, fun z x hz => ?_⟩
  · rw [List.nodup_append]
    exact ⟨h.nd, by simp, fun a ha b hb e => by rw [List.mem_singleton] at hb; rw [e, hb] at ha; exact hyq ha⟩
  · by_cases e : z = fr j
    · rw [e, updN_same]; simp
    · rw [updN_other e, h.mem z]; simp [e]
  · rcases List.mem_append.1 hz with hz | hz
    · exact h.lt z hz
    · rw [List.mem_singleton.1 hz]; exact hj
  · by_cases e : fr r = fr j
    · rw [e, updN_same]; simp
    · rw [updN_other e]; exact h.src r (by have : r ≠ j := fun e2 => e (by rw [e2]); omega)
  · by_cases e : z = fr j
    · rw [e, updN_same] at hz; cases hz; exact ⟨e.symm, j, by omega, e.symm⟩
    · rw [updN_other e] at hz
      obtain ⟨e1, r, hr, e2⟩ := h.par z x hz
      exact ⟨e1, r, by omega, e2⟩
theorem BS.len {j : Nat} (h : BS T fr j g q) : q.length ≤ 2 * T := nodup_le _ q h.nd h.lt
theorem BS.go (h : BS T fr n2 g q) : BO ru n T fr n2 g (fun _ => 0) q 0 :=
  ⟨h.nd, h.mem, h.lt, fun j hj => ⟨h.src j hj, rfl⟩, fun y x hy => .inl ⟨(h.par y x hy).1, rfl, (h.par y x hy).2⟩, fun _ _ _ _ => Nat.le_refl _, fun _ _ _ => by omega, fun a ha => absurd ha (Nat.not_lt_zero _), Nat.zero_le _⟩
end
/-- a chain, as a list -/
structure CH (ru : Nat → Nat × Nat) (n T x y L : Nat) (ch : Nat → Nat) : Prop where
  pos : 0 < L
  fst : ch 0 = x
  lst : ch (L - 1) = y
  lnk : linkB ru n ch (L - 1) = true
  lt : ∀ j, j < L → ch j < 2 * T
  le : L ≤ 2 * T
theorem CH.rch {ru : Nat → Nat × Nat} {n T x y L : Nat} {ch : Nat → Nat} (h : CH ru n T x y L ch) : Rch ru n x y := by
  have hl := h.lnk
  unfold linkB at hl
  rw [List.all_eq_true] at hl
  have key : ∀ j, j ≤ L - 1 → Rch ru n (ch 0) (ch j) := by
    intro j
    induction j with
    | zero => intro _; exact .refl
    | succ j ih =>
      intro hj
      have := hl j (List.mem_range.2 (by omega))
      rw [decide_eq_true_eq, Nat.add_comm] at this
      exact (ih (by omega)).tail this
  have := key (L - 1) (Nat.le_refl _)
  rw [h.fst, h.lst] at this
  exact this
end Go.Proofs.Ytoocmgefoagfnaa
namespace Go.Proofs.Ytoocmgefoagfnaa
open Go.Ab
attribute [local irreducible] aggOk drwOK
set_option maxRecDepth 100000
set_option maxHeartbeats 4000000
set_option linter.unusedVariables false
set_option linter.unusedSimpArgs false
theorem WV {m m' : Mem} (h : WkM m m' := by refine Sel.wk ?_; (try simp only [List.cons_append, List.nil_append]); repeat' (first | exact Sel.nil | exact Sel.all | exact Sel.left | refine Sel.cons Pick.here ?_ | refine Sel.cons (Pick.there Pick.here) ?_ | refine Sel.cons (Pick.there (Pick.there Pick.here)) ?_ | refine Sel.cons (Pick.there (Pick.there (Pick.there Pick.here))) ?_ | refine Sel.cons (Pick.there (Pick.there (Pick.there (Pick.there Pick.here)))) ?_ | refine Sel.cons (Pick.there (Pick.there (Pick.there (Pick.there (Pick.there Pick.here))))) ?_ | refine Sel.cons (Pick.there (Pick.there (Pick.there (Pick.there (Pick.there (Pick.there Pick.here)))))) ?_ | refine Sel.cons (Pick.there (Pick.there (Pick.there (Pick.there (Pick.there (Pick.there (Pick.there Pick.here))))))) ?_ | refine Sel.cons (Pick.there (Pick.there (Pick.there (Pick.there (Pick.there (Pick.there (Pick.there (Pick.there Pick.here)))))))) ?_ | refine Sel.cons (Pick.there (Pick.there (Pick.there (Pick.there (Pick.there (Pick.there (Pick.there (Pick.there (Pick.there Pick.here))))))))) ?_ | refine Sel.cons (Pick.there (Pick.there (Pick.there (Pick.there (Pick.there (Pick.there (Pick.there (Pick.there (Pick.there (Pick.there Pick.here)))))))))) ?_ | refine Sel.cons (Pick.there (Pick.there (Pick.there (Pick.there (Pick.there (Pick.there (Pick.there (Pick.there (Pick.there (Pick.there (Pick.there Pick.here))))))))))) ?_ | refine Sel.cons (Pick.there (Pick.there (Pick.there (Pick.there (Pick.there (Pick.there (Pick.there (Pick.there (Pick.there (Pick.there (Pick.there (Pick.there Pick.here)))))))))))) ?_ | refine Sel.cons (Pick.there (Pick.there (Pick.there (Pick.there (Pick.there (Pick.there (Pick.there (Pick.there (Pick.there (Pick.there (Pick.there (Pick.there (Pick.there Pick.here))))))))))))) ?_ | refine Sel.cons (Pick.there (Pick.there (Pick.there (Pick.there (Pick.there (Pick.there (Pick.there (Pick.there (Pick.there (Pick.there (Pick.there (Pick.there (Pick.there (Pick.there Pick.here)))))))))))))) ?_ | refine Sel.cons (Pick.there (Pick.there (Pick.there (Pick.there (Pick.there (Pick.there (Pick.there (Pick.there (Pick.there (Pick.there (Pick.there (Pick.there (Pick.there (Pick.there (Pick.there Pick.here))))))))))))))) ?_ | refine Sel.consw Pick.here ⟨rfl, rfl, rfl⟩ ?_ | refine Sel.consw (Pick.there Pick.here) ⟨rfl, rfl, rfl⟩ ?_ | refine Sel.consw (Pick.there (Pick.there Pick.here)) ⟨rfl, rfl, rfl⟩ ?_ | refine Sel.consw (Pick.there (Pick.there (Pick.there Pick.here))) ⟨rfl, rfl, rfl⟩ ?_ | refine Sel.consw (Pick.there (Pick.there (Pick.there (Pick.there Pick.here)))) ⟨rfl, rfl, rfl⟩ ?_ | refine Sel.consw (Pick.there (Pick.there (Pick.there (Pick.there (Pick.there Pick.here))))) ⟨rfl, rfl, rfl⟩ ?_ | refine Sel.consw (Pick.there (Pick.there (Pick.there (Pick.there (Pick.there (Pick.there Pick.here)))))) ⟨rfl, rfl, rfl⟩ ?_ | refine Sel.consw (Pick.there (Pick.there (Pick.there (Pick.there (Pick.there (Pick.there (Pick.there Pick.here))))))) ⟨rfl, rfl, rfl⟩ ?_ | refine Sel.consw (Pick.there (Pick.there (Pick.there (Pick.there (Pick.there (Pick.there (Pick.there (Pick.there Pick.here)))))))) ⟨rfl, rfl, rfl⟩ ?_ | refine Sel.consw (Pick.there (Pick.there (Pick.there (Pick.there (Pick.there (Pick.there (Pick.there (Pick.there (Pick.there Pick.here))))))))) ⟨rfl, rfl, rfl⟩ ?_ | refine Sel.consw (Pick.there (Pick.there (Pick.there (Pick.there (Pick.there (Pick.there (Pick.there (Pick.there (Pick.there (Pick.there Pick.here)))))))))) ⟨rfl, rfl, rfl⟩ ?_ | refine Sel.consw (Pick.there (Pick.there (Pick.there (Pick.there (Pick.there (Pick.there (Pick.there (Pick.there (Pick.there (Pick.there (Pick.there Pick.here))))))))))) ⟨rfl, rfl, rfl⟩ ?_ | refine Sel.consw (Pick.there (Pick.there (Pick.there (Pick.there (Pick.there (Pick.there (Pick.there (Pick.there (Pick.there (Pick.there (Pick.there (Pick.there Pick.here)))))))))))) ⟨rfl, rfl, rfl⟩ ?_ | refine Sel.consw (Pick.there (Pick.there (Pick.there (Pick.there (Pick.there (Pick.there (Pick.there (Pick.there (Pick.there (Pick.there (Pick.there (Pick.there (Pick.there Pick.here))))))))))))) ⟨rfl, rfl, rfl⟩ ?_ | refine Sel.consw (Pick.there (Pick.there (Pick.there (Pick.there (Pick.there (Pick.there (Pick.there (Pick.there (Pick.there (Pick.there (Pick.there (Pick.there (Pick.there (Pick.there Pick.here)))))))))))))) ⟨rfl, rfl, rfl⟩ ?_ | refine Sel.consw (Pick.there (Pick.there (Pick.there (Pick.there (Pick.there (Pick.there (Pick.there (Pick.there (Pick.there (Pick.there (Pick.there (Pick.there (Pick.there (Pick.there (Pick.there Pick.here))))))))))))))) ⟨rfl, rfl, rfl⟩ ?_ | refine Sel.consw Pick.here ⟨rfl, rfl, rfl, rfl, by assumption⟩ ?_ | refine Sel.consw (Pick.there Pick.here) ⟨rfl, rfl, rfl, rfl, by assumption⟩ ?_ | refine Sel.consw (Pick.there (Pick.there Pick.here)) ⟨rfl, rfl, rfl, rfl, by assumption⟩ ?_ | refine Sel.consw (Pick.there (Pick.there (Pick.there Pick.here))) ⟨rfl, rfl, rfl, rfl, by assumption⟩ ?_ | refine Sel.consw (Pick.there (Pick.there (Pick.there (Pick.there Pick.here)))) ⟨rfl, rfl, rfl, rfl, by assumption⟩ ?_ | refine Sel.consw (Pick.there (Pick.there (Pick.there (Pick.there (Pick.there Pick.here))))) ⟨rfl, rfl, rfl, rfl, by assumption⟩ ?_ | refine Sel.consw (Pick.there (Pick.there (Pick.there (Pick.there (Pick.there (Pick.there Pick.here)))))) ⟨rfl, rfl, rfl, rfl, by assumption⟩ ?_ | refine Sel.consw (Pick.there (Pick.there (Pick.there (Pick.there (Pick.there (Pick.there (Pick.there Pick.here))))))) ⟨rfl, rfl, rfl, rfl, by assumption⟩ ?_ | refine Sel.consw (Pick.there (Pick.there (Pick.there (Pick.there (Pick.there (Pick.there (Pick.there (Pick.there Pick.here)))))))) ⟨rfl, rfl, rfl, rfl, by assumption⟩ ?_ | refine Sel.consw (Pick.there (Pick.there (Pick.there (Pick.there (Pick.there (Pick.there (Pick.there (Pick.there (Pick.there Pick.here))))))))) ⟨rfl, rfl, rfl, rfl, by assumption⟩ ?_ | refine Sel.consw (Pick.there (Pick.there (Pick.there (Pick.there (Pick.there (Pick.there (Pick.there (Pick.there (Pick.there (Pick.there Pick.here)))))))))) ⟨rfl, rfl, rfl, rfl, by assumption⟩ ?_ | refine Sel.consw (Pick.there (Pick.there (Pick.there (Pick.there (Pick.there (Pick.there (Pick.there (Pick.there (Pick.there (Pick.there (Pick.there Pick.here))))))))))) ⟨rfl, rfl, rfl, rfl, by assumption⟩ ?_ | refine Sel.consw (Pick.there (Pick.there (Pick.there (Pick.there (Pick.there (Pick.there (Pick.there (Pick.there (Pick.there (Pick.there (Pick.there (Pick.there Pick.here)))))))))))) ⟨rfl, rfl, rfl, rfl, by assumption⟩ ?_ | refine Sel.consw (Pick.there (Pick.there (Pick.there (Pick.there (Pick.there (Pick.there (Pick.there (Pick.there (Pick.there (Pick.there (Pick.there (Pick.there (Pick.there Pick.here))))))))))))) ⟨rfl, rfl, rfl, rfl, by assumption⟩ ?_ | refine Sel.consw (Pick.there (Pick.there (Pick.there (Pick.there (Pick.there (Pick.there (Pick.there (Pick.there (Pick.there (Pick.there (Pick.there (Pick.there (Pick.there (Pick.there Pick.here)))))))))))))) ⟨rfl, rfl, rfl, rfl, by assumption⟩ ?_ | refine Sel.consw (Pick.there (Pick.there (Pick.there (Pick.there (Pick.there (Pick.there (Pick.there (Pick.there (Pick.there (Pick.there (Pick.there (Pick.there (Pick.there (Pick.there (Pick.there Pick.here))))))))))))))) ⟨rfl, rfl, rfl, rfl, by assumption⟩ ?_ | refine Sel.consw Pick.here ⟨rfl, rfl, rfl, .inl rfl, fun _ _ => rfl⟩ ?_ | refine Sel.consw (Pick.there Pick.here) ⟨rfl, rfl, rfl, .inl rfl, fun _ _ => rfl⟩ ?_ | refine Sel.consw (Pick.there (Pick.there Pick.here)) ⟨rfl, rfl, rfl, .inl rfl, fun _ _ => rfl⟩ ?_ | refine Sel.consw (Pick.there (Pick.there (Pick.there Pick.here))) ⟨rfl, rfl, rfl, .inl rfl, fun _ _ => rfl⟩ ?_ | refine Sel.consw (Pick.there (Pick.there (Pick.there (Pick.there Pick.here)))) ⟨rfl, rfl, rfl, .inl rfl, fun _ _ => rfl⟩ ?_ | refine Sel.consw (Pick.there (Pick.there (Pick.there (Pick.there (Pick.there Pick.here))))) ⟨rfl, rfl, rfl, .inl rfl, fun _ _ => rfl⟩ ?_ | refine Sel.consw (Pick.there (Pick.there (Pick.there (Pick.there (Pick.there (Pick.there Pick.here)))))) ⟨rfl, rfl, rfl, .inl rfl, fun _ _ => rfl⟩ ?_ | refine Sel.consw (Pick.there (Pick.there (Pick.there (Pick.there (Pick.there (Pick.there (Pick.there Pick.here))))))) ⟨rfl, rfl, rfl, .inl rfl, fun _ _ => rfl⟩ ?_ | refine Sel.consw (Pick.there (Pick.there (Pick.there (Pick.there (Pick.there (Pick.there (Pick.there (Pick.there Pick.here)))))))) ⟨rfl, rfl, rfl, .inl rfl, fun _ _ => rfl⟩ ?_ | refine Sel.consw (Pick.there (Pick.there (Pick.there (Pick.there (Pick.there (Pick.there (Pick.there (Pick.there (Pick.there Pick.here))))))))) ⟨rfl, rfl, rfl, .inl rfl, fun _ _ => rfl⟩ ?_ | refine Sel.consw (Pick.there (Pick.there (Pick.there (Pick.there (Pick.there (Pick.there (Pick.there (Pick.there (Pick.there (Pick.there Pick.here)))))))))) ⟨rfl, rfl, rfl, .inl rfl, fun _ _ => rfl⟩ ?_ | refine Sel.consw (Pick.there (Pick.there (Pick.there (Pick.there (Pick.there (Pick.there (Pick.there (Pick.there (Pick.there (Pick.there (Pick.there Pick.here))))))))))) ⟨rfl, rfl, rfl, .inl rfl, fun _ _ => rfl⟩ ?_ | refine Sel.consw (Pick.there (Pick.there (Pick.there (Pick.there (Pick.there (Pick.there (Pick.there (Pick.there (Pick.there (Pick.there (Pick.there (Pick.there Pick.here)))))))))))) ⟨rfl, rfl, rfl, .inl rfl, fun _ _ => rfl⟩ ?_ | refine Sel.consw (Pick.there (Pick.there (Pick.there (Pick.there (Pick.there (Pick.there (Pick.there (Pick.there (Pick.there (Pick.there (Pick.there (Pick.there (Pick.there Pick.here))))))))))))) ⟨rfl, rfl, rfl, .inl rfl, fun _ _ => rfl⟩ ?_ | refine Sel.consw (Pick.there (Pick.there (Pick.there (Pick.there (Pick.there (Pick.there (Pick.there (Pick.there (Pick.there (Pick.there (Pick.there (Pick.there (Pick.there (Pick.there Pick.here)))))))))))))) ⟨rfl, rfl, rfl, .inl rfl, fun _ _ => rfl⟩ ?_ | refine Sel.consw (Pick.there (Pick.there (Pick.there (Pick.there (Pick.there (Pick.there (Pick.there (Pick.there (Pick.there (Pick.there (Pick.there (Pick.there (Pick.there (Pick.there (Pick.there Pick.here))))))))))))))) ⟨rfl, rfl, rfl, .inl rfl, fun _ _ => rfl⟩ ?_ | refine Sel.consw Pick.here ⟨rfl, rfl, rfl, .inr rfl, fun _ _ => rfl⟩ ?_ | refine Sel.consw (Pick.there Pick.here) ⟨rfl, rfl, rfl, .inr rfl, fun _ _ => rfl⟩ ?_ | refine Sel.consw (Pick.there (Pick.there Pick.here)) ⟨rfl, rfl, rfl, .inr rfl, fun _ _ => rfl⟩ ?_ | refine Sel.consw (Pick.there (Pick.there (Pick.there Pick.here))) ⟨rfl, rfl, rfl, .inr rfl, fun _ _ => rfl⟩ ?_ | refine Sel.consw (Pick.there (Pick.there (Pick.there (Pick.there Pick.here)))) ⟨rfl, rfl, rfl, .inr rfl, fun _ _ => rfl⟩ ?_ | refine Sel.consw (Pick.there (Pick.there (Pick.there (Pick.there (Pick.there Pick.here))))) ⟨rfl, rfl, rfl, .inr rfl, fun _ _ => rfl⟩ ?_ | refine Sel.consw (Pick.there (Pick.there (Pick.there (Pick.there (Pick.there (Pick.there Pick.here)))))) ⟨rfl, rfl, rfl, .inr rfl, fun _ _ => rfl⟩ ?_ | refine Sel.consw (Pick.there (Pick.there (Pick.there (Pick.there (Pick.there (Pick.there (Pick.there Pick.here))))))) ⟨rfl, rfl, rfl, .inr rfl, fun _ _ => rfl⟩ ?_ | refine Sel.consw (Pick.there (Pick.there (Pick.there (Pick.there (Pick.there (Pick.there (Pick.there (Pick.there Pick.here)))))))) ⟨rfl, rfl, rfl, .inr rfl, fun _ _ => rfl⟩ ?_ | refine Sel.consw (Pick.there (Pick.there (Pick.there (Pick.there (Pick.there (Pick.there (Pick.there (Pick.there (Pick.there Pick.here))))))))) ⟨rfl, rfl, rfl, .inr rfl, fun _ _ => rfl⟩ ?_ | refine Sel.consw (Pick.there (Pick.there (Pick.there (Pick.there (Pick.there (Pick.there (Pick.there (Pick.there (Pick.there (Pick.there Pick.here)))))))))) ⟨rfl, rfl, rfl, .inr rfl, fun _ _ => rfl⟩ ?_ | refine Sel.consw (Pick.there (Pick.there (Pick.there (Pick.there (Pick.there (Pick.there (Pick.there (Pick.there (Pick.there (Pick.there (Pick.there Pick.here))))))))))) ⟨rfl, rfl, rfl, .inr rfl, fun _ _ => rfl⟩ ?_ | refine Sel.consw (Pick.there (Pick.there (Pick.there (Pick.there (Pick.there (Pick.there (Pick.there (Pick.there (Pick.there (Pick.there (Pick.there (Pick.there Pick.here)))))))))))) ⟨rfl, rfl, rfl, .inr rfl, fun _ _ => rfl⟩ ?_ | refine Sel.consw (Pick.there (Pick.there (Pick.there (Pick.there (Pick.there (Pick.there (Pick.there (Pick.there (Pick.there (Pick.there (Pick.there (Pick.there (Pick.there Pick.here))))))))))))) ⟨rfl, rfl, rfl, .inr rfl, fun _ _ => rfl⟩ ?_ | refine Sel.consw (Pick.there (Pick.there (Pick.there (Pick.there (Pick.there (Pick.there (Pick.there (Pick.there (Pick.there (Pick.there (Pick.there (Pick.there (Pick.there (Pick.there Pick.here)))))))))))))) ⟨rfl, rfl, rfl, .inr rfl, fun _ _ => rfl⟩ ?_ | refine Sel.consw (Pick.there (Pick.there (Pick.there (Pick.there (Pick.there (Pick.there (Pick.there (Pick.there (Pick.there (Pick.there (Pick.there (Pick.there (Pick.there (Pick.there (Pick.there Pick.here))))))))))))))) ⟨rfl, rfl, rfl, .inr rfl, fun _ _ => rfl⟩ ?_ | refine Sel.consw Pick.here ⟨rfl, .inl ⟨rfl, by assumption⟩⟩ ?_ | refine Sel.consw (Pick.there Pick.here) ⟨rfl, .inl ⟨rfl, by assumption⟩⟩ ?_ | refine Sel.consw (Pick.there (Pick.there Pick.here)) ⟨rfl, .inl ⟨rfl, by assumption⟩⟩ ?_ | refine Sel.consw (Pick.there (Pick.there (Pick.there Pick.here))) ⟨rfl, .inl ⟨rfl, by assumption⟩⟩ ?_ | refine Sel.consw (Pick.there (Pick.there (Pick.there (Pick.there Pick.here)))) ⟨rfl, .inl ⟨rfl, by assumption⟩⟩ ?_ | refine Sel.consw (Pick.there (Pick.there (Pick.there (Pick.there (Pick.there Pick.here))))) ⟨rfl, .inl ⟨rfl, by assumption⟩⟩ ?_ | refine Sel.consw (Pick.there (Pick.there (Pick.there (Pick.there (Pick.there (Pick.there Pick.here)))))) ⟨rfl, .inl ⟨rfl, by assumption⟩⟩ ?_ | refine Sel.consw (Pick.there (Pick.there (Pick.there (Pick.there (Pick.there (Pick.there (Pick.there Pick.here))))))) ⟨rfl, .inl ⟨rfl, by assumption⟩⟩ ?_ | refine Sel.consw Pick.here ⟨rfl, .inr ⟨fun _ => rfl, fun _ => rfl⟩⟩ ?_ | refine Sel.consw (Pick.there Pick.here) ⟨rfl, .inr ⟨fun _ => rfl, fun _ => rfl⟩⟩ ?_ | refine Sel.consw (Pick.there (Pick.there Pick.here)) ⟨rfl, .inr ⟨fun _ => rfl, fun _ => rfl⟩⟩ ?_ | refine Sel.consw (Pick.there (Pick.there (Pick.there Pick.here))) ⟨rfl, .inr ⟨fun _ => rfl, fun _ => rfl⟩⟩ ?_ | refine Sel.consw (Pick.there (Pick.there (Pick.there (Pick.there Pick.here)))) ⟨rfl, .inr ⟨fun _ => rfl, fun _ => rfl⟩⟩ ?_ | refine Sel.consw (Pick.there (Pick.there (Pick.there (Pick.there (Pick.there Pick.here))))) ⟨rfl, .inr ⟨fun _ => rfl, fun _ => rfl⟩⟩ ?_ | refine Sel.consw (Pick.there (Pick.there (Pick.there (Pick.there (Pick.there (Pick.there Pick.here)))))) ⟨rfl, .inr ⟨fun _ => rfl, fun _ => rfl⟩⟩ ?_ | refine Sel.consw (Pick.there (Pick.there (Pick.there (Pick.there (Pick.there (Pick.there (Pick.there Pick.here))))))) ⟨rfl, .inr ⟨fun _ => rfl, fun _ => rfl⟩⟩ ?_ | refine Sel.snoc Pick.here ?_ | refine Sel.snoc (Pick.there Pick.here) ?_ | refine Sel.snoc (Pick.there (Pick.there Pick.here)) ?_ | refine Sel.snoc (Pick.there (Pick.there (Pick.there Pick.here))) ?_ | refine Sel.snoc (Pick.there (Pick.there (Pick.there (Pick.there Pick.here)))) ?_ | refine Sel.snoc (Pick.there (Pick.there (Pick.there (Pick.there (Pick.there Pick.here))))) ?_ | refine Sel.snoc (Pick.there (Pick.there (Pick.there (Pick.there (Pick.there (Pick.there Pick.here)))))) ?_ | refine Sel.snoc (Pick.there (Pick.there (Pick.there (Pick.there (Pick.there (Pick.there (Pick.there Pick.here))))))) ?_ | refine Sel.snoc (Pick.there (Pick.there (Pick.there (Pick.there (Pick.there (Pick.there (Pick.there (Pick.there Pick.here)))))))) ?_ | refine Sel.snoc (Pick.there (Pick.there (Pick.there (Pick.there (Pick.there (Pick.there (Pick.there (Pick.there (Pick.there Pick.here))))))))) ?_ | refine Sel.snoc (Pick.there (Pick.there (Pick.there (Pick.there (Pick.there (Pick.there (Pick.there (Pick.there (Pick.there (Pick.there Pick.here)))))))))) ?_ | refine Sel.snoc (Pick.there (Pick.there (Pick.there (Pick.there (Pick.there (Pick.there (Pick.there (Pick.there (Pick.there (Pick.there (Pick.there Pick.here))))))))))) ?_ | refine Sel.snoc (Pick.there (Pick.there (Pick.there (Pick.there (Pick.there (Pick.there (Pick.there (Pick.there (Pick.there (Pick.there (Pick.there (Pick.there Pick.here)))))))))))) ?_ | refine Sel.snoc (Pick.there (Pick.there (Pick.there (Pick.there (Pick.there (Pick.there (Pick.there (Pick.there (Pick.there (Pick.there (Pick.there (Pick.there (Pick.there Pick.here))))))))))))) ?_ | refine Sel.snoc (Pick.there (Pick.there (Pick.there (Pick.there (Pick.there (Pick.there (Pick.there (Pick.there (Pick.there (Pick.there (Pick.there (Pick.there (Pick.there (Pick.there Pick.here)))))))))))))) ?_ | refine Sel.snoc (Pick.there (Pick.there (Pick.there (Pick.there (Pick.there (Pick.there (Pick.there (Pick.there (Pick.there (Pick.there (Pick.there (Pick.there (Pick.there (Pick.there (Pick.there Pick.here))))))))))))))) ?_ | refine Sel.drop ?_)) : WkM m m' := h
theorem WO {m m' : Mem} (h : WkM m m' := by refine Sel.wk ?_; (try simp only [List.cons_append, List.nil_append]); repeat' (first | exact Sel.nil | exact Sel.all | exact Sel.left | refine Sel.cons Pick.here ?_ | refine Sel.cons (Pick.there Pick.here) ?_ | refine Sel.cons (Pick.there (Pick.there Pick.here)) ?_ | refine Sel.cons (Pick.there (Pick.there (Pick.there Pick.here))) ?_ | refine Sel.cons (Pick.there (Pick.there (Pick.there (Pick.there Pick.here)))) ?_ | refine Sel.cons (Pick.there (Pick.there (Pick.there (Pick.there (Pick.there Pick.here))))) ?_ | refine Sel.cons (Pick.there (Pick.there (Pick.there (Pick.there (Pick.there (Pick.there Pick.here)))))) ?_ | refine Sel.cons (Pick.there (Pick.there (Pick.there (Pick.there (Pick.there (Pick.there (Pick.there Pick.here))))))) ?_ | refine Sel.cons (Pick.there (Pick.there (Pick.there (Pick.there (Pick.there (Pick.there (Pick.there (Pick.there Pick.here)))))))) ?_ | refine Sel.cons (Pick.there (Pick.there (Pick.there (Pick.there (Pick.there (Pick.there (Pick.there (Pick.there (Pick.there Pick.here))))))))) ?_ | refine Sel.cons (Pick.there (Pick.there (Pick.there (Pick.there (Pick.there (Pick.there (Pick.there (Pick.there (Pick.there (Pick.there Pick.here)))))))))) ?_ | refine Sel.cons (Pick.there (Pick.there (Pick.there (Pick.there (Pick.there (Pick.there (Pick.there (Pick.there (Pick.there (Pick.there (Pick.there Pick.here))))))))))) ?_ | refine Sel.cons (Pick.there (Pick.there (Pick.there (Pick.there (Pick.there (Pick.there (Pick.there (Pick.there (Pick.there (Pick.there (Pick.there (Pick.there Pick.here)))))))))))) ?_ | refine Sel.cons (Pick.there (Pick.there (Pick.there (Pick.there (Pick.there (Pick.there (Pick.there (Pick.there (Pick.there (Pick.there (Pick.there (Pick.there (Pick.there Pick.here))))))))))))) ?_ | refine Sel.cons (Pick.there (Pick.there (Pick.there (Pick.there (Pick.there (Pick.there (Pick.there (Pick.there (Pick.there (Pick.there (Pick.there (Pick.there (Pick.there (Pick.there Pick.here)))))))))))))) ?_ | refine Sel.cons (Pick.there (Pick.there (Pick.there (Pick.there (Pick.there (Pick.there (Pick.there (Pick.there (Pick.there (Pick.there (Pick.there (Pick.there (Pick.there (Pick.there (Pick.there Pick.here))))))))))))))) ?_ | refine Sel.consw Pick.here ⟨rfl, rfl, rfl⟩ ?_ | refine Sel.consw (Pick.there Pick.here) ⟨rfl, rfl, rfl⟩ ?_ | refine Sel.consw (Pick.there (Pick.there Pick.here)) ⟨rfl, rfl, rfl⟩ ?_ | refine Sel.consw (Pick.there (Pick.there (Pick.there Pick.here))) ⟨rfl, rfl, rfl⟩ ?_ | refine Sel.consw (Pick.there (Pick.there (Pick.there (Pick.there Pick.here)))) ⟨rfl, rfl, rfl⟩ ?_ | refine Sel.consw (Pick.there (Pick.there (Pick.there (Pick.there (Pick.there Pick.here))))) ⟨rfl, rfl, rfl⟩ ?_ | refine Sel.consw (Pick.there (Pick.there (Pick.there (Pick.there (Pick.there (Pick.there Pick.here)))))) ⟨rfl, rfl, rfl⟩ ?_ | refine Sel.consw (Pick.there (Pick.there (Pick.there (Pick.there (Pick.there (Pick.there (Pick.there Pick.here))))))) ⟨rfl, rfl, rfl⟩ ?_ | refine Sel.consw (Pick.there (Pick.there (Pick.there (Pick.there (Pick.there (Pick.there (Pick.there (Pick.there Pick.here)))))))) ⟨rfl, rfl, rfl⟩ ?_ | refine Sel.consw (Pick.there (Pick.there (Pick.there (Pick.there (Pick.there (Pick.there (Pick.there (Pick.there (Pick.there Pick.here))))))))) ⟨rfl, rfl, rfl⟩ ?_ | refine Sel.consw (Pick.there (Pick.there (Pick.there (Pick.there (Pick.there (Pick.there (Pick.there (Pick.there (Pick.there (Pick.there Pick.here)))))))))) ⟨rfl, rfl, rfl⟩ ?_ | refine Sel.consw (Pick.there (Pick.there (Pick.there (Pick.there (Pick.there (Pick.there (Pick.there (Pick.there (Pick.there (Pick.there (Pick.there Pick.here))))))))))) ⟨rfl, rfl, rfl⟩ ?_ | refine Sel.consw (Pick.there (Pick.there (Pick.there (Pick.there (Pick.there (Pick.there (Pick.there (Pick.there (Pick.there (Pick.there (Pick.there (Pick.there Pick.here)))))))))))) ⟨rfl, rfl, rfl⟩ ?_ | refine Sel.consw (Pick.there (Pick.there (Pick.there (Pick.there (Pick.there (Pick.there (Pick.there (Pick.there (Pick.there (Pick.there (Pick.there (Pick.there (Pick.there Pick.here))))))))))))) ⟨rfl, rfl, rfl⟩ ?_ | refine Sel.consw (Pick.there (Pick.there (Pick.there (Pick.there (Pick.there (Pick.there (Pick.there (Pick.there (Pick.there (Pick.there (Pick.there (Pick.there (Pick.there (Pick.there Pick.here)))))))))))))) ⟨rfl, rfl, rfl⟩ ?_ | refine Sel.consw (Pick.there (Pick.there (Pick.there (Pick.there (Pick.there (Pick.there (Pick.there (Pick.there (Pick.there (Pick.there (Pick.there (Pick.there (Pick.there (Pick.there (Pick.there Pick.here))))))))))))))) ⟨rfl, rfl, rfl⟩ ?_ | refine Sel.consw Pick.here ⟨rfl, rfl, rfl, rfl, by assumption⟩ ?_ | refine Sel.consw (Pick.there Pick.here) ⟨rfl, rfl, rfl, rfl, by assumption⟩ ?_ | refine Sel.consw (Pick.there (Pick.there Pick.here)) ⟨rfl, rfl, rfl, rfl, by assumption⟩ ?_ | refine Sel.consw (Pick.there (Pick.there (Pick.there Pick.here))) ⟨rfl, rfl, rfl, rfl, by assumption⟩ ?_ | refine Sel.consw (Pick.there (Pick.there (Pick.there (Pick.there Pick.here)))) ⟨rfl, rfl, rfl, rfl, by assumption⟩ ?_ | refine Sel.consw (Pick.there (Pick.there (Pick.there (Pick.there (Pick.there Pick.here))))) ⟨rfl, rfl, rfl, rfl, by assumption⟩ ?_ | refine Sel.consw (Pick.there (Pick.there (Pick.there (Pick.there (Pick.there (Pick.there Pick.here)))))) ⟨rfl, rfl, rfl, rfl, by assumption⟩ ?_ | refine Sel.consw (Pick.there (Pick.there (Pick.there (Pick.there (Pick.there (Pick.there (Pick.there Pick.here))))))) ⟨rfl, rfl, rfl, rfl, by assumption⟩ ?_ | refine Sel.consw (Pick.there (Pick.there (Pick.there (Pick.there (Pick.there (Pick.there (Pick.there (Pick.there Pick.here)))))))) ⟨rfl, rfl, rfl, rfl, by assumption⟩ ?_ | refine Sel.consw (Pick.there (Pick.there (Pick.there (Pick.there (Pick.there (Pick.there (Pick.there (Pick.there (Pick.there Pick.here))))))))) ⟨rfl, rfl, rfl, rfl, by assumption⟩ ?_ | refine Sel.consw (Pick.there (Pick.there (Pick.there (Pick.there (Pick.there (Pick.there (Pick.there (Pick.there (Pick.there (Pick.there Pick.here)))))))))) ⟨rfl, rfl, rfl, rfl, by assumption⟩ ?_ | refine Sel.consw (Pick.there (Pick.there (Pick.there (Pick.there (Pick.there (Pick.there (Pick.there (Pick.there (Pick.there (Pick.there (Pick.there Pick.here))))))))))) ⟨rfl, rfl, rfl, rfl, by assumption⟩ ?_ | refine Sel.consw (Pick.there (Pick.there (Pick.there (Pick.there (Pick.there (Pick.there (Pick.there (Pick.there (Pick.there (Pick.there (Pick.there (Pick.there Pick.here)))))))))))) ⟨rfl, rfl, rfl, rfl, by assumption⟩ ?_ | refine Sel.consw (Pick.there (Pick.there (Pick.there (Pick.there (Pick.there (Pick.there (Pick.there (Pick.there (Pick.there (Pick.there (Pick.there (Pick.there (Pick.there Pick.here))))))))))))) ⟨rfl, rfl, rfl, rfl, by assumption⟩ ?_ | refine Sel.consw (Pick.there (Pick.there (Pick.there (Pick.there (Pick.there (Pick.there (Pick.there (Pick.there (Pick.there (Pick.there (Pick.there (Pick.there (Pick.there (Pick.there Pick.here)))))))))))))) ⟨rfl, rfl, rfl, rfl, by assumption⟩ ?_ | refine Sel.consw (Pick.there (Pick.there (Pick.there (Pick.there (Pick.there (Pick.there (Pick.there (Pick.there (Pick.there (Pick.there (Pick.there (Pick.there (Pick.there (Pick.there (Pick.there Pick.here))))))))))))))) ⟨rfl, rfl, rfl, rfl, by assumption⟩ ?_ | refine Sel.consw Pick.here ⟨rfl, rfl, rfl, .inl rfl, fun _ _ => rfl⟩ ?_ | refine Sel.consw (Pick.there Pick.here) ⟨rfl, rfl, rfl, .inl rfl, fun _ _ => rfl⟩ ?_ | refine Sel.consw (Pick.there (Pick.there Pick.here)) ⟨rfl, rfl, rfl, .inl rfl, fun _ _ => rfl⟩ ?_ | refine Sel.consw (Pick.there (Pick.there (Pick.there Pick.here))) ⟨rfl, rfl, rfl, .inl rfl, fun _ _ => rfl⟩ ?_ | refine Sel.consw (Pick.there (Pick.there (Pick.there (Pick.there Pick.here)))) ⟨rfl, rfl, rfl, .inl rfl, fun _ _ => rfl⟩ ?_ | refine Sel.consw (Pick.there (Pick.there (Pick.there (Pick.there (Pick.there Pick.here))))) ⟨rfl, rfl, rfl, .inl rfl, fun _ _ => rfl⟩ ?_ | refine Sel.consw (Pick.there (Pick.there (Pick.there (Pick.there (Pick.there (Pick.there Pick.here)))))) ⟨rfl, rfl, rfl, .inl rfl, fun _ _ => rfl⟩ ?_ | refine Sel.consw (Pick.there (Pick.there (Pick.there (Pick.there (Pick.there (Pick.there (Pick.there Pick.here))))))) ⟨rfl, rfl, rfl, .inl rfl, fun _ _ => rfl⟩ ?_ | refine Sel.consw (Pick.there (Pick.there (Pick.there (Pick.there (Pick.there (Pick.there (Pick.there (Pick.there Pick.here)))))))) ⟨rfl, rfl, rfl, .inl rfl, fun _ _ => rfl⟩ ?_ | refine Sel.consw (Pick.there (Pick.there (Pick.there (Pick.there (Pick.there (Pick.there (Pick.there (Pick.there (Pick.there Pick.here))))))))) ⟨rfl, rfl, rfl, .inl rfl, fun _ _ => rfl⟩ ?_ | refine Sel.consw (Pick.there (Pick.there (Pick.there (Pick.there (Pick.there (Pick.there (Pick.there (Pick.there (Pick.there (Pick.there Pick.here)))))))))) ⟨rfl, rfl, rfl, .inl rfl, fun _ _ => rfl⟩ ?_ | refine Sel.consw (Pick.there (Pick.there (Pick.there (Pick.there (Pick.there (Pick.there (Pick.there (Pick.there (Pick.there (Pick.there (Pick.there Pick.here))))))))))) ⟨rfl, rfl, rfl, .inl rfl, fun _ _ => rfl⟩ ?_ | refine Sel.consw (Pick.there (Pick.there (Pick.there (Pick.there (Pick.there (Pick.there (Pick.there (Pick.there (Pick.there (Pick.there (Pick.there (Pick.there Pick.here)))))))))))) ⟨rfl, rfl, rfl, .inl rfl, fun _ _ => rfl⟩ ?_ | refine Sel.consw (Pick.there (Pick.there (Pick.there (Pick.there (Pick.there (Pick.there (Pick.there (Pick.there (Pick.there (Pick.there (Pick.there (Pick.there (Pick.there Pick.here))))))))))))) ⟨rfl, rfl, rfl, .inl rfl, fun _ _ => rfl⟩ ?_ | refine Sel.consw (Pick.there (Pick.there (Pick.there (Pick.there (Pick.there (Pick.there (Pick.there (Pick.there (Pick.there (Pick.there (Pick.there (Pick.there (Pick.there (Pick.there Pick.here)))))))))))))) ⟨rfl, rfl, rfl, .inl rfl, fun _ _ => rfl⟩ ?_ | refine Sel.consw (Pick.there (Pick.there (Pick.there (Pick.there (Pick.there (Pick.there (Pick.there (Pick.there (Pick.there (Pick.there (Pick.there (Pick.there (Pick.there (Pick.there (Pick.there Pick.here))))))))))))))) ⟨rfl, rfl, rfl, .inl rfl, fun _ _ => rfl⟩ ?_ | refine Sel.consw Pick.here ⟨rfl, rfl, rfl, .inr rfl, fun _ _ => rfl⟩ ?_ | refine Sel.consw (Pick.there Pick.here) ⟨rfl, rfl, rfl, .inr rfl, fun _ _ => rfl⟩ ?_ | refine Sel.consw (Pick.there (Pick.there Pick.here)) ⟨rfl, rfl, rfl, .inr rfl, fun _ _ => rfl⟩ ?_ | refine Sel.consw (Pick.there (Pick.there (Pick.there Pick.here))) ⟨rfl, rfl, rfl, .inr rfl, fun _ _ => rfl⟩ ?_ | refine Sel.consw (Pick.there (Pick.there (Pick.there (Pick.there Pick.here)))) ⟨rfl, rfl, rfl, .inr rfl, fun _ _ => rfl⟩ ?_ | refine Sel.consw (Pick.there (Pick.there (Pick.there (Pick.there (Pick.there Pick.here))))) ⟨rfl, rfl, rfl, .inr rfl, fun _ _ => rfl⟩ ?_ | refine Sel.consw (Pick.there (Pick.there (Pick.there (Pick.there (Pick.there (Pick.there Pick.here)))))) ⟨rfl, rfl, rfl, .inr rfl, fun _ _ => rfl⟩ ?_ | refine Sel.consw (Pick.there (Pick.there (Pick.there (Pick.there (Pick.there (Pick.there (Pick.there Pick.here))))))) ⟨rfl, rfl, rfl, .inr rfl, fun _ _ => rfl⟩ ?_ | refine Sel.consw (Pick.there (Pick.there (Pick.there (Pick.there (Pick.there (Pick.there (Pick.there (Pick.there Pick.here)))))))) ⟨rfl, rfl, rfl, .inr rfl, fun _ _ => rfl⟩ ?_ | refine Sel.consw (Pick.there (Pick.there (Pick.there (Pick.there (Pick.there (Pick.there (Pick.there (Pick.there (Pick.there Pick.here))))))))) ⟨rfl, rfl, rfl, .inr rfl, fun _ _ => rfl⟩ ?_ | refine Sel.consw (Pick.there (Pick.there (Pick.there (Pick.there (Pick.there (Pick.there (Pick.there (Pick.there (Pick.there (Pick.there Pick.here)))))))))) ⟨rfl, rfl, rfl, .inr rfl, fun _ _ => rfl⟩ ?_ | refine Sel.consw (Pick.there (Pick.there (Pick.there (Pick.there (Pick.there (Pick.there (Pick.there (Pick.there (Pick.there (Pick.there (Pick.there Pick.here))))))))))) ⟨rfl, rfl, rfl, .inr rfl, fun _ _ => rfl⟩ ?_ | refine Sel.consw (Pick.there (Pick.there (Pick.there (Pick.there (Pick.there (Pick.there (Pick.there (Pick.there (Pick.there (Pick.there (Pick.there (Pick.there Pick.here)))))))))))) ⟨rfl, rfl, rfl, .inr rfl, fun _ _ => rfl⟩ ?_ | refine Sel.consw (Pick.there (Pick.there (Pick.there (Pick.there (Pick.there (Pick.there (Pick.there (Pick.there (Pick.there (Pick.there (Pick.there (Pick.there (Pick.there Pick.here))))))))))))) ⟨rfl, rfl, rfl, .inr rfl, fun _ _ => rfl⟩ ?_ | refine Sel.consw (Pick.there (Pick.there (Pick.there (Pick.there (Pick.there (Pick.there (Pick.there (Pick.there (Pick.there (Pick.there (Pick.there (Pick.there (Pick.there (Pick.there Pick.here)))))))))))))) ⟨rfl, rfl, rfl, .inr rfl, fun _ _ => rfl⟩ ?_ | refine Sel.consw (Pick.there (Pick.there (Pick.there (Pick.there (Pick.there (Pick.there (Pick.there (Pick.there (Pick.there (Pick.there (Pick.there (Pick.there (Pick.there (Pick.there (Pick.there Pick.here))))))))))))))) ⟨rfl, rfl, rfl, .inr rfl, fun _ _ => rfl⟩ ?_ | refine Sel.consw Pick.here ⟨rfl, .inl ⟨rfl, by assumption⟩⟩ ?_ | refine Sel.consw (Pick.there Pick.here) ⟨rfl, .inl ⟨rfl, by assumption⟩⟩ ?_ | refine Sel.consw (Pick.there (Pick.there Pick.here)) ⟨rfl, .inl ⟨rfl, by assumption⟩⟩ ?_ | refine Sel.consw (Pick.there (Pick.there (Pick.there Pick.here))) ⟨rfl, .inl ⟨rfl, by assumption⟩⟩ ?_ | refine Sel.consw (Pick.there (Pick.there (Pick.there (Pick.there Pick.here)))) ⟨rfl, .inl ⟨rfl, by assumption⟩⟩ ?_ | refine Sel.consw (Pick.there (Pick.there (Pick.there (Pick.there (Pick.there Pick.here))))) ⟨rfl, .inl ⟨rfl, by assumption⟩⟩ ?_ | refine Sel.consw (Pick.there (Pick.there (Pick.there (Pick.there (Pick.there (Pick.there Pick.here)))))) ⟨rfl, .inl ⟨rfl, by assumption⟩⟩ ?_ | refine Sel.consw (Pick.there (Pick.there (Pick.there (Pick.there (Pick.there (Pick.there (Pick.there Pick.here))))))) ⟨rfl, .inl ⟨rfl, by assumption⟩⟩ ?_ | refine Sel.consw Pick.here ⟨rfl, .inr ⟨fun _ => rfl, fun _ => rfl⟩⟩ ?_ | refine Sel.consw (Pick.there Pick.here) ⟨rfl, .inr ⟨fun _ => rfl, fun _ => rfl⟩⟩ ?_ | refine Sel.consw (Pick.there (Pick.there Pick.here)) ⟨rfl, .inr ⟨fun _ => rfl, fun _ => rfl⟩⟩ ?_ | refine Sel.consw (Pick.there (Pick.there (Pick.there Pick.here))) ⟨rfl, .inr ⟨fun _ => rfl, fun _ => rfl⟩⟩ ?_ | refine Sel.consw (Pick.there (Pick.there (Pick.there (Pick.there Pick.here)))) ⟨rfl, .inr ⟨fun _ => rfl, fun _ => rfl⟩⟩ ?_ | refine Sel.consw (Pick.there (Pick.there (Pick.there (Pick.there (Pick.there Pick.here))))) ⟨rfl, .inr ⟨fun _ => rfl, fun _ => rfl⟩⟩ ?_ | refine Sel.consw (Pick.there (Pick.there (Pick.there (Pick.there (Pick.there (Pick.there Pick.here)))))) ⟨rfl, .inr ⟨fun _ => rfl, fun _ => rfl⟩⟩ ?_ | refine Sel.consw (Pick.there (Pick.there (Pick.there (Pick.there (Pick.there (Pick.there (Pick.there Pick.here))))))) ⟨rfl, .inr ⟨fun _ => rfl, fun _ => rfl⟩⟩ ?_ | refine Sel.consw Pick.here ⟨rfl, rfl, rfl, fun _ _ => rfl, rfl⟩ ?_ | refine Sel.consw (Pick.there Pick.here) ⟨rfl, rfl, rfl, fun _ _ => rfl, rfl⟩ ?_ | refine Sel.consw (Pick.there (Pick.there Pick.here)) ⟨rfl, rfl, rfl, fun _ _ => rfl, rfl⟩ ?_ | refine Sel.consw (Pick.there (Pick.there (Pick.there Pick.here))) ⟨rfl, rfl, rfl, fun _ _ => rfl, rfl⟩ ?_ | refine Sel.consw (Pick.there (Pick.there (Pick.there (Pick.there Pick.here)))) ⟨rfl, rfl, rfl, fun _ _ => rfl, rfl⟩ ?_ | refine Sel.consw (Pick.there (Pick.there (Pick.there (Pick.there (Pick.there Pick.here))))) ⟨rfl, rfl, rfl, fun _ _ => rfl, rfl⟩ ?_ | refine Sel.consw (Pick.there (Pick.there (Pick.there (Pick.there (Pick.there (Pick.there Pick.here)))))) ⟨rfl, rfl, rfl, fun _ _ => rfl, rfl⟩ ?_ | refine Sel.consw (Pick.there (Pick.there (Pick.there (Pick.there (Pick.there (Pick.there (Pick.there Pick.here))))))) ⟨rfl, rfl, rfl, fun _ _ => rfl, rfl⟩ ?_ | refine Sel.consw (Pick.there (Pick.there (Pick.there (Pick.there (Pick.there (Pick.there (Pick.there (Pick.there Pick.here)))))))) ⟨rfl, rfl, rfl, fun _ _ => rfl, rfl⟩ ?_ | refine Sel.consw (Pick.there (Pick.there (Pick.there (Pick.there (Pick.there (Pick.there (Pick.there (Pick.there (Pick.there Pick.here))))))))) ⟨rfl, rfl, rfl, fun _ _ => rfl, rfl⟩ ?_ | refine Sel.consw Pick.here ⟨rfl, .inl rfl, rfl, fun _ _ => rfl, rfl⟩ ?_ | refine Sel.consw (Pick.there Pick.here) ⟨rfl, .inl rfl, rfl, fun _ _ => rfl, rfl⟩ ?_ | refine Sel.consw (Pick.there (Pick.there Pick.here)) ⟨rfl, .inl rfl, rfl, fun _ _ => rfl, rfl⟩ ?_ | refine Sel.consw (Pick.there (Pick.there (Pick.there Pick.here))) ⟨rfl, .inl rfl, rfl, fun _ _ => rfl, rfl⟩ ?_ | refine Sel.consw (Pick.there (Pick.there (Pick.there (Pick.there Pick.here)))) ⟨rfl, .inl rfl, rfl, fun _ _ => rfl, rfl⟩ ?_ | refine Sel.consw (Pick.there (Pick.there (Pick.there (Pick.there (Pick.there Pick.here))))) ⟨rfl, .inl rfl, rfl, fun _ _ => rfl, rfl⟩ ?_ | refine Sel.consw (Pick.there (Pick.there (Pick.there (Pick.there (Pick.there (Pick.there Pick.here)))))) ⟨rfl, .inl rfl, rfl, fun _ _ => rfl, rfl⟩ ?_ | refine Sel.consw (Pick.there (Pick.there (Pick.there (Pick.there (Pick.there (Pick.there (Pick.there Pick.here))))))) ⟨rfl, .inl rfl, rfl, fun _ _ => rfl, rfl⟩ ?_ | refine Sel.consw (Pick.there (Pick.there (Pick.there (Pick.there (Pick.there (Pick.there (Pick.there (Pick.there Pick.here)))))))) ⟨rfl, .inl rfl, rfl, fun _ _ => rfl, rfl⟩ ?_ | refine Sel.consw (Pick.there (Pick.there (Pick.there (Pick.there (Pick.there (Pick.there (Pick.there (Pick.there (Pick.there Pick.here))))))))) ⟨rfl, .inl rfl, rfl, fun _ _ => rfl, rfl⟩ ?_ | refine Sel.consw Pick.here ⟨rfl, .inl rfl, rfl, fun _ _ => rfl, by assumption⟩ ?_ | refine Sel.consw (Pick.there Pick.here) ⟨rfl, .inl rfl, rfl, fun _ _ => rfl, by assumption⟩ ?_ | refine Sel.consw (Pick.there (Pick.there Pick.here)) ⟨rfl, .inl rfl, rfl, fun _ _ => rfl, by assumption⟩ ?_ | refine Sel.consw (Pick.there (Pick.there (Pick.there Pick.here))) ⟨rfl, .inl rfl, rfl, fun _ _ => rfl, by assumption⟩ ?_ | refine Sel.consw (Pick.there (Pick.there (Pick.there (Pick.there Pick.here)))) ⟨rfl, .inl rfl, rfl, fun _ _ => rfl, by assumption⟩ ?_ | refine Sel.consw (Pick.there (Pick.there (Pick.there (Pick.there (Pick.there Pick.here))))) ⟨rfl, .inl rfl, rfl, fun _ _ => rfl, by assumption⟩ ?_ | refine Sel.consw (Pick.there (Pick.there (Pick.there (Pick.there (Pick.there (Pick.there Pick.here)))))) ⟨rfl, .inl rfl, rfl, fun _ _ => rfl, by assumption⟩ ?_ | refine Sel.consw (Pick.there (Pick.there (Pick.there (Pick.there (Pick.there (Pick.there (Pick.there Pick.here))))))) ⟨rfl, .inl rfl, rfl, fun _ _ => rfl, by assumption⟩ ?_ | refine Sel.consw (Pick.there (Pick.there (Pick.there (Pick.there (Pick.there (Pick.there (Pick.there (Pick.there Pick.here)))))))) ⟨rfl, .inl rfl, rfl, fun _ _ => rfl, by assumption⟩ ?_ | refine Sel.consw (Pick.there (Pick.there (Pick.there (Pick.there (Pick.there (Pick.there (Pick.there (Pick.there (Pick.there Pick.here))))))))) ⟨rfl, .inl rfl, rfl, fun _ _ => rfl, by assumption⟩ ?_ | refine Sel.snoc Pick.here ?_ | refine Sel.snoc (Pick.there Pick.here) ?_ | refine Sel.snoc (Pick.there (Pick.there Pick.here)) ?_ | refine Sel.snoc (Pick.there (Pick.there (Pick.there Pick.here))) ?_ | refine Sel.snoc (Pick.there (Pick.there (Pick.there (Pick.there Pick.here)))) ?_ | refine Sel.snoc (Pick.there (Pick.there (Pick.there (Pick.there (Pick.there Pick.here))))) ?_ | refine Sel.snoc (Pick.there (Pick.there (Pick.there (Pick.there (Pick.there (Pick.there Pick.here)))))) ?_ | refine Sel.snoc (Pick.there (Pick.there (Pick.there (Pick.there (Pick.there (Pick.there (Pick.there Pick.here))))))) ?_ | refine Sel.snoc (Pick.there (Pick.there (Pick.there (Pick.there (Pick.there (Pick.there (Pick.there (Pick.there Pick.here)))))))) ?_ | refine Sel.snoc (Pick.there (Pick.there (Pick.there (Pick.there (Pick.there (Pick.there (Pick.there (Pick.there (Pick.there Pick.here))))))))) ?_ | refine Sel.snoc (Pick.there (Pick.there (Pick.there (Pick.there (Pick.there (Pick.there (Pick.there (Pick.there (Pick.there (Pick.there Pick.here)))))))))) ?_ | refine Sel.snoc (Pick.there (Pick.there (Pick.there (Pick.there (Pick.there (Pick.there (Pick.there (Pick.there (Pick.there (Pick.there (Pick.there Pick.here))))))))))) ?_ | refine Sel.snoc (Pick.there (Pick.there (Pick.there (Pick.there (Pick.there (Pick.there (Pick.there (Pick.there (Pick.there (Pick.there (Pick.there (Pick.there Pick.here)))))))))))) ?_ | refine Sel.snoc (Pick.there (Pick.there (Pick.there (Pick.there (Pick.there (Pick.there (Pick.there (Pick.there (Pick.there (Pick.there (Pick.there (Pick.there (Pick.there Pick.here))))))))))))) ?_ | refine Sel.snoc (Pick.there (Pick.there (Pick.there (Pick.there (Pick.there (Pick.there (Pick.there (Pick.there (Pick.there (Pick.there (Pick.there (Pick.there (Pick.there (Pick.there Pick.here)))))))))))))) ?_ | refine Sel.snoc (Pick.there (Pick.there (Pick.there (Pick.there (Pick.there (Pick.there (Pick.there (Pick.there (Pick.there (Pick.there (Pick.there (Pick.there (Pick.there (Pick.there (Pick.there Pick.here))))))))))))))) ?_ | refine Sel.drop ?_)) : WkM m m' := h
theorem same_case (m : Int) (x : Bool) : sameB (.agg ⟨[.int .i64 m, .bool x]⟩) (.agg ⟨[.int .i64 m, .bool x]⟩) = true := by
  show (same1 (.int .i64 m) (.int .i64 m) && (same1 (.bool x) (.bool x) && true)) = true
  have h1 : same1 (.int .i64 m) (.int .i64 m) = true := by unfold same1; simp [iEq_self, Nat.beq_refl]
  have h2 : same1 (.bool x) (.bool x) = true := by unfold same1; simp
  rw [h1, h2]; rfl
theorem keyC (d : TypeDesc) (h : Try.prog.underlying 50 = some d) : KeyH Try.prog 50 d (fun a => den (cv a)) := by
  rw [Try.underlying50] at h
  cases h
  refine ⟨fun a => (by kernel_rfl), fun a b => ?_⟩
  unfold kEqT
  show (match eqV Try.prog 40 50 (den (cv a)) (den (cv b)) with
    | some b1 => bif b1 then (bif sameB (den (cv b)) (den (cv a)) then some true else none) else some false
    | none => none) = _
  rw [eqC]
  by_cases hab : a = b
  · subst hab
    rw [decide_eq_true rfl]
    show (bif sameB (den (cv a)) (den (cv a)) then some true else none) = _
    rw [show sameB (den (cv a)) (den (cv a)) = true from same_case _ _]; rfl
  · rw [decide_eq_false hab]; rfl
/-- marks in memory -/
def dl : List Nat → Mem
  | [] => []
  | b :: l => [(dfN, .dfr (b :: l))]
/-- what a map of cases has -/
def gm (g : Nat → Option Nat) (y : Nat) : Option SV := (g y).map cv
theorem gm_none {g : Nat → Option Nat} {y : Nat} (h : g y = none) : gm g y = none := by unfold gm; rw [h]; rfl
theorem gm_some {g : Nat → Option Nat} {y x : Nat} (h : g y = some x) : gm g y = some (cv x) := by unfold gm; rw [h]; rfl
theorem gm_upd (g : Nat → Option Nat) (y x : Nat) : ∀ z, updM (gm g) y (cv x) z = gm (updN g y (some x)) z := fun z => by
  unfold updM gm updN
  by_cases h : z = y
  · rw [h, Nat.beq_refl, if_pos rfl]; rfl
  · rw [if_neg h]
    cases hb : Nat.beq z y with
    | true => exact absurd (Nat.eq_of_beq_eq_true hb) h
    | false => rfl
theorem growQ (q : List Nat) (y : Nat) : ∀ j, j < q.length + 1 → grow q.length 2 (fun z => cl (q.getD z 0)) (cl y) j = cl ((q ++ [y]).getD j 0) := fun j hj => by
  have h := growE (n := q.length) (sz := 2) (f := fun z => cl ((q ++ [y]).getD z 0)) (l := cl y) rfl (by show cl ((q ++ [y]).getD q.length 0) = _; rw [getD_last]) j hj
  rw [← h]
  unfold grow
  by_cases hjq : j < q.length
  · rw [blt_of hjq, cond_true, cond_true]
    show cl (q.getD j 0) = cl ((q ++ [y]).getD j 0)
    rw [getD_app hjq]
  · have hb : Nat.blt j q.length = false := by
      cases hh : Nat.blt j q.length with
      | false => rfl
      | true => have := blt_true hh; omega
    rw [hb, cond_false, cond_false]
theorem c90 (F d : Nat) (T : Nat) (hF : 2 * T + 300 < F) (hT : T ≤ 24) (a : Option Addr) (n e c : Nat) (hn : n ≤ 80) (ru : Nat → Nat × Nat) (hr : ∀ j, j < n → (ru j).1 < 2 * T ∧ (ru j).2 < 2 * T) (a2 : Option Addr) (n2 e2 c2 : Nat) (fr : Nat → Nat) (hn2 : n2 ≤ 100) (hfr : ∀ j, j < n2 → fr j < 2 * T) (bs bm : Nat) (G : SV) (f : Nat → Option SV) (B : Nat) (hB : 200 * n + 400 ≤ B) (rest : Mem) (R : Nat) :
    callS (CL F (d + 5)) (.fn 90 [] []) [.ptr 900 bs 0, .sl 1001 a2 n2 c2] ([(900, .own bs 100 [.int .i64 (Int.ofNat T), .sl 1000 a n c, G, .mpv 901 bm]), (901, .mp bm cv f), (1000, roR a n e ru), (1001, roC a2 n2 e2 fr)] ++ rest) (addL R (B * (2 * T + 1) + 50 * n2 + 100)) 500 fun w m' R' _ => R ≤ R' ∧ ∃ g D, RS ru n T fr n2 g D ∧ WkM m' ([(900, .own bs 100 [.int .i64 (Int.ofNat T), .sl 1000 a n c, G, .mpv 901 bm]), (901, .mp bm cv (gm g)), (1000, roR a n e ru), (1001, roC a2 n2 e2 fr)] ++ rest) := by
  rw [addL_eq, show R + (B * (2 * T + 1) + 50 * n2 + 100) = B * (2 * T + 1) + 50 * n2 + R + 100 by omega, ← addL_eq _ 100]
  refine call_in (n := 48) Try.func90 rfl rfl rfl rfl rfl rfl rfl ?_
  repeat' ((conv => whnf); first
           | refine eqS_rfl ?_
           | refine eqA_rfl ?_
           | refine eqA_of (by assumption) ?_
           | refine eqS_of (by rfl) ?_
           | refine eqL_rfl ?_
           | refine eqJ_rfl ?_
           | refine flE_intro (fun _ _ => rfl) ?_
           | refine seS_rfl ?_
           | refine lsS_of hup ?_
           | refine lsS_rfl ?_
           | refine brS_tt ?_
           | refine brS_ff ?_
           | refine brS_not ?_
           | refine brS_t (iEq_self _) ?_
           | refine brS_t (by assumption) ?_
           | refine brS_f (by assumption) ?_
           | refine brS_intro (fun _ => ?_) (fun _ => ?_)
           | refine ltS_intro (by first | assumption | decide | exact Nat.le_of_ble_eq_true rfl | omega) ?_
           | refine ixS_of rfl (by first | assumption | decide | omega) ?_
           | refine okS_intro (by first | assumption | kernel_rfl) ?_
           | refine nzS_intro (by first | decide | assumption) ?_
           | refine kyS_of _ (keyC _ rfl) rfl ?_
           | refine hasS_none (gm_none (by assumption)) ?_
           | refine hasS_some (gm_some (by assumption)) ?_
           | intro _)
  rename_i b0 b4 b5
  conv => whnf
  refine loS_i (fun jj f mm R' ni => ∃ (j : Nat) (g : Nat → Option Nat) (q : List Nat) (p : Option Addr), j ≤ n2 ∧ jj = n2 - j + 1 ∧ BS T fr j g q ∧ f = [(2, .ptr 500 b0 0), (4, .ptr 501 b4 0), (5, .ptr 502 b5 0), (16, .sl 1001 a2 n2 c2), (17, .int .i64 (Int.ofNat n2)), (18, .int .i64 (Int.ofNat j))] ∧ mm = [(502, .own b5 152 [.fn 101 [] [.ptr 500 b0 0, .ptr 501 b4 0]]), (501, .own b4 25 [.sl 600 p q.length q.length]), (600, .gr p q.length 50 2 (fun z => cl (q.getD z 0))), (500, .own b0 94 [.ptr 900 bs 0]), (900, .own bs 100 [.int .i64 (Int.ofNat T), .sl 1000 a n c, G, .mpv 901 bm]), (901, .mp bm cv (gm g)), (1000, roR a n e ru), (1001, roC a2 n2 e2 fr)] ++ rest ∧ R' = addL (50 * (n2 - j) + (B * (2 * T + 1) + R)) 60 ∧ ni = 700) (n2 + 1) (by omega)
    ⟨[(2, .ptr 500 b0 0), (4, .ptr 501 b4 0), (5, .ptr 502 b5 0), (16, .sl 1001 a2 n2 c2), (17, .int .i64 (Int.ofNat n2)), (18, .int .i64 (Int.ofNat 0))], [(502, .own b5 152 [.fn 101 [] [.ptr 500 b0 0, .ptr 501 b4 0]]), (501, .own b4 25 [.sl 600 none ([] : List Nat).length ([] : List Nat).length]), (600, .gr none ([] : List Nat).length 50 2 (fun z => cl (([] : List Nat).getD z 0))), (500, .own b0 94 [.ptr 900 bs 0]), (900, .own bs 100 [.int .i64 (Int.ofNat T), .sl 1000 a n c, G, .mpv 901 bm]), (901, .mp bm cv (gm (fun _ => none))), (1000, roR a n e ru), (1001, roC a2 n2 e2 fr)] ++ rest, addL (50 * (n2 - 0) + (B * (2 * T + 1) + R)) 60, 700, ⟨eqF_rfl _, eqF_rfl _, eqF_rfl _, eqF_rfl _, eqF_rfl _, eqF_rfl _, trivial⟩, by exact (WkM.gr0 (i := 600) (e := 50) (sz := 2) (f := fun z => cl (([] : List Nat).getD z 0)) (WkM.refl _)).trans WV, by (first | (simp only [addL_eq, addL_rec]; omega) | omega | exact Nat.le_refl _), 0, fun _ => none, [], none, by omega, by omega, BS.zero, rfl, rfl, rfl, rfl⟩ ?_
  rintro _ _ _ _ _ ⟨j, g, q, p, hj, rfl, hS, rfl, rfl, rfl, rfl⟩
  by_cases hlt : j < n2
  · have h1 := iLt_t hlt
    have hql := hS.len
    by_cases hg : g (fr j) = none
    · have hgq := growQ q (fr j)
      have hmu := gm_upd g (fr j) (fr j)
      repeat' ((conv => whnf); first
               | refine eqS_rfl ?_
               | refine eqA_rfl ?_
               | refine eqA_of (by assumption) ?_
               | refine eqS_of (by rfl) ?_
               | refine eqL_rfl ?_
               | refine eqJ_rfl ?_
               | refine flE_intro (fun _ _ => rfl) ?_
               | refine seS_rfl ?_
               | refine lsS_of hup ?_
               | refine lsS_rfl ?_
               | refine brS_tt ?_
               | refine brS_ff ?_
               | refine brS_not ?_
               | refine brS_t (iEq_self _) ?_
               | refine brS_t (by assumption) ?_
               | refine brS_f (by assumption) ?_
               | refine brS_intro (fun _ => ?_) (fun _ => ?_)
               | refine ltS_intro (by first | assumption | decide | exact Nat.le_of_ble_eq_true rfl | omega) ?_
               | refine ixS_of rfl (by first | assumption | decide | omega) ?_
               | refine okS_intro (by first | assumption | kernel_rfl) ?_
               | refine nzS_intro (by first | decide | assumption) ?_
               | refine ltS_intro (by have := lt_of_iLt ‹iLt (Int.ofNat _) (Int.ofNat _) = true›; omega) ?_
               | refine ixS_of rfl (by have := lt_of_iLt ‹iLt (Int.ofNat _) (Int.ofNat _) = true›; omega) ?_
               | refine kyS_of _ (keyC _ rfl) rfl ?_
               | refine hasS_none (gm_none (by assumption)) ?_
               | refine hasS_some (gm_some (by assumption)) ?_
               | refine call_in (n := 20) Try.func101 rfl rfl rfl rfl rfl rfl rfl ?_
               | refine call_in (n := 17) Try.func91 rfl rfl rfl rfl rfl rfl rfl ?_
               | refine ltS_intro (show q.length * 2 + 2 < 32769 by omega) ?_
               | intro _)
      rename_i a9
      conv => whnf
      exact ⟨n2 - (j + 1) + 1, [(2, .ptr 500 b0 0), (4, .ptr 501 b4 0), (5, .ptr 502 b5 0), (16, .sl 1001 a2 n2 c2), (17, .int .i64 (Int.ofNat n2)), (18, .int .i64 (Int.ofNat (j + 1)))], [(502, .own b5 152 [.fn 101 [] [.ptr 500 b0 0, .ptr 501 b4 0]]), (501, .own b4 25 [.sl 600 a9 (q ++ [fr j]).length (q ++ [fr j]).length]), (600, .gr a9 (q ++ [fr j]).length 50 2 (fun z => cl ((q ++ [fr j]).getD z 0))), (500, .own b0 94 [.ptr 900 bs 0]), (900, .own bs 100 [.int .i64 (Int.ofNat T), .sl 1000 a n c, G, .mpv 901 bm]), (901, .mp bm cv (gm (updN g (fr j) (some (fr j))))), (1000, roR a n e ru), (1001, roC a2 n2 e2 fr)] ++ rest, addL (50 * (n2 - (j + 1)) + (B * (2 * T + 1) + R)) 60, 700, by omega, ⟨eqF_rfl _, eqF_rfl _, eqF_rfl _, eqF_rfl _, eqF_rfl _, ⟨congrArg (Value.int .i64) (smn (i := j + 1) (by omega)), rfl⟩, trivial⟩, by rw [List.length_append, List.length_singleton]; exact WV, by (first | (simp only [addL_eq, addL_rec]; omega) | omega | exact Nat.le_refl _), j + 1, _, _, _, by omega, rfl, hS.new (hfr j hlt) hg, rfl, rfl, rfl, rfl⟩
    · obtain ⟨x0, hx0⟩ : ∃ x, g (fr j) = some x := by cases hh : g (fr j) with
        | none => exact absurd hh hg
        | some x => exact ⟨x, rfl⟩
      repeat' ((conv => whnf); first
               | refine eqS_rfl ?_
               | refine eqA_rfl ?_
               | refine eqA_of (by assumption) ?_
               | refine eqS_of (by rfl) ?_
               | refine eqL_rfl ?_
               | refine eqJ_rfl ?_
               | refine flE_intro (fun _ _ => rfl) ?_
               | refine seS_rfl ?_
               | refine lsS_of hup ?_
               | refine lsS_rfl ?_
               | refine brS_tt ?_
               | refine brS_ff ?_
               | refine brS_not ?_
               | refine brS_t (iEq_self _) ?_
               | refine brS_t (by assumption) ?_
               | refine brS_f (by assumption) ?_
               | refine brS_intro (fun _ => ?_) (fun _ => ?_)
               | refine ltS_intro (by first | assumption | decide | exact Nat.le_of_ble_eq_true rfl | omega) ?_
               | refine ixS_of rfl (by first | assumption | decide | omega) ?_
               | refine okS_intro (by first | assumption | kernel_rfl) ?_
               | refine nzS_intro (by first | decide | assumption) ?_
               | refine ltS_intro (by have := lt_of_iLt ‹iLt (Int.ofNat _) (Int.ofNat _) = true›; omega) ?_
               | refine ixS_of rfl (by have := lt_of_iLt ‹iLt (Int.ofNat _) (Int.ofNat _) = true›; omega) ?_
               | refine kyS_of _ (keyC _ rfl) rfl ?_
               | refine hasS_none (gm_none (by assumption)) ?_
               | refine hasS_some (gm_some (by assumption)) ?_
               | refine call_in (n := 20) Try.func101 rfl rfl rfl rfl rfl rfl rfl ?_
               | refine call_in (n := 17) Try.func91 rfl rfl rfl rfl rfl rfl rfl ?_
               | intro _)
      conv => whnf
      exact ⟨n2 - (j + 1) + 1, [(2, .ptr 500 b0 0), (4, .ptr 501 b4 0), (5, .ptr 502 b5 0), (16, .sl 1001 a2 n2 c2), (17, .int .i64 (Int.ofNat n2)), (18, .int .i64 (Int.ofNat (j + 1)))], [(502, .own b5 152 [.fn 101 [] [.ptr 500 b0 0, .ptr 501 b4 0]]), (501, .own b4 25 [.sl 600 p q.length q.length]), (600, .gr p q.length 50 2 (fun z => cl (q.getD z 0))), (500, .own b0 94 [.ptr 900 bs 0]), (900, .own bs 100 [.int .i64 (Int.ofNat T), .sl 1000 a n c, G, .mpv 901 bm]), (901, .mp bm cv (gm g)), (1000, roR a n e ru), (1001, roC a2 n2 e2 fr)] ++ rest, addL (50 * (n2 - (j + 1)) + (B * (2 * T + 1) + R)) 60, 700, by omega, ⟨eqF_rfl _, eqF_rfl _, eqF_rfl _, eqF_rfl _, eqF_rfl _, ⟨congrArg (Value.int .i64) (smn (i := j + 1) (by omega)), rfl⟩, trivial⟩, WV, by (first | (simp only [addL_eq, addL_rec]; omega) | omega | exact Nat.le_refl _), j + 1, g, q, p, by omega, rfl, hS.old hg, rfl, rfl, rfl, rfl⟩
  · have e2 : j = n2 := by omega
    subst e2
    have h1 := iLt_f (Nat.le_refl j)
    have hql := hS.len
    repeat' ((conv => whnf); first
             | refine eqS_rfl ?_
             | refine eqA_rfl ?_
             | refine eqA_of (by assumption) ?_
             | refine eqS_of (by rfl) ?_
             | refine eqL_rfl ?_
             | refine eqJ_rfl ?_
             | refine flE_intro (fun _ _ => rfl) ?_
             | refine seS_rfl ?_
             | refine lsS_of hup ?_
             | refine lsS_rfl ?_
             | refine brS_tt ?_
             | refine brS_ff ?_
             | refine brS_not ?_
             | refine brS_t (iEq_self _) ?_
             | refine brS_t (by assumption) ?_
             | refine brS_f (by assumption) ?_
             | refine brS_intro (fun _ => ?_) (fun _ => ?_)
             | refine ltS_intro (by first | assumption | decide | exact Nat.le_of_ble_eq_true rfl | omega) ?_
             | refine ixS_of rfl (by first | assumption | decide | omega) ?_
             | refine okS_intro (by first | assumption | kernel_rfl) ?_
             | refine nzS_intro (by first | decide | assumption) ?_
             | intro _)
    conv => whnf
    refine loS_m (fun jj mk f mm R' ni => ∃ (i : Nat) (g : Nat → Option Nat) (D : Nat → Nat) (q : List Nat) (p : Option Addr), jj = 2 * T - i + 1 ∧ BO ru n T fr j g D q i ∧ f = [(2, .ptr 500 b0 0), (4, .ptr 501 b4 0), (5, .ptr 502 b5 0), (8, .int .i64 (Int.ofNat i))] ∧ mm = dl mk ++ ([(502, .own b5 152 [.fn 101 [] [.ptr 500 b0 0, .ptr 501 b4 0]]), (501, .own b4 25 [.sl 600 p q.length q.length]), (600, .gr p q.length 50 2 (fun z => cl (q.getD z 0))), (500, .own b0 94 [.ptr 900 bs 0]), (900, .own bs 100 [.int .i64 (Int.ofNat T), .sl 1000 a n c, G, .mpv 901 bm]), (901, .mp bm cv (gm g)), (1000, roR a n e ru), (1001, roC a2 j e2 fr)] ++ rest) ∧ R' = addL (B * (2 * T - i) + R) 60 ∧ ni = 700) (2 * T + 1) (by omega)
      ⟨[(2, .ptr 500 b0 0), (4, .ptr 501 b4 0), (5, .ptr 502 b5 0), (8, .int .i64 (Int.ofNat 0))], [(502, .own b5 152 [.fn 101 [] [.ptr 500 b0 0, .ptr 501 b4 0]]), (501, .own b4 25 [.sl 600 p q.length q.length]), (600, .gr p q.length 50 2 (fun z => cl (q.getD z 0))), (500, .own b0 94 [.ptr 900 bs 0]), (900, .own bs 100 [.int .i64 (Int.ofNat T), .sl 1000 a n c, G, .mpv 901 bm]), (901, .mp bm cv (gm g)), (1000, roR a n e ru), (1001, roC a2 j e2 fr)] ++ rest, addL (B * (2 * T - 0) + R) 60, 700, ⟨eqF_rfl _, eqF_rfl _, eqF_rfl _, eqF_rfl _, trivial⟩, WV, by (have hb : B * (2 * T + 1) = B * (2 * T - 0) + B := by rw [Nat.sub_zero, Nat.mul_succ]); (first | (simp only [addL_eq, addL_rec]; omega) | omega | exact Nat.le_refl _), 0, g, fun _ => 0, q, p, by omega, hS.go, rfl, rfl, rfl, rfl⟩ ?_
    rintro _ mk _ _ _ _ ⟨i, g, D, q, p, rfl, hS, rfl, rfl, rfl, rfl⟩
    have hql := hS.len
    have hile := hS.le
    by_cases hlt : i < q.length
    · have h1 := iLt_t hlt
      have hb : B * (2 * T - i) = B * (2 * T - (i + 1)) + B := by rw [← Nat.mul_succ]; congr 1; omega
      obtain ⟨x, hx⟩ : ∃ x, x = q.getD i 0 := ⟨_, rfl⟩
      rcases mk with _ | ⟨bz, mz⟩
      · skip
        repeat' ((conv => whnf); first
                 | refine eqS_rfl ?_
                 | refine eqA_rfl ?_
                 | refine eqA_of (by assumption) ?_
                 | refine eqS_of (by rfl) ?_
                 | refine eqL_rfl ?_
                 | refine eqJ_rfl ?_
                 | refine flE_intro (fun _ _ => rfl) ?_
                 | refine seS_rfl ?_
                 | refine lsS_of hup ?_
                 | refine lsS_rfl ?_
                 | refine brS_tt ?_
                 | refine brS_ff ?_
                 | refine brS_not ?_
                 | refine brS_t (iEq_self _) ?_
                 | refine brS_t (by assumption) ?_
                 | refine brS_f (by assumption) ?_
                 | refine brS_intro (fun _ => ?_) (fun _ => ?_)
                 | refine ltS_intro (by first | assumption | decide | exact Nat.le_of_ble_eq_true rfl | omega) ?_
                 | refine ixS_of rfl (by first | assumption | decide | omega) ?_
                 | refine okS_intro (by first | assumption | kernel_rfl) ?_
                 | refine nzS_intro (by first | decide | assumption) ?_
                 | refine ltS_intro (by have := lt_of_iLt ‹iLt (Int.ofNat _) (Int.ofNat _) = true›; omega) ?_
                 | refine ixS_of rfl (by have := lt_of_iLt ‹iLt (Int.ofNat _) (Int.ofNat _) = true›; omega) ?_
                 | refine call_in (n := 6) Try.func102 rfl rfl rfl rfl rfl rfl rfl ?_
                 | intro _)
        rename_i bq pq haq b9 bb bx b1 b2
        refine call_iter2 (c106 F (d + 2) 60 (by omega) T a n e c hn ru (q.getD i 0) bx bb) (fun k m => ∃ (g2 : Nat → Option Nat) (D2 : Nat → Nat) (q2 : List Nat) (p2 : Option Addr), BK ru n T fr j g2 D2 q2 i k ∧ q2.getD i 0 = (q.getD i 0) ∧ m = [(703, lopF Try.f90 0 b2 .ready none 48 [(5, .ptr 502 b5 0), (9, .ptr 700 b9 0)] b1), (dfN, .dfr [b1]), (700, .own b9 50 (cl (q.getD i 0))), (502, .own b5 152 [.fn 101 [] [.ptr 500 b0 0, .ptr 501 b4 0]]), (501, .own b4 25 [.sl 600 p2 q2.length q2.length]), (600, .gr p2 q2.length 50 2 (fun z => cl (q2.getD z 0))), (500, .own b0 94 [.ptr 900 bs 0]), (900, .own bs 100 [.int .i64 (Int.ofNat T), .sl 1000 a n c, G, .mpv 901 bm]), (901, .mp bm cv (gm g2)), (1001, roC a2 j e2 fr)] ++ rest) (fun _ => False) ([(703, lopF Try.f90 0 b2 .ready none 48 [(5, .ptr 502 b5 0), (9, .ptr 700 b9 0)] b1), (dfN, .dfr [b1]), (700, .own b9 50 (cl (q.getD i 0))), (502, .own b5 152 [.fn 101 [] [.ptr 500 b0 0, .ptr 501 b4 0]]), (501, .own b4 25 [.sl 600 p q.length q.length]), (600, .gr p q.length 50 2 (fun z => cl (q.getD z 0))), (500, .own b0 94 [.ptr 900 bs 0]), (900, .own bs 100 [.int .i64 (Int.ofNat T), .sl 1000 a n c, G, .mpv 901 bm]), (901, .mp bm cv (gm g)), (1001, roC a2 j e2 fr)] ++ rest) (addL (B * (2 * T - (i + 1)) + R) 90) (by rfl) (by exact (WkM.lop (i := 703) (j := 703) (f' := [(5, .ptr 502 b5 0), (9, .ptr 700 b9 0)]) ⟨eqF_rfl _, eqF_rfl _, trivial⟩ (WkM.refl _)).trans WS) ⟨g, D, q, p, hS.start hlt, rfl, rfl⟩ ?_ (by (first | (simp only [addL_eq, addL_rec]; omega) | omega | exact Nat.le_refl _)) ?_
        · rintro k hk _ ⟨g2, D2, q2, p2, hK, hq2, rfl⟩ me' R
          have hql2 := hK.1.len
          have hk2 : k < (afL ru (q2.getD i 0) n).length := by rw [hq2]; exact hk
          refine callS.ni 2000 ?_
          refine call_yield ?_
          by_cases hg : g2 ((afL ru (q.getD i 0) n).getD k 0) = none
          · have hgq := growQ q2 ((afL ru (q.getD i 0) n).getD k 0)
            have hmu := gm_upd g2 ((afL ru (q.getD i 0) n).getD k 0) (q.getD i 0)
            repeat' ((conv => whnf); first
                     | refine eqS_rfl ?_
                     | refine eqA_rfl ?_
                     | refine eqA_of (by assumption) ?_
                     | refine eqS_of (by rfl) ?_
                     | refine eqL_rfl ?_
                     | refine eqJ_rfl ?_
                     | refine flE_intro (fun _ _ => rfl) ?_
                     | refine seS_rfl ?_
                     | refine lsS_of hup ?_
                     | refine lsS_rfl ?_
                     | refine brS_tt ?_
                     | refine brS_ff ?_
                     | refine brS_not ?_
                     | refine brS_t (iEq_self _) ?_
                     | refine brS_t (by assumption) ?_
                     | refine brS_f (by assumption) ?_
                     | refine brS_intro (fun _ => ?_) (fun _ => ?_)
                     | refine ltS_intro (by first | assumption | decide | exact Nat.le_of_ble_eq_true rfl | omega) ?_
                     | refine ixS_of rfl (by first | assumption | decide | omega) ?_
                     | refine okS_intro (by first | assumption | kernel_rfl) ?_
                     | refine nzS_intro (by first | decide | assumption) ?_
                     | refine kyS_of _ (keyC _ rfl) rfl ?_
                     | refine hasS_none (gm_none (by assumption)) ?_
                     | refine hasS_some (gm_some (by assumption)) ?_
                     | refine call_in (n := 20) Try.func101 rfl rfl rfl rfl rfl rfl rfl ?_
                     | refine call_in (n := 17) Try.func91 rfl rfl rfl rfl rfl rfl rfl ?_
                     | refine ltS_intro (show q2.length * 2 + 2 < 32769 by omega) ?_
                     | intro _)
            rename_i a9
            conv => whnf
            have hKn : BK ru n T fr j (updN g2 ((afL ru (q.getD i 0) n).getD k 0) (some (q.getD i 0))) (updN D2 ((afL ru (q.getD i 0) n).getD k 0) (D2 (q.getD i 0) + 1)) (q2 ++ [((afL ru (q.getD i 0) n).getD k 0)]) i (k + 1) := by
              have := hK.new hr hk2 (y := ((afL ru (q.getD i 0) n).getD k 0)) (by rw [hq2]) hg
              rw [hq2] at this; exact this
            exact ⟨by (first | (simp only [addL_eq, addL_rec]; omega) | omega | exact Nat.le_refl _), [(703, lopF Try.f90 0 b2 .ready none 48 [(5, .ptr 502 b5 0), (9, .ptr 700 b9 0)] b1), (dfN, .dfr [b1]), (700, .own b9 50 (cl (q.getD i 0))), (502, .own b5 152 [.fn 101 [] [.ptr 500 b0 0, .ptr 501 b4 0]]), (501, .own b4 25 [.sl 600 a9 (q2 ++ [((afL ru (q.getD i 0) n).getD k 0)]).length (q2 ++ [((afL ru (q.getD i 0) n).getD k 0)]).length]), (600, .gr a9 (q2 ++ [((afL ru (q.getD i 0) n).getD k 0)]).length 50 2 (fun z => cl ((q2 ++ [((afL ru (q.getD i 0) n).getD k 0)]).getD z 0))), (500, .own b0 94 [.ptr 900 bs 0]), (900, .own bs 100 [.int .i64 (Int.ofNat T), .sl 1000 a n c, G, .mpv 901 bm]), (901, .mp bm cv (gm (updN g2 ((afL ru (q.getD i 0) n).getD k 0) (some (q.getD i 0))))), (1001, roC a2 j e2 fr)] ++ rest, by rw [List.length_append, List.length_singleton]; exact WV, .inl ⟨rfl, _, updN D2 ((afL ru (q.getD i 0) n).getD k 0) (D2 (q.getD i 0) + 1), q2 ++ [((afL ru (q.getD i 0) n).getD k 0)], a9, hKn, by rw [getD_app hK.2.1]; exact hq2, rfl⟩⟩
          · obtain ⟨x0, hx0⟩ : ∃ x, g2 ((afL ru (q.getD i 0) n).getD k 0) = some x := by cases hh : g2 ((afL ru (q.getD i 0) n).getD k 0) with
              | none => exact absurd hh hg
              | some x => exact ⟨x, rfl⟩
            repeat' ((conv => whnf); first
                     | refine eqS_rfl ?_
                     | refine eqA_rfl ?_
                     | refine eqA_of (by assumption) ?_
                     | refine eqS_of (by rfl) ?_
                     | refine eqL_rfl ?_
                     | refine eqJ_rfl ?_
                     | refine flE_intro (fun _ _ => rfl) ?_
                     | refine seS_rfl ?_
                     | refine lsS_of hup ?_
                     | refine lsS_rfl ?_
                     | refine brS_tt ?_
                     | refine brS_ff ?_
                     | refine brS_not ?_
                     | refine brS_t (iEq_self _) ?_
                     | refine brS_t (by assumption) ?_
                     | refine brS_f (by assumption) ?_
                     | refine brS_intro (fun _ => ?_) (fun _ => ?_)
                     | refine ltS_intro (by first | assumption | decide | exact Nat.le_of_ble_eq_true rfl | omega) ?_
                     | refine ixS_of rfl (by first | assumption | decide | omega) ?_
                     | refine okS_intro (by first | assumption | kernel_rfl) ?_
                     | refine nzS_intro (by first | decide | assumption) ?_
                     | refine kyS_of _ (keyC _ rfl) rfl ?_
                     | refine hasS_none (gm_none (by assumption)) ?_
                     | refine hasS_some (gm_some (by assumption)) ?_
                     | refine call_in (n := 20) Try.func101 rfl rfl rfl rfl rfl rfl rfl ?_
                     | refine call_in (n := 17) Try.func91 rfl rfl rfl rfl rfl rfl rfl ?_
                     | intro _)
            conv => whnf
            exact ⟨by (first | (simp only [addL_eq, addL_rec]; omega) | omega | exact Nat.le_refl _), [(703, lopF Try.f90 0 b2 .ready none 48 [(5, .ptr 502 b5 0), (9, .ptr 700 b9 0)] b1), (dfN, .dfr [b1]), (700, .own b9 50 (cl (q.getD i 0))), (502, .own b5 152 [.fn 101 [] [.ptr 500 b0 0, .ptr 501 b4 0]]), (501, .own b4 25 [.sl 600 p2 q2.length q2.length]), (600, .gr p2 q2.length 50 2 (fun z => cl (q2.getD z 0))), (500, .own b0 94 [.ptr 900 bs 0]), (900, .own bs 100 [.int .i64 (Int.ofNat T), .sl 1000 a n c, G, .mpv 901 bm]), (901, .mp bm cv (gm g2)), (1001, roC a2 j e2 fr)] ++ rest, WV, .inl ⟨rfl, g2, D2, q2, p2, hK.old hk2 (by rw [hq2]; exact hg), hq2, rfl⟩⟩
        · rintro _ _ (⟨g2, D2, q2, p2, hK, hq2, rfl⟩ | h)
          · have hK3 : BK ru n T fr j g2 D2 q2 i (afL ru (q2.getD i 0) n).length := by rw [hq2]; exact hK
            have hS2 := hK3.next
            have hl2 := hS2.len
            have hi2 := hS2.le
            repeat' ((conv => whnf); first
                     | refine eqS_rfl ?_
                     | refine eqA_rfl ?_
                     | refine eqA_of (by assumption) ?_
                     | refine eqS_of (by rfl) ?_
                     | refine eqL_rfl ?_
                     | refine eqJ_rfl ?_
                     | refine flE_intro (fun _ _ => rfl) ?_
                     | refine seS_rfl ?_
                     | refine lsS_of hup ?_
                     | refine lsS_rfl ?_
                     | refine brS_tt ?_
                     | refine brS_ff ?_
                     | refine brS_not ?_
                     | refine brS_t (iEq_self _) ?_
                     | refine brS_t (by assumption) ?_
                     | refine brS_f (by assumption) ?_
                     | refine brS_intro (fun _ => ?_) (fun _ => ?_)
                     | refine ltS_intro (by first | assumption | decide | exact Nat.le_of_ble_eq_true rfl | omega) ?_
                     | refine ixS_of rfl (by first | assumption | decide | omega) ?_
                     | refine okS_intro (by first | assumption | kernel_rfl) ?_
                     | refine nzS_intro (by first | decide | assumption) ?_
                     | intro _)
            conv => whnf
            exact ⟨2 * T - (i + 1) + 1, [(2, .ptr 500 b0 0), (4, .ptr 501 b4 0), (5, .ptr 502 b5 0), (8, .int .i64 (Int.ofNat (i + 1)))], dl (b1 :: []) ++ ([(502, .own b5 152 [.fn 101 [] [.ptr 500 b0 0, .ptr 501 b4 0]]), (501, .own b4 25 [.sl 600 p2 q2.length q2.length]), (600, .gr p2 q2.length 50 2 (fun z => cl (q2.getD z 0))), (500, .own b0 94 [.ptr 900 bs 0]), (900, .own bs 100 [.int .i64 (Int.ofNat T), .sl 1000 a n c, G, .mpv 901 bm]), (901, .mp bm cv (gm g2)), (1000, roR a n e ru), (1001, roC a2 j e2 fr)] ++ rest), addL (B * (2 * T - (i + 1)) + R) 60, 700, by omega, ⟨eqF_rfl _, eqF_rfl _, eqF_rfl _, ⟨congrArg (Value.int .i64) (smn (i := i + 1) (by omega)), rfl⟩, trivial⟩, WV, by (first | (simp only [addL_eq, addL_rec]; omega) | omega | exact Nat.le_refl _), i + 1, g2, D2, q2, p2, rfl, hS2, rfl, rfl, rfl, rfl⟩
          · exact h.elim
      · skip
        repeat' ((conv => whnf); first
                 | refine eqS_rfl ?_
                 | refine eqA_rfl ?_
                 | refine eqA_of (by assumption) ?_
                 | refine eqS_of (by rfl) ?_
                 | refine eqL_rfl ?_
                 | refine eqJ_rfl ?_
                 | refine flE_intro (fun _ _ => rfl) ?_
                 | refine seS_rfl ?_
                 | refine lsS_of hup ?_
                 | refine lsS_rfl ?_
                 | refine brS_tt ?_
                 | refine brS_ff ?_
                 | refine brS_not ?_
                 | refine brS_t (iEq_self _) ?_
                 | refine brS_t (by assumption) ?_
                 | refine brS_f (by assumption) ?_
                 | refine brS_intro (fun _ => ?_) (fun _ => ?_)
                 | refine ltS_intro (by first | assumption | decide | exact Nat.le_of_ble_eq_true rfl | omega) ?_
                 | refine ixS_of rfl (by first | assumption | decide | omega) ?_
                 | refine okS_intro (by first | assumption | kernel_rfl) ?_
                 | refine nzS_intro (by first | decide | assumption) ?_
                 | refine ltS_intro (by have := lt_of_iLt ‹iLt (Int.ofNat _) (Int.ofNat _) = true›; omega) ?_
                 | refine ixS_of rfl (by have := lt_of_iLt ‹iLt (Int.ofNat _) (Int.ofNat _) = true›; omega) ?_
                 | refine call_in (n := 6) Try.func102 rfl rfl rfl rfl rfl rfl rfl ?_
                 | intro _)
        rename_i bq pq haq b9 bb bx b1 b2
        refine call_iter2 (c106 F (d + 2) 60 (by omega) T a n e c hn ru (q.getD i 0) bx bb) (fun k m => ∃ (g2 : Nat → Option Nat) (D2 : Nat → Nat) (q2 : List Nat) (p2 : Option Addr), BK ru n T fr j g2 D2 q2 i k ∧ q2.getD i 0 = (q.getD i 0) ∧ m = [(703, lopF Try.f90 0 b2 .ready none 48 [(5, .ptr 502 b5 0), (9, .ptr 700 b9 0)] b1), (dfN, .dfr (b1 :: bz :: mz)), (700, .own b9 50 (cl (q.getD i 0))), (502, .own b5 152 [.fn 101 [] [.ptr 500 b0 0, .ptr 501 b4 0]]), (501, .own b4 25 [.sl 600 p2 q2.length q2.length]), (600, .gr p2 q2.length 50 2 (fun z => cl (q2.getD z 0))), (500, .own b0 94 [.ptr 900 bs 0]), (900, .own bs 100 [.int .i64 (Int.ofNat T), .sl 1000 a n c, G, .mpv 901 bm]), (901, .mp bm cv (gm g2)), (1001, roC a2 j e2 fr)] ++ rest) (fun _ => False) ([(703, lopF Try.f90 0 b2 .ready none 48 [(5, .ptr 502 b5 0), (9, .ptr 700 b9 0)] b1), (dfN, .dfr (b1 :: bz :: mz)), (700, .own b9 50 (cl (q.getD i 0))), (502, .own b5 152 [.fn 101 [] [.ptr 500 b0 0, .ptr 501 b4 0]]), (501, .own b4 25 [.sl 600 p q.length q.length]), (600, .gr p q.length 50 2 (fun z => cl (q.getD z 0))), (500, .own b0 94 [.ptr 900 bs 0]), (900, .own bs 100 [.int .i64 (Int.ofNat T), .sl 1000 a n c, G, .mpv 901 bm]), (901, .mp bm cv (gm g)), (1001, roC a2 j e2 fr)] ++ rest) (addL (B * (2 * T - (i + 1)) + R) 90) (by rfl) (by exact (WkM.lop (i := 703) (j := 703) (f' := [(5, .ptr 502 b5 0), (9, .ptr 700 b9 0)]) ⟨eqF_rfl _, eqF_rfl _, trivial⟩ (WkM.refl _)).trans WS) ⟨g, D, q, p, hS.start hlt, rfl, rfl⟩ ?_ (by (first | (simp only [addL_eq, addL_rec]; omega) | omega | exact Nat.le_refl _)) ?_
        · rintro k hk _ ⟨g2, D2, q2, p2, hK, hq2, rfl⟩ me' R
          have hql2 := hK.1.len
          have hk2 : k < (afL ru (q2.getD i 0) n).length := by rw [hq2]; exact hk
          refine callS.ni 2000 ?_
          refine call_yield ?_
          by_cases hg : g2 ((afL ru (q.getD i 0) n).getD k 0) = none
          · have hgq := growQ q2 ((afL ru (q.getD i 0) n).getD k 0)
            have hmu := gm_upd g2 ((afL ru (q.getD i 0) n).getD k 0) (q.getD i 0)
            repeat' ((conv => whnf); first
                     | refine eqS_rfl ?_
                     | refine eqA_rfl ?_
                     | refine eqA_of (by assumption) ?_
                     | refine eqS_of (by rfl) ?_
                     | refine eqL_rfl ?_
                     | refine eqJ_rfl ?_
                     | refine flE_intro (fun _ _ => rfl) ?_
                     | refine seS_rfl ?_
                     | refine lsS_of hup ?_
                     | refine lsS_rfl ?_
                     | refine brS_tt ?_
                     | refine brS_ff ?_
                     | refine brS_not ?_
                     | refine brS_t (iEq_self _) ?_
                     | refine brS_t (by assumption) ?_
                     | refine brS_f (by assumption) ?_
                     | refine brS_intro (fun _ => ?_) (fun _ => ?_)
                     | refine ltS_intro (by first | assumption | decide | exact Nat.le_of_ble_eq_true rfl | omega) ?_
                     | refine ixS_of rfl (by first | assumption | decide | omega) ?_
                     | refine okS_intro (by first | assumption | kernel_rfl) ?_
                     | refine nzS_intro (by first | decide | assumption) ?_
                     | refine kyS_of _ (keyC _ rfl) rfl ?_
                     | refine hasS_none (gm_none (by assumption)) ?_
                     | refine hasS_some (gm_some (by assumption)) ?_
                     | refine call_in (n := 20) Try.func101 rfl rfl rfl rfl rfl rfl rfl ?_
                     | refine call_in (n := 17) Try.func91 rfl rfl rfl rfl rfl rfl rfl ?_
                     | refine ltS_intro (show q2.length * 2 + 2 < 32769 by omega) ?_
                     | intro _)
            rename_i a9
            conv => whnf
            have hKn : BK ru n T fr j (updN g2 ((afL ru (q.getD i 0) n).getD k 0) (some (q.getD i 0))) (updN D2 ((afL ru (q.getD i 0) n).getD k 0) (D2 (q.getD i 0) + 1)) (q2 ++ [((afL ru (q.getD i 0) n).getD k 0)]) i (k + 1) := by
              have := hK.new hr hk2 (y := ((afL ru (q.getD i 0) n).getD k 0)) (by rw [hq2]) hg
              rw [hq2] at this; exact this
            exact ⟨by (first | (simp only [addL_eq, addL_rec]; omega) | omega | exact Nat.le_refl _), [(703, lopF Try.f90 0 b2 .ready none 48 [(5, .ptr 502 b5 0), (9, .ptr 700 b9 0)] b1), (dfN, .dfr (b1 :: bz :: mz)), (700, .own b9 50 (cl (q.getD i 0))), (502, .own b5 152 [.fn 101 [] [.ptr 500 b0 0, .ptr 501 b4 0]]), (501, .own b4 25 [.sl 600 a9 (q2 ++ [((afL ru (q.getD i 0) n).getD k 0)]).length (q2 ++ [((afL ru (q.getD i 0) n).getD k 0)]).length]), (600, .gr a9 (q2 ++ [((afL ru (q.getD i 0) n).getD k 0)]).length 50 2 (fun z => cl ((q2 ++ [((afL ru (q.getD i 0) n).getD k 0)]).getD z 0))), (500, .own b0 94 [.ptr 900 bs 0]), (900, .own bs 100 [.int .i64 (Int.ofNat T), .sl 1000 a n c, G, .mpv 901 bm]), (901, .mp bm cv (gm (updN g2 ((afL ru (q.getD i 0) n).getD k 0) (some (q.getD i 0))))), (1001, roC a2 j e2 fr)] ++ rest, by rw [List.length_append, List.length_singleton]; exact WV, .inl ⟨rfl, _, updN D2 ((afL ru (q.getD i 0) n).getD k 0) (D2 (q.getD i 0) + 1), q2 ++ [((afL ru (q.getD i 0) n).getD k 0)], a9, hKn, by rw [getD_app hK.2.1]; exact hq2, rfl⟩⟩
          · obtain ⟨x0, hx0⟩ : ∃ x, g2 ((afL ru (q.getD i 0) n).getD k 0) = some x := by cases hh : g2 ((afL ru (q.getD i 0) n).getD k 0) with
              | none => exact absurd hh hg
              | some x => exact ⟨x, rfl⟩
            repeat' ((conv => whnf); first
                     | refine eqS_rfl ?_
                     | refine eqA_rfl ?_
                     | refine eqA_of (by assumption) ?_
                     | refine eqS_of (by rfl) ?_
                     | refine eqL_rfl ?_
                     | refine eqJ_rfl ?_
                     | refine flE_intro (fun _ _ => rfl) ?_
                     | refine seS_rfl ?_
                     | refine lsS_of hup ?_
                     | refine lsS_rfl ?_
                     | refine brS_tt ?_
                     | refine brS_ff ?_
                     | refine brS_not ?_
                     | refine brS_t (iEq_self _) ?_
                     | refine brS_t (by assumption) ?_
                     | refine brS_f (by assumption) ?_
                     | refine brS_intro (fun _ => ?_) (fun _ => ?_)
                     | refine ltS_intro (by first | assumption | decide | exact Nat.le_of_ble_eq_true rfl | omega) ?_
                     | refine ixS_of rfl (by first | assumption | decide | omega) ?_
                     | refine okS_intro (by first | assumption | kernel_rfl) ?_
                     | refine nzS_intro (by first | decide | assumption) ?_
                     | refine kyS_of _ (keyC _ rfl) rfl ?_
                     | refine hasS_none (gm_none (by assumption)) ?_
                     | refine hasS_some (gm_some (by assumption)) ?_
                     | refine call_in (n := 20) Try.func101 rfl rfl rfl rfl rfl rfl rfl ?_
                     | refine call_in (n := 17) Try.func91 rfl rfl rfl rfl rfl rfl rfl ?_
                     | intro _)
            conv => whnf
            exact ⟨by (first | (simp only [addL_eq, addL_rec]; omega) | omega | exact Nat.le_refl _), [(703, lopF Try.f90 0 b2 .ready none 48 [(5, .ptr 502 b5 0), (9, .ptr 700 b9 0)] b1), (dfN, .dfr (b1 :: bz :: mz)), (700, .own b9 50 (cl (q.getD i 0))), (502, .own b5 152 [.fn 101 [] [.ptr 500 b0 0, .ptr 501 b4 0]]), (501, .own b4 25 [.sl 600 p2 q2.length q2.length]), (600, .gr p2 q2.length 50 2 (fun z => cl (q2.getD z 0))), (500, .own b0 94 [.ptr 900 bs 0]), (900, .own bs 100 [.int .i64 (Int.ofNat T), .sl 1000 a n c, G, .mpv 901 bm]), (901, .mp bm cv (gm g2)), (1001, roC a2 j e2 fr)] ++ rest, WV, .inl ⟨rfl, g2, D2, q2, p2, hK.old hk2 (by rw [hq2]; exact hg), hq2, rfl⟩⟩
        · rintro _ _ (⟨g2, D2, q2, p2, hK, hq2, rfl⟩ | h)
          · have hK3 : BK ru n T fr j g2 D2 q2 i (afL ru (q2.getD i 0) n).length := by rw [hq2]; exact hK
            have hS2 := hK3.next
            have hl2 := hS2.len
            have hi2 := hS2.le
            repeat' ((conv => whnf); first
                     | refine eqS_rfl ?_
                     | refine eqA_rfl ?_
                     | refine eqA_of (by assumption) ?_
                     | refine eqS_of (by rfl) ?_
                     | refine eqL_rfl ?_
                     | refine eqJ_rfl ?_
                     | refine flE_intro (fun _ _ => rfl) ?_
                     | refine seS_rfl ?_
                     | refine lsS_of hup ?_
                     | refine lsS_rfl ?_
                     | refine brS_tt ?_
                     | refine brS_ff ?_
                     | refine brS_not ?_
                     | refine brS_t (iEq_self _) ?_
                     | refine brS_t (by assumption) ?_
                     | refine brS_f (by assumption) ?_
                     | refine brS_intro (fun _ => ?_) (fun _ => ?_)
                     | refine ltS_intro (by first | assumption | decide | exact Nat.le_of_ble_eq_true rfl | omega) ?_
                     | refine ixS_of rfl (by first | assumption | decide | omega) ?_
                     | refine okS_intro (by first | assumption | kernel_rfl) ?_
                     | refine nzS_intro (by first | decide | assumption) ?_
                     | intro _)
            conv => whnf
            exact ⟨2 * T - (i + 1) + 1, [(2, .ptr 500 b0 0), (4, .ptr 501 b4 0), (5, .ptr 502 b5 0), (8, .int .i64 (Int.ofNat (i + 1)))], dl (b1 :: bz :: mz) ++ ([(502, .own b5 152 [.fn 101 [] [.ptr 500 b0 0, .ptr 501 b4 0]]), (501, .own b4 25 [.sl 600 p2 q2.length q2.length]), (600, .gr p2 q2.length 50 2 (fun z => cl (q2.getD z 0))), (500, .own b0 94 [.ptr 900 bs 0]), (900, .own bs 100 [.int .i64 (Int.ofNat T), .sl 1000 a n c, G, .mpv 901 bm]), (901, .mp bm cv (gm g2)), (1000, roR a n e ru), (1001, roC a2 j e2 fr)] ++ rest), addL (B * (2 * T - (i + 1)) + R) 60, 700, by omega, ⟨eqF_rfl _, eqF_rfl _, eqF_rfl _, ⟨congrArg (Value.int .i64) (smn (i := i + 1) (by omega)), rfl⟩, trivial⟩, WV, by (first | (simp only [addL_eq, addL_rec]; omega) | omega | exact Nat.le_refl _), i + 1, g2, D2, q2, p2, rfl, hS2, rfl, rfl, rfl, rfl⟩
          · exact h.elim
    · have e3 : i = q.length := by omega
      subst e3
      have h1 := iLt_f (Nat.le_refl q.length)
      rcases mk with _ | ⟨bz, mz⟩
      all_goals
        repeat' ((conv => whnf); first
                 | refine eqS_rfl ?_
                 | refine eqA_rfl ?_
                 | refine eqA_of (by assumption) ?_
                 | refine eqS_of (by rfl) ?_
                 | refine eqL_rfl ?_
                 | refine eqJ_rfl ?_
                 | refine flE_intro (fun _ _ => rfl) ?_
                 | refine seS_rfl ?_
                 | refine lsS_of hup ?_
                 | refine lsS_rfl ?_
                 | refine brS_tt ?_
                 | refine brS_ff ?_
                 | refine brS_not ?_
                 | refine brS_t (iEq_self _) ?_
                 | refine brS_t (by assumption) ?_
                 | refine brS_f (by assumption) ?_
                 | refine brS_intro (fun _ => ?_) (fun _ => ?_)
                 | refine ltS_intro (by first | assumption | decide | exact Nat.le_of_ble_eq_true rfl | omega) ?_
                 | refine ixS_of rfl (by first | assumption | decide | omega) ?_
                 | refine okS_intro (by first | assumption | kernel_rfl) ?_
                 | refine nzS_intro (by first | decide | assumption) ?_
                 | intro _)
        conv => whnf
        exact ⟨by (first | (simp only [addL_eq, addL_rec]; omega) | omega | exact Nat.le_refl _), g, D, hS.done, WV⟩
end Go.Proofs.Ytoocmgefoagfnaa
namespace Go.Proofs.Ytoocmgefoagfnaa
open Go.Ab
attribute [local irreducible] aggOk drwOK
set_option maxRecDepth 100000
set_option maxHeartbeats 4000000
set_option linter.unusedVariables false
set_option linter.unusedSimpArgs false
/-- the case that is so many steps before another one -/
def pr (g : Nat → Option Nat) (y : Nat) : Nat → Nat
  | 0 => y
  | k + 1 => (g (pr g y k)).getD 0
section
variable {ru : Nat → Nat × Nat} {n T x : Nat} {g : Nat → Option Nat} {D : Nat → Nat}
theorem RS.pr_D (h : RS ru n T (fun _ => x) 1 g D) {y : Nat} (hy : g y ≠ none) : ∀ k, k ≤ D y → g (pr g y k) ≠ none ∧ D (pr g y k) = D y - k ∧ (0 < k → pr g y (k - 1) ∈ afL ru (pr g y k) n)
  | 0, _ => ⟨hy, rfl, fun h => absurd h (by omega)⟩
  | k + 1, hk => by
    obtain ⟨h1, h2, _⟩ := h.pr_D hy k (by omega)
    cases hg : g (pr g y k) with
    | none => exact absurd hg h1
    | some z =>
      have e : pr g y (k + 1) = z := by show (g (pr g y k)).getD 0 = z; rw [hg]; rfl
      rcases h.par _ z hg with ⟨_, e2, _⟩ | ⟨e2, e3, e4⟩
      · omega
      · rw [e]; exact ⟨e3, by omega, fun _ => e4⟩
theorem RS.zero_src (h : RS ru n T (fun _ => x) 1 g D) {z : Nat} (hz : g z ≠ none) : D z = 0 ↔ z = x := by
  constructor
  · intro hd
    cases hg : g z with
    | none => exact absurd hg hz
    | some w =>
      rcases h.par z w hg with ⟨_, _, j, _, e⟩ | ⟨e, _⟩
      · exact e.symm
      · omega
  · rintro rfl; exact (h.src 0 (by omega)).2
theorem RS.pr_ne (h : RS ru n T (fun _ => x) 1 g D) {y : Nat} (hy : g y ≠ none) {k : Nat} (hk : k ≤ D y) : pr g y k = x ↔ k = D y := by
  obtain ⟨h1, h2, _⟩ := h.pr_D hy k hk
  rw [← h.zero_src h1, h2]; omega
theorem RS.pr_some (h : RS ru n T (fun _ => x) 1 g D) {y : Nat} (hy : g y ≠ none) {k : Nat} (hk : k ≤ D y) : g (pr g y k) = some (pr g y (k + 1)) := by
  obtain ⟨h1, _⟩ := h.pr_D hy k hk
  show _ = some ((g (pr g y k)).getD 0)
  cases hg : g (pr g y k) with
  | none => exact absurd hg h1
  | some z => rfl
end
theorem RS.D_lt {ru : Nat → Nat × Nat} {n T x : Nat} {g : Nat → Option Nat} {D : Nat → Nat} (h : RS ru n T (fun _ => x) 1 g D) {y : Nat} (hy : g y ≠ none) : D y < 2 * T := by
  have h1 := nodup_le (2 * T) ((List.range (D y + 1)).map (pr g y)) (List.pairwise_map.2 ((List.pairwise_lt_range (n := D y + 1)).imp_of_mem fun {a b} ha hb hab e => by
    rw [List.mem_range] at ha hb
    have e1 := (h.pr_D hy a (by omega)).2.1
    have e2 := (h.pr_D hy b (by omega)).2.1
    rw [e] at e1
    omega)) fun z hz => by
    obtain ⟨k, hk, rfl⟩ := List.mem_map.1 hz
    rw [List.mem_range] at hk
    exact h.lt _ (h.pr_D hy k (by omega)).1
  simp at h1
  omega
/-- what was turned around so far -/
def rv (L t : Nat) (f : Nat → Nat) (z : Nat) : Nat := if z < t ∨ L ≤ z + t then f (L - 1 - z) else f z
theorem rv_swap {L t : Nat} {f : Nat → Nat} (ht : t < L - 1 - t) : ∀ z, z < L → updG (L - 1 - t) (cl (rv L t f t)) (updG t (cl (rv L t f (L - 1 - t))) (fun z => cl (rv L t f z))) z = cl (rv L (t + 1) f z) := fun z hz => by
  have e1 : rv L t f t = f t := by unfold rv; rw [if_neg (by omega)]
  have e2 : rv L t f (L - 1 - t) = f (L - 1 - t) := by unfold rv; rw [if_neg (by omega)]
  rw [e1, e2]
  by_cases h1 : z = L - 1 - t
  · rw [h1, updG_same]; unfold rv; rw [if_pos (by omega)]; congr 2; omega
  · rw [updG_other h1]
    by_cases h2 : z = t
    · rw [h2, updG_same]; unfold rv; rw [if_pos (by omega)]
    · rw [updG_other h2]
      show cl (rv L t f z) = _
      unfold rv
      by_cases h3 : z < t ∨ L ≤ z + t
      · rw [if_pos h3, if_pos (by omega)]
      · rw [if_neg h3, if_neg (by omega)]
theorem rv_done {L t : Nat} {f : Nat → Nat} (ht : L - 1 - t ≤ t) : ∀ z, z < L → cl (rv L t f z) = cl (f (L - 1 - z)) := fun z hz => by
  unfold rv
  by_cases h3 : z < t ∨ L ≤ z + t
  · rw [if_pos h3]
  · rw [if_neg h3]; congr 2; omega
theorem grow2 {n : Nat} {f : Nat → Nat} {v : Nat} (hv : f n = v) : ∀ j, j < n + 1 → grow n 2 (fun z => cl (f z)) (cl v) j = cl (f j) := growE (f := fun z => cl (f z)) rfl (congrArg cl hv)
theorem call90 {F d T n e c n2 e2 c2 N : Nat} {a a2 : Option Addr} {ru : Nat → Nat × Nat} {fr : Nat → Nat} {bs bm : Nat} {G : SV} {f : Nat → Option SV} {rest : Mem}
    (h : ∀ R, callS (CL F (d + 5)) (.fn 90 [] []) [.ptr 900 bs 0, .sl 1001 a2 n2 c2] ([(900, .own bs 100 [.int .i64 (Int.ofNat T), .sl 1000 a n c, G, .mpv 901 bm]), (901, .mp bm cv f), (1000, roR a n e ru), (1001, roC a2 n2 e2 fr)] ++ rest) (addL R N) 500 fun w m' R' _ => R ≤ R' ∧ ∃ g D, RS ru n T fr n2 g D ∧ WkM m' ([(900, .own bs 100 [.int .i64 (Int.ofNat T), .sl 1000 a n c, G, .mpv 901 bm]), (901, .mp bm cv (gm g)), (1000, roR a n e ru), (1001, roC a2 n2 e2 fr)] ++ rest))
    (R2 : Nat) {args : List SV} {m : Mem} {R ni : Nat} {K : SV → Mem → Nat → Nat → Prop} (ha : dens args = dens [.ptr 900 bs 0, .sl 1001 a2 n2 c2]) (hw : WkM m ([(900, .own bs 100 [.int .i64 (Int.ofNat T), .sl 1000 a n c, G, .mpv 901 bm]), (901, .mp bm cv f), (1000, roR a n e ru), (1001, roC a2 n2 e2 fr)] ++ rest)) (hN : R2 + N ≤ R)
    (hK : ∀ w g D, RS ru n T fr n2 g D → K w ([(900, .own bs 100 [.int .i64 (Int.ofNat T), .sl 1000 a n c, G, .mpv 901 bm]), (901, .mp bm cv (gm g)), (1000, roR a n e ru), (1001, roC a2 n2 e2 fr)] ++ rest) R2 ni) : callS (CL F (d + 5)) (.fn 90 [] []) args m R ni K := by
  refine callS.cast (fv' := .fn 90 [] []) rfl ha ?_
  refine callS.wk hw ?_
  have h1 := h (R - N)
  rw [addL_eq, Nat.sub_add_cancel (by omega)] at h1
  exact call_post h1 fun w m' R' n' ⟨hR, g, D, hS, hw1⟩ => ⟨w, _, R2, ni, rfl, hw1, by omega, hK w g D hS⟩
theorem c68 (F d : Nat) (T : Nat) (hF : 2 * T + 400 < F) (hT : T ≤ 24) (a : Option Addr) (n e c : Nat) (hn : n ≤ 80) (ru : Nat → Nat × Nat) (hr : ∀ j, j < n → (ru j).1 < 2 * T ∧ (ru j).2 < 2 * T) (x y : Nat) (hx : x < 2 * T) (bs bm : Nat) (G : SV) (f : Nat → Option SV) (B : Nat) (hB : 200 * n + 400 ≤ B) (rest : Mem) (R : Nat) :
    callS (CL F (d + 6)) (.fn 68 [] []) [.ptr 900 bs 0, cv x, cv y] ([(900, .own bs 100 [.int .i64 (Int.ofNat T), .sl 1000 a n c, G, .mpv 901 bm]), (901, .mp bm cv f), (1000, roR a n e ru)] ++ rest) (addL R (B * (2 * T + 1) + 3000)) 1000 fun w m' R' _ => R ≤ R' ∧ ∃ g D, RS ru n T (fun _ => x) 1 g D ∧ ((g y = none ∧ den w = .slice none 0 0 ∧ WkM m' ([(900, .own bs 100 [.int .i64 (Int.ofNat T), .sl 1000 a n c, G, .mpv 901 bm]), (901, .mp bm cv (gm g)), (1000, roR a n e ru)] ++ rest)) ∨
      (g y ≠ none ∧ ∃ p, den w = .slice p (D y + 1) (D y + 1) ∧ WkM m' ((910, .gr p (D y + 1) 50 2 (fun z => cl (pr g y (D y - z)))) :: ([(900, .own bs 100 [.int .i64 (Int.ofNat T), .sl 1000 a n c, G, .mpv 901 bm]), (901, .mp bm cv (gm g)), (1000, roR a n e ru)] ++ rest)))) := by
  rw [addL_eq, show R + (B * (2 * T + 1) + 3000) = B * (2 * T + 1) + 2900 + R + 100 by omega, ← addL_eq _ 100]
  refine callS.ni 3000 ?_
  refine call_in (n := 37) Try.func68 rfl rfl rfl rfl rfl rfl rfl ?_
  repeat' ((conv => whnf); first
           | refine eqS_rfl ?_
           | refine eqA_rfl ?_
           | refine eqA_of (by assumption) ?_
           | refine eqS_of (by rfl) ?_
           | refine eqL_rfl ?_
           | refine eqJ_rfl ?_
           | refine flE_intro (fun _ _ => rfl) ?_
           | refine seS_rfl ?_
           | refine lsS_of hup ?_
           | refine lsS_rfl ?_
           | refine brS_tt ?_
           | refine brS_ff ?_
           | refine brS_not ?_
           | refine brS_t (iEq_self _) ?_
           | refine brS_t (by assumption) ?_
           | refine brS_f (by assumption) ?_
           | refine brS_intro (fun _ => ?_) (fun _ => ?_)
           | refine ltS_intro (by first | assumption | decide | exact Nat.le_of_ble_eq_true rfl | omega) ?_
           | refine ixS_of rfl (by first | assumption | decide | omega) ?_
           | refine okS_intro (by first | assumption | kernel_rfl) ?_
           | refine nzS_intro (by first | decide | assumption) ?_
           | refine kyS_of _ (keyC _ rfl) rfl ?_
           | refine hasS_none (gm_none (by assumption)) ?_
           | refine hasS_some (gm_some (by assumption)) ?_
           | intro _)
  rename_i bx by_ bq
  refine call90 (rest := [(3001, .own by_ 50 (cl y)), (3000, .own bx 50 (cl x))] ++ rest) (c90 F d T (by omega) hT a n e c hn ru hr (some ⟨bq, 0, none⟩) 1 0 1 (fun _ => x) (by omega) (fun _ _ => hx) bs bm G f B hB _) (addL (2700 + R) 50) (by rfl) WO (by (first | (simp only [addL_eq, addL_rec]; omega) | omega | exact Nat.le_refl _)) ?_
  intro w g D hS
  cases hgy : g y with
  | none =>
    repeat' ((conv => whnf); first
             | refine eqS_rfl ?_
             | refine eqA_rfl ?_
             | refine eqA_of (by assumption) ?_
             | refine eqS_of (by rfl) ?_
             | refine eqL_rfl ?_
             | refine eqJ_rfl ?_
             | refine flE_intro (fun _ _ => rfl) ?_
             | refine seS_rfl ?_
             | refine lsS_of hup ?_
             | refine lsS_rfl ?_
             | refine brS_tt ?_
             | refine brS_ff ?_
             | refine brS_not ?_
             | refine brS_t (iEq_self _) ?_
             | refine brS_t (by assumption) ?_
             | refine brS_f (by assumption) ?_
             | refine brS_intro (fun _ => ?_) (fun _ => ?_)
             | refine ltS_intro (by first | assumption | decide | exact Nat.le_of_ble_eq_true rfl | omega) ?_
             | refine ixS_of rfl (by first | assumption | decide | omega) ?_
             | refine okS_intro (by first | assumption | kernel_rfl) ?_
             | refine nzS_intro (by first | decide | assumption) ?_
             | refine kyS_of _ (keyC _ rfl) rfl ?_
             | refine hasS_none (gm_none (by assumption)) ?_
             | refine hasS_some (gm_some (by assumption)) ?_
             | refine call_in (n := 17) Try.func91 rfl rfl rfl rfl rfl rfl rfl ?_
             | intro _)
    conv => whnf
    exact ⟨by (first | (simp only [addL_eq, addL_rec]; omega) | omega | exact Nat.le_refl _), g, D, hS, .inl ⟨hgy, rfl, WV⟩⟩
  | some y1 =>
    have hy : g y ≠ none := by rw [hgy]; simp
    have hD := hS.D_lt hy
    repeat' ((conv => whnf); first
             | refine eqS_rfl ?_
             | refine eqA_rfl ?_
             | refine eqA_of (by assumption) ?_
             | refine eqS_of (by rfl) ?_
             | refine eqL_rfl ?_
             | refine eqJ_rfl ?_
             | refine flE_intro (fun _ _ => rfl) ?_
             | refine seS_rfl ?_
             | refine lsS_of hup ?_
             | refine lsS_rfl ?_
             | refine brS_tt ?_
             | refine brS_ff ?_
             | refine brS_not ?_
             | refine brS_t (iEq_self _) ?_
             | refine brS_t (by assumption) ?_
             | refine brS_f (by assumption) ?_
             | refine brS_intro (fun _ => ?_) (fun _ => ?_)
             | refine ltS_intro (by first | assumption | decide | exact Nat.le_of_ble_eq_true rfl | omega) ?_
             | refine ixS_of rfl (by first | assumption | decide | omega) ?_
             | refine okS_intro (by first | assumption | kernel_rfl) ?_
             | refine nzS_intro (by first | decide | assumption) ?_
             | refine kyS_of _ (keyC _ rfl) rfl ?_
             | refine hasS_none (gm_none (by assumption)) ?_
             | refine hasS_some (gm_some (by assumption)) ?_
             | refine call_in (n := 17) Try.func91 rfl rfl rfl rfl rfl rfl rfl ?_
             | intro _)
    rename_i bq2 b8
    conv => whnf
    refine loS_i (fun jj f mm R' ni => ∃ (k : Nat) (p : Option Addr) (b8 : Nat), k ≤ D y ∧ jj = D y - k + 1 ∧ f = [(0, .ptr 900 bs 0), (4, .ptr 3000 bx 0), (7, .sl 3500 p (k + 1) (k + 1)), (8, .ptr 3600 b8 0)] ∧ mm = [(3600, .own b8 50 (cl (pr g y k))), (3500, .gr p (k + 1) 50 2 (fun z => cl (pr g y z))), (3000, .own bx 50 (cl x)), (900, .own bs 100 [.int .i64 (Int.ofNat T), .sl 1000 a n c, G, .mpv 901 bm]), (901, .mp bm cv (gm g)), (1000, roR a n e ru)] ++ rest ∧ R' = addL (20 * (D y - k) + (1500 + R)) 30 ∧ ni = 4000) (D y + 1) (by omega)
      ⟨[(0, .ptr 900 bs 0), (4, .ptr 3000 bx 0), (7, .sl 3500 (some ⟨bq2, 0, none⟩) (0 + 1) (0 + 1)), (8, .ptr 3600 b8 0)], [(3600, .own b8 50 (cl (pr g y 0))), (3500, .gr (some ⟨bq2, 0, none⟩) (0 + 1) 50 2 (fun z => cl (pr g y z))), (3000, .own bx 50 (cl x)), (900, .own bs 100 [.int .i64 (Int.ofNat T), .sl 1000 a n c, G, .mpv 901 bm]), (901, .mp bm cv (gm g)), (1000, roR a n e ru)] ++ rest, addL (20 * (D y - 0) + (1500 + R)) 30, 4000, ⟨eqF_rfl _, eqF_rfl _, ⟨rfl, rfl⟩, ⟨rfl, rfl⟩, trivial⟩, WO, by (first | (simp only [addL_eq, addL_rec]; omega) | omega | exact Nat.le_refl _), 0, _, b8, by omega, by omega, rfl, rfl, rfl, rfl⟩ ?_
    rintro _ _ _ _ _ ⟨k, p, b8, hk, rfl, rfl, rfl, rfl, rfl⟩
    have hiff := hS.pr_ne hy hk
    by_cases hkD : k < D y
    · have hne : ¬ pr g y k = x := fun e => by have := hiff.1 e; omega
      have hsome := hS.pr_some hy hk
      have hg2 := grow2 (n := k + 1) (f := pr g y) (v := pr g y (k + 1)) rfl
      repeat' ((conv => whnf); first
               | refine eqS_rfl ?_
               | refine eqA_rfl ?_
               | refine eqA_of (by assumption) ?_
               | refine eqS_of (by rfl) ?_
               | refine eqL_rfl ?_
               | refine eqJ_rfl ?_
               | refine flE_intro (fun _ _ => rfl) ?_
               | refine seS_rfl ?_
               | refine lsS_of hup ?_
               | refine lsS_rfl ?_
               | refine brS_tt ?_
               | refine brS_ff ?_
               | refine brS_not ?_
               | refine brS_t (iEq_self _) ?_
               | refine brS_t (by assumption) ?_
               | refine brS_f (by assumption) ?_
               | refine brS_intro (fun _ => ?_) (fun _ => ?_)
               | refine ltS_intro (by first | assumption | decide | exact Nat.le_of_ble_eq_true rfl | omega) ?_
               | refine ixS_of rfl (by first | assumption | decide | omega) ?_
               | refine okS_intro (by first | assumption | kernel_rfl) ?_
               | refine nzS_intro (by first | decide | assumption) ?_
               | refine kyS_of _ (keyC _ rfl) rfl ?_
               | refine hasS_none (gm_none (by assumption)) ?_
               | refine hasS_some (gm_some (by assumption)) ?_
               | refine agS.mk (by kernel_rfl) ?_
               | refine eqvS_of (eqC_t (by assumption)) ?_
               | refine eqvS_of (eqC_f (by assumption)) ?_
               | refine ltS_intro (show (k + 1) * 2 + 2 < 32769 by omega) ?_
               | intro _)
      rename_i a9 b9
      conv => whnf
      exact ⟨D y - (k + 1) + 1, [(0, .ptr 900 bs 0), (4, .ptr 3000 bx 0), (7, .sl 3500 a9 ((k + 1) + 1) ((k + 1) + 1)), (8, .ptr 3600 b9 0)], [(3600, .own b9 50 (cl (pr g y (k + 1)))), (3500, .gr a9 ((k + 1) + 1) 50 2 (fun z => cl (pr g y z))), (3000, .own bx 50 (cl x)), (900, .own bs 100 [.int .i64 (Int.ofNat T), .sl 1000 a n c, G, .mpv 901 bm]), (901, .mp bm cv (gm g)), (1000, roR a n e ru)] ++ rest, addL (20 * (D y - (k + 1)) + (1500 + R)) 30, 4000, by omega, ⟨eqF_rfl _, eqF_rfl _, ⟨rfl, rfl⟩, ⟨rfl, rfl⟩, trivial⟩, WV, by (first | (simp only [addL_eq, addL_rec]; omega) | omega | exact Nat.le_refl _), k + 1, a9, b9, by omega, rfl, rfl, rfl, rfl, rfl⟩
    · have e2 : k = D y := by omega
      subst e2
      have heq : pr g y (D y) = x := hiff.2 rfl
      have hrv0 : ∀ z, z < D y + 1 → cl (pr g y z) = cl (rv (D y + 1) 0 (pr g y) z) := fun z hz => by unfold rv; rw [if_neg (by omega)]
      have el := len1 (n := D y + 1) (by omega) (by omega)
      repeat' ((conv => whnf); first
               | refine eqS_rfl ?_
               | refine eqA_rfl ?_
               | refine eqA_of (by assumption) ?_
               | refine eqS_of (by rfl) ?_
               | refine eqL_rfl ?_
               | refine eqJ_rfl ?_
               | refine flE_intro (fun _ _ => rfl) ?_
               | refine seS_rfl ?_
               | refine lsS_of hup ?_
               | refine lsS_rfl ?_
               | refine brS_tt ?_
               | refine brS_ff ?_
               | refine brS_not ?_
               | refine brS_t (iEq_self _) ?_
               | refine brS_t (by assumption) ?_
               | refine brS_f (by assumption) ?_
               | refine brS_intro (fun _ => ?_) (fun _ => ?_)
               | refine ltS_intro (by first | assumption | decide | exact Nat.le_of_ble_eq_true rfl | omega) ?_
               | refine ixS_of rfl (by first | assumption | decide | omega) ?_
               | refine okS_intro (by first | assumption | kernel_rfl) ?_
               | refine nzS_intro (by first | decide | assumption) ?_
               | refine kyS_of _ (keyC _ rfl) rfl ?_
               | refine hasS_none (gm_none (by assumption)) ?_
               | refine hasS_some (gm_some (by assumption)) ?_
               | refine agS.mk (by kernel_rfl) ?_
               | refine eqvS_of (eqC_t (by assumption)) ?_
               | refine eqvS_of (eqC_f (by assumption)) ?_
               | refine call_in (n := 28) Try.func92 rfl rfl rfl rfl rfl rfl rfl ?_
               | intro _)
      conv => whnf
      refine loS_i (fun jj f mm R' ni => ∃ t : Nat, t ≤ D y ∧ jj = D y - t + 1 ∧ f = [(0, .sl 3500 p (D y + 1) (D y + 1)), (2, .int .i64 (Int.ofNat t)), (3, .int .i64 (Int.ofNat (D y + 1 - 1 - t)))] ∧ mm = [(3500, .gr p (D y + 1) 50 2 (fun z => cl (rv (D y + 1) t (pr g y) z))), (900, .own bs 100 [.int .i64 (Int.ofNat T), .sl 1000 a n c, G, .mpv 901 bm]), (901, .mp bm cv (gm g)), (1000, roR a n e ru)] ++ rest ∧ R' = addL (30 * (D y - t) + R) 30 ∧ ni = 5000) (D y + 1) (by omega)
        ⟨[(0, .sl 3500 p (D y + 1) (D y + 1)), (2, .int .i64 (Int.ofNat 0)), (3, .int .i64 (Int.ofNat (D y + 1 - 1 - 0)))], [(3500, .gr p (D y + 1) 50 2 (fun z => cl (rv (D y + 1) 0 (pr g y) z))), (900, .own bs 100 [.int .i64 (Int.ofNat T), .sl 1000 a n c, G, .mpv 901 bm]), (901, .mp bm cv (gm g)), (1000, roR a n e ru)] ++ rest, addL (30 * (D y - 0) + R) 30, 5000, ⟨eqF_rfl _, eqF_rfl _, ⟨congrArg (Value.int .i64) el, rfl⟩, trivial⟩, WV, by (first | (simp only [addL_eq, addL_rec]; omega) | omega | exact Nat.le_refl _), 0, by omega, by omega, rfl, rfl, rfl, rfl⟩ ?_
      rintro _ _ _ _ _ ⟨t, ht, rfl, rfl, rfl, rfl, rfl⟩
      by_cases htj : t < D y + 1 - 1 - t
      · have h1 := iLt_t htj
        have hsw := rv_swap (L := D y + 1) (f := pr g y) htj
        have el2 := len1 (n := D y + 1 - 1 - t) (by omega) (by omega)
        have q1 : t < D y + 1 := by omega
        have q2 : D y + 1 - 1 - t < D y + 1 := by omega
        have e5 : D y + 1 - 1 - t - 1 = D y + 1 - 1 - (t + 1) := by omega
        have hup : updG t (cl (rv (D y + 1) t (pr g y) (D y + 1 - 1 - t))) (fun z => cl (rv (D y + 1) t (pr g y) z)) (D y + 1 - 1 - t) = cl (rv (D y + 1) t (pr g y) (D y + 1 - 1 - t)) := updG_other (by omega)
        repeat' ((conv => whnf); first
                 | refine eqS_rfl ?_
                 | refine eqA_rfl ?_
                 | refine eqA_of (by assumption) ?_
                 | refine eqS_of (by rfl) ?_
                 | refine eqL_rfl ?_
                 | refine eqJ_rfl ?_
                 | refine flE_intro (fun _ _ => rfl) ?_
                 | refine seS_rfl ?_
                 | refine lsS_of hup ?_
                 | refine lsS_rfl ?_
                 | refine brS_tt ?_
                 | refine brS_ff ?_
                 | refine brS_not ?_
                 | refine brS_t (iEq_self _) ?_
                 | refine brS_t (by assumption) ?_
                 | refine brS_f (by assumption) ?_
                 | refine brS_intro (fun _ => ?_) (fun _ => ?_)
                 | refine ltS_intro (by first | assumption | decide | exact Nat.le_of_ble_eq_true rfl | omega) ?_
                 | refine ixS_of rfl (by first | assumption | decide | omega) ?_
                 | refine okS_intro (by first | assumption | kernel_rfl) ?_
                 | refine nzS_intro (by first | decide | assumption) ?_
                 | refine kyS_of _ (keyC _ rfl) rfl ?_
                 | refine hasS_none (gm_none (by assumption)) ?_
                 | refine hasS_some (gm_some (by assumption)) ?_
                 | intro _)
        conv => whnf
        exact ⟨D y - (t + 1) + 1, [(0, .sl 3500 p (D y + 1) (D y + 1)), (2, .int .i64 (Int.ofNat (t + 1))), (3, .int .i64 (Int.ofNat (D y + 1 - 1 - (t + 1))))], [(3500, .gr p (D y + 1) 50 2 (fun z => cl (rv (D y + 1) (t + 1) (pr g y) z))), (900, .own bs 100 [.int .i64 (Int.ofNat T), .sl 1000 a n c, G, .mpv 901 bm]), (901, .mp bm cv (gm g)), (1000, roR a n e ru)] ++ rest, addL (30 * (D y - (t + 1)) + R) 30, 5000, by omega, ⟨eqF_rfl _, ⟨congrArg (Value.int .i64) (smn (i := t + 1) (by omega)), rfl⟩, ⟨congrArg (Value.int .i64) (el2.trans (congrArg Int.ofNat e5)), rfl⟩, trivial⟩, WV, by (first | (simp only [addL_eq, addL_rec]; omega) | omega | exact Nat.le_refl _), t + 1, by omega, rfl, rfl, rfl, rfl, rfl⟩
      · have h1 := iLt_f (show D y + 1 - 1 - t ≤ t by omega)
        have hrd := rv_done (L := D y + 1) (t := t) (f := pr g y) (by omega)
        repeat' ((conv => whnf); first
                 | refine eqS_rfl ?_
                 | refine eqA_rfl ?_
                 | refine eqA_of (by assumption) ?_
                 | refine eqS_of (by rfl) ?_
                 | refine eqL_rfl ?_
                 | refine eqJ_rfl ?_
                 | refine flE_intro (fun _ _ => rfl) ?_
                 | refine seS_rfl ?_
                 | refine lsS_of hup ?_
                 | refine lsS_rfl ?_
                 | refine brS_tt ?_
                 | refine brS_ff ?_
                 | refine brS_not ?_
                 | refine brS_t (iEq_self _) ?_
                 | refine brS_t (by assumption) ?_
                 | refine brS_f (by assumption) ?_
                 | refine brS_intro (fun _ => ?_) (fun _ => ?_)
                 | refine ltS_intro (by first | assumption | decide | exact Nat.le_of_ble_eq_true rfl | omega) ?_
                 | refine ixS_of rfl (by first | assumption | decide | omega) ?_
                 | refine okS_intro (by first | assumption | kernel_rfl) ?_
                 | refine nzS_intro (by first | decide | assumption) ?_
                 | refine kyS_of _ (keyC _ rfl) rfl ?_
                 | refine hasS_none (gm_none (by assumption)) ?_
                 | refine hasS_some (gm_some (by assumption)) ?_
                 | intro _)
        conv => whnf
        exact ⟨by (first | (simp only [addL_eq, addL_rec]; omega) | omega | exact Nat.le_refl _), g, D, hS, .inr ⟨hy, p, rfl, WV⟩⟩
end Go.Proofs.Ytoocmgefoagfnaa
namespace Go.Proofs.Ytoocmgefoagfnaa
open Go.Ab
attribute [local irreducible] aggOk drwOK
set_option maxRecDepth 100000
set_option maxHeartbeats 4000000
set_option linter.unusedVariables false
set_option linter.unusedSimpArgs false
theorem WP {m m' : Mem} (h : WkM m m' := by refine Sel.wk ?_; (try simp only [List.cons_append, List.nil_append]); repeat' (first | exact Sel.nil | exact Sel.all | exact Sel.left | refine Sel.cons Pick.here ?_ | refine Sel.cons (Pick.there Pick.here) ?_ | refine Sel.cons (Pick.there (Pick.there Pick.here)) ?_ | refine Sel.cons (Pick.there (Pick.there (Pick.there Pick.here))) ?_ | refine Sel.cons (Pick.there (Pick.there (Pick.there (Pick.there Pick.here)))) ?_ | refine Sel.cons (Pick.there (Pick.there (Pick.there (Pick.there (Pick.there Pick.here))))) ?_ | refine Sel.cons (Pick.there (Pick.there (Pick.there (Pick.there (Pick.there (Pick.there Pick.here)))))) ?_ | refine Sel.cons (Pick.there (Pick.there (Pick.there (Pick.there (Pick.there (Pick.there (Pick.there Pick.here))))))) ?_ | refine Sel.cons (Pick.there (Pick.there (Pick.there (Pick.there (Pick.there (Pick.there (Pick.there (Pick.there Pick.here)))))))) ?_ | refine Sel.cons (Pick.there (Pick.there (Pick.there (Pick.there (Pick.there (Pick.there (Pick.there (Pick.there (Pick.there Pick.here))))))))) ?_ | refine Sel.cons (Pick.there (Pick.there (Pick.there (Pick.there (Pick.there (Pick.there (Pick.there (Pick.there (Pick.there (Pick.there Pick.here)))))))))) ?_ | refine Sel.cons (Pick.there (Pick.there (Pick.there (Pick.there (Pick.there (Pick.there (Pick.there (Pick.there (Pick.there (Pick.there (Pick.there Pick.here))))))))))) ?_ | refine Sel.cons (Pick.there (Pick.there (Pick.there (Pick.there (Pick.there (Pick.there (Pick.there (Pick.there (Pick.there (Pick.there (Pick.there (Pick.there Pick.here)))))))))))) ?_ | refine Sel.cons (Pick.there (Pick.there (Pick.there (Pick.there (Pick.there (Pick.there (Pick.there (Pick.there (Pick.there (Pick.there (Pick.there (Pick.there (Pick.there Pick.here))))))))))))) ?_ | refine Sel.cons (Pick.there (Pick.there (Pick.there (Pick.there (Pick.there (Pick.there (Pick.there (Pick.there (Pick.there (Pick.there (Pick.there (Pick.there (Pick.there (Pick.there Pick.here)))))))))))))) ?_ | refine Sel.cons (Pick.there (Pick.there (Pick.there (Pick.there (Pick.there (Pick.there (Pick.there (Pick.there (Pick.there (Pick.there (Pick.there (Pick.there (Pick.there (Pick.there (Pick.there Pick.here))))))))))))))) ?_ | refine Sel.consw Pick.here ⟨rfl, rfl, rfl⟩ ?_ | refine Sel.consw (Pick.there Pick.here) ⟨rfl, rfl, rfl⟩ ?_ | refine Sel.consw (Pick.there (Pick.there Pick.here)) ⟨rfl, rfl, rfl⟩ ?_ | refine Sel.consw (Pick.there (Pick.there (Pick.there Pick.here))) ⟨rfl, rfl, rfl⟩ ?_ | refine Sel.consw (Pick.there (Pick.there (Pick.there (Pick.there Pick.here)))) ⟨rfl, rfl, rfl⟩ ?_ | refine Sel.consw (Pick.there (Pick.there (Pick.there (Pick.there (Pick.there Pick.here))))) ⟨rfl, rfl, rfl⟩ ?_ | refine Sel.consw (Pick.there (Pick.there (Pick.there (Pick.there (Pick.there (Pick.there Pick.here)))))) ⟨rfl, rfl, rfl⟩ ?_ | refine Sel.consw (Pick.there (Pick.there (Pick.there (Pick.there (Pick.there (Pick.there (Pick.there Pick.here))))))) ⟨rfl, rfl, rfl⟩ ?_ | refine Sel.consw (Pick.there (Pick.there (Pick.there (Pick.there (Pick.there (Pick.there (Pick.there (Pick.there Pick.here)))))))) ⟨rfl, rfl, rfl⟩ ?_ | refine Sel.consw (Pick.there (Pick.there (Pick.there (Pick.there (Pick.there (Pick.there (Pick.there (Pick.there (Pick.there Pick.here))))))))) ⟨rfl, rfl, rfl⟩ ?_ | refine Sel.consw (Pick.there (Pick.there (Pick.there (Pick.there (Pick.there (Pick.there (Pick.there (Pick.there (Pick.there (Pick.there Pick.here)))))))))) ⟨rfl, rfl, rfl⟩ ?_ | refine Sel.consw (Pick.there (Pick.there (Pick.there (Pick.there (Pick.there (Pick.there (Pick.there (Pick.there (Pick.there (Pick.there (Pick.there Pick.here))))))))))) ⟨rfl, rfl, rfl⟩ ?_ | refine Sel.consw (Pick.there (Pick.there (Pick.there (Pick.there (Pick.there (Pick.there (Pick.there (Pick.there (Pick.there (Pick.there (Pick.there (Pick.there Pick.here)))))))))))) ⟨rfl, rfl, rfl⟩ ?_ | refine Sel.consw (Pick.there (Pick.there (Pick.there (Pick.there (Pick.there (Pick.there (Pick.there (Pick.there (Pick.there (Pick.there (Pick.there (Pick.there (Pick.there Pick.here))))))))))))) ⟨rfl, rfl, rfl⟩ ?_ | refine Sel.consw (Pick.there (Pick.there (Pick.there (Pick.there (Pick.there (Pick.there (Pick.there (Pick.there (Pick.there (Pick.there (Pick.there (Pick.there (Pick.there (Pick.there Pick.here)))))))))))))) ⟨rfl, rfl, rfl⟩ ?_ | refine Sel.consw (Pick.there (Pick.there (Pick.there (Pick.there (Pick.there (Pick.there (Pick.there (Pick.there (Pick.there (Pick.there (Pick.there (Pick.there (Pick.there (Pick.there (Pick.there Pick.here))))))))))))))) ⟨rfl, rfl, rfl⟩ ?_ | refine Sel.consw Pick.here ⟨rfl, rfl, rfl, rfl, by assumption⟩ ?_ | refine Sel.consw (Pick.there Pick.here) ⟨rfl, rfl, rfl, rfl, by assumption⟩ ?_ | refine Sel.consw (Pick.there (Pick.there Pick.here)) ⟨rfl, rfl, rfl, rfl, by assumption⟩ ?_ | refine Sel.consw (Pick.there (Pick.there (Pick.there Pick.here))) ⟨rfl, rfl, rfl, rfl, by assumption⟩ ?_ | refine Sel.consw (Pick.there (Pick.there (Pick.there (Pick.there Pick.here)))) ⟨rfl, rfl, rfl, rfl, by assumption⟩ ?_ | refine Sel.consw (Pick.there (Pick.there (Pick.there (Pick.there (Pick.there Pick.here))))) ⟨rfl, rfl, rfl, rfl, by assumption⟩ ?_ | refine Sel.consw (Pick.there (Pick.there (Pick.there (Pick.there (Pick.there (Pick.there Pick.here)))))) ⟨rfl, rfl, rfl, rfl, by assumption⟩ ?_ | refine Sel.consw (Pick.there (Pick.there (Pick.there (Pick.there (Pick.there (Pick.there (Pick.there Pick.here))))))) ⟨rfl, rfl, rfl, rfl, by assumption⟩ ?_ | refine Sel.consw (Pick.there (Pick.there (Pick.there (Pick.there (Pick.there (Pick.there (Pick.there (Pick.there Pick.here)))))))) ⟨rfl, rfl, rfl, rfl, by assumption⟩ ?_ | refine Sel.consw (Pick.there (Pick.there (Pick.there (Pick.there (Pick.there (Pick.there (Pick.there (Pick.there (Pick.there Pick.here))))))))) ⟨rfl, rfl, rfl, rfl, by assumption⟩ ?_ | refine Sel.consw (Pick.there (Pick.there (Pick.there (Pick.there (Pick.there (Pick.there (Pick.there (Pick.there (Pick.there (Pick.there Pick.here)))))))))) ⟨rfl, rfl, rfl, rfl, by assumption⟩ ?_ | refine Sel.consw (Pick.there (Pick.there (Pick.there (Pick.there (Pick.there (Pick.there (Pick.there (Pick.there (Pick.there (Pick.there (Pick.there Pick.here))))))))))) ⟨rfl, rfl, rfl, rfl, by assumption⟩ ?_ | refine Sel.consw (Pick.there (Pick.there (Pick.there (Pick.there (Pick.there (Pick.there (Pick.there (Pick.there (Pick.there (Pick.there (Pick.there (Pick.there Pick.here)))))))))))) ⟨rfl, rfl, rfl, rfl, by assumption⟩ ?_ | refine Sel.consw (Pick.there (Pick.there (Pick.there (Pick.there (Pick.there (Pick.there (Pick.there (Pick.there (Pick.there (Pick.there (Pick.there (Pick.there (Pick.there Pick.here))))))))))))) ⟨rfl, rfl, rfl, rfl, by assumption⟩ ?_ | refine Sel.consw (Pick.there (Pick.there (Pick.there (Pick.there (Pick.there (Pick.there (Pick.there (Pick.there (Pick.there (Pick.there (Pick.there (Pick.there (Pick.there (Pick.there Pick.here)))))))))))))) ⟨rfl, rfl, rfl, rfl, by assumption⟩ ?_ | refine Sel.consw (Pick.there (Pick.there (Pick.there (Pick.there (Pick.there (Pick.there (Pick.there (Pick.there (Pick.there (Pick.there (Pick.there (Pick.there (Pick.there (Pick.there (Pick.there Pick.here))))))))))))))) ⟨rfl, rfl, rfl, rfl, by assumption⟩ ?_ | refine Sel.consw Pick.here ⟨rfl, rfl, rfl, .inl rfl, fun _ _ => rfl⟩ ?_ | refine Sel.consw (Pick.there Pick.here) ⟨rfl, rfl, rfl, .inl rfl, fun _ _ => rfl⟩ ?_ | refine Sel.consw (Pick.there (Pick.there Pick.here)) ⟨rfl, rfl, rfl, .inl rfl, fun _ _ => rfl⟩ ?_ | refine Sel.consw (Pick.there (Pick.there (Pick.there Pick.here))) ⟨rfl, rfl, rfl, .inl rfl, fun _ _ => rfl⟩ ?_ | refine Sel.consw (Pick.there (Pick.there (Pick.there (Pick.there Pick.here)))) ⟨rfl, rfl, rfl, .inl rfl, fun _ _ => rfl⟩ ?_ | refine Sel.consw (Pick.there (Pick.there (Pick.there (Pick.there (Pick.there Pick.here))))) ⟨rfl, rfl, rfl, .inl rfl, fun _ _ => rfl⟩ ?_ | refine Sel.consw (Pick.there (Pick.there (Pick.there (Pick.there (Pick.there (Pick.there Pick.here)))))) ⟨rfl, rfl, rfl, .inl rfl, fun _ _ => rfl⟩ ?_ | refine Sel.consw (Pick.there (Pick.there (Pick.there (Pick.there (Pick.there (Pick.there (Pick.there Pick.here))))))) ⟨rfl, rfl, rfl, .inl rfl, fun _ _ => rfl⟩ ?_ | refine Sel.consw (Pick.there (Pick.there (Pick.there (Pick.there (Pick.there (Pick.there (Pick.there (Pick.there Pick.here)))))))) ⟨rfl, rfl, rfl, .inl rfl, fun _ _ => rfl⟩ ?_ | refine Sel.consw (Pick.there (Pick.there (Pick.there (Pick.there (Pick.there (Pick.there (Pick.there (Pick.there (Pick.there Pick.here))))))))) ⟨rfl, rfl, rfl, .inl rfl, fun _ _ => rfl⟩ ?_ | refine Sel.consw (Pick.there (Pick.there (Pick.there (Pick.there (Pick.there (Pick.there (Pick.there (Pick.there (Pick.there (Pick.there Pick.here)))))))))) ⟨rfl, rfl, rfl, .inl rfl, fun _ _ => rfl⟩ ?_ | refine Sel.consw (Pick.there (Pick.there (Pick.there (Pick.there (Pick.there (Pick.there (Pick.there (Pick.there (Pick.there (Pick.there (Pick.there Pick.here))))))))))) ⟨rfl, rfl, rfl, .inl rfl, fun _ _ => rfl⟩ ?_ | refine Sel.consw (Pick.there (Pick.there (Pick.there (Pick.there (Pick.there (Pick.there (Pick.there (Pick.there (Pick.there (Pick.there (Pick.there (Pick.there Pick.here)))))))))))) ⟨rfl, rfl, rfl, .inl rfl, fun _ _ => rfl⟩ ?_ | refine Sel.consw (Pick.there (Pick.there (Pick.there (Pick.there (Pick.there (Pick.there (Pick.there (Pick.there (Pick.there (Pick.there (Pick.there (Pick.there (Pick.there Pick.here))))))))))))) ⟨rfl, rfl, rfl, .inl rfl, fun _ _ => rfl⟩ ?_ | refine Sel.consw (Pick.there (Pick.there (Pick.there (Pick.there (Pick.there (Pick.there (Pick.there (Pick.there (Pick.there (Pick.there (Pick.there (Pick.there (Pick.there (Pick.there Pick.here)))))))))))))) ⟨rfl, rfl, rfl, .inl rfl, fun _ _ => rfl⟩ ?_ | refine Sel.consw (Pick.there (Pick.there (Pick.there (Pick.there (Pick.there (Pick.there (Pick.there (Pick.there (Pick.there (Pick.there (Pick.there (Pick.there (Pick.there (Pick.there (Pick.there Pick.here))))))))))))))) ⟨rfl, rfl, rfl, .inl rfl, fun _ _ => rfl⟩ ?_ | refine Sel.consw Pick.here ⟨rfl, rfl, rfl, .inr rfl, fun _ _ => rfl⟩ ?_ | refine Sel.consw (Pick.there Pick.here) ⟨rfl, rfl, rfl, .inr rfl, fun _ _ => rfl⟩ ?_ | refine Sel.consw (Pick.there (Pick.there Pick.here)) ⟨rfl, rfl, rfl, .inr rfl, fun _ _ => rfl⟩ ?_ | refine Sel.consw (Pick.there (Pick.there (Pick.there Pick.here))) ⟨rfl, rfl, rfl, .inr rfl, fun _ _ => rfl⟩ ?_ | refine Sel.consw (Pick.there (Pick.there (Pick.there (Pick.there Pick.here)))) ⟨rfl, rfl, rfl, .inr rfl, fun _ _ => rfl⟩ ?_ | refine Sel.consw (Pick.there (Pick.there (Pick.there (Pick.there (Pick.there Pick.here))))) ⟨rfl, rfl, rfl, .inr rfl, fun _ _ => rfl⟩ ?_ | refine Sel.consw (Pick.there (Pick.there (Pick.there (Pick.there (Pick.there (Pick.there Pick.here)))))) ⟨rfl, rfl, rfl, .inr rfl, fun _ _ => rfl⟩ ?_ | refine Sel.consw (Pick.there (Pick.there (Pick.there (Pick.there (Pick.there (Pick.there (Pick.there Pick.here))))))) ⟨rfl, rfl, rfl, .inr rfl, fun _ _ => rfl⟩ ?_ | refine Sel.consw (Pick.there (Pick.there (Pick.there (Pick.there (Pick.there (Pick.there (Pick.there (Pick.there Pick.here)))))))) ⟨rfl, rfl, rfl, .inr rfl, fun _ _ => rfl⟩ ?_ | refine Sel.consw (Pick.there (Pick.there (Pick.there (Pick.there (Pick.there (Pick.there (Pick.there (Pick.there (Pick.there Pick.here))))))))) ⟨rfl, rfl, rfl, .inr rfl, fun _ _ => rfl⟩ ?_ | refine Sel.consw (Pick.there (Pick.there (Pick.there (Pick.there (Pick.there (Pick.there (Pick.there (Pick.there (Pick.there (Pick.there Pick.here)))))))))) ⟨rfl, rfl, rfl, .inr rfl, fun _ _ => rfl⟩ ?_ | refine Sel.consw (Pick.there (Pick.there (Pick.there (Pick.there (Pick.there (Pick.there (Pick.there (Pick.there (Pick.there (Pick.there (Pick.there Pick.here))))))))))) ⟨rfl, rfl, rfl, .inr rfl, fun _ _ => rfl⟩ ?_ | refine Sel.consw (Pick.there (Pick.there (Pick.there (Pick.there (Pick.there (Pick.there (Pick.there (Pick.there (Pick.there (Pick.there (Pick.there (Pick.there Pick.here)))))))))))) ⟨rfl, rfl, rfl, .inr rfl, fun _ _ => rfl⟩ ?_ | refine Sel.consw (Pick.there (Pick.there (Pick.there (Pick.there (Pick.there (Pick.there (Pick.there (Pick.there (Pick.there (Pick.there (Pick.there (Pick.there (Pick.there Pick.here))))))))))))) ⟨rfl, rfl, rfl, .inr rfl, fun _ _ => rfl⟩ ?_ | refine Sel.consw (Pick.there (Pick.there (Pick.there (Pick.there (Pick.there (Pick.there (Pick.there (Pick.there (Pick.there (Pick.there (Pick.there (Pick.there (Pick.there (Pick.there Pick.here)))))))))))))) ⟨rfl, rfl, rfl, .inr rfl, fun _ _ => rfl⟩ ?_ | refine Sel.consw (Pick.there (Pick.there (Pick.there (Pick.there (Pick.there (Pick.there (Pick.there (Pick.there (Pick.there (Pick.there (Pick.there (Pick.there (Pick.there (Pick.there (Pick.there Pick.here))))))))))))))) ⟨rfl, rfl, rfl, .inr rfl, fun _ _ => rfl⟩ ?_ | refine Sel.consw Pick.here ⟨rfl, .inl ⟨rfl, by assumption⟩⟩ ?_ | refine Sel.consw (Pick.there Pick.here) ⟨rfl, .inl ⟨rfl, by assumption⟩⟩ ?_ | refine Sel.consw (Pick.there (Pick.there Pick.here)) ⟨rfl, .inl ⟨rfl, by assumption⟩⟩ ?_ | refine Sel.consw (Pick.there (Pick.there (Pick.there Pick.here))) ⟨rfl, .inl ⟨rfl, by assumption⟩⟩ ?_ | refine Sel.consw (Pick.there (Pick.there (Pick.there (Pick.there Pick.here)))) ⟨rfl, .inl ⟨rfl, by assumption⟩⟩ ?_ | refine Sel.consw (Pick.there (Pick.there (Pick.there (Pick.there (Pick.there Pick.here))))) ⟨rfl, .inl ⟨rfl, by assumption⟩⟩ ?_ | refine Sel.consw (Pick.there (Pick.there (Pick.there (Pick.there (Pick.there (Pick.there Pick.here)))))) ⟨rfl, .inl ⟨rfl, by assumption⟩⟩ ?_ | refine Sel.consw (Pick.there (Pick.there (Pick.there (Pick.there (Pick.there (Pick.there (Pick.there Pick.here))))))) ⟨rfl, .inl ⟨rfl, by assumption⟩⟩ ?_ | refine Sel.consw Pick.here ⟨rfl, .inr ⟨fun _ => rfl, fun _ => rfl⟩⟩ ?_ | refine Sel.consw (Pick.there Pick.here) ⟨rfl, .inr ⟨fun _ => rfl, fun _ => rfl⟩⟩ ?_ | refine Sel.consw (Pick.there (Pick.there Pick.here)) ⟨rfl, .inr ⟨fun _ => rfl, fun _ => rfl⟩⟩ ?_ | refine Sel.consw (Pick.there (Pick.there (Pick.there Pick.here))) ⟨rfl, .inr ⟨fun _ => rfl, fun _ => rfl⟩⟩ ?_ | refine Sel.consw (Pick.there (Pick.there (Pick.there (Pick.there Pick.here)))) ⟨rfl, .inr ⟨fun _ => rfl, fun _ => rfl⟩⟩ ?_ | refine Sel.consw (Pick.there (Pick.there (Pick.there (Pick.there (Pick.there Pick.here))))) ⟨rfl, .inr ⟨fun _ => rfl, fun _ => rfl⟩⟩ ?_ | refine Sel.consw (Pick.there (Pick.there (Pick.there (Pick.there (Pick.there (Pick.there Pick.here)))))) ⟨rfl, .inr ⟨fun _ => rfl, fun _ => rfl⟩⟩ ?_ | refine Sel.consw (Pick.there (Pick.there (Pick.there (Pick.there (Pick.there (Pick.there (Pick.there Pick.here))))))) ⟨rfl, .inr ⟨fun _ => rfl, fun _ => rfl⟩⟩ ?_ | refine Sel.consw Pick.here ⟨rfl, rfl, rfl, .inl rfl, hpg _⟩ ?_ | refine Sel.consw (Pick.there Pick.here) ⟨rfl, rfl, rfl, .inl rfl, hpg _⟩ ?_ | refine Sel.consw (Pick.there (Pick.there Pick.here)) ⟨rfl, rfl, rfl, .inl rfl, hpg _⟩ ?_ | refine Sel.consw (Pick.there (Pick.there (Pick.there Pick.here))) ⟨rfl, rfl, rfl, .inl rfl, hpg _⟩ ?_ | refine Sel.consw (Pick.there (Pick.there (Pick.there (Pick.there Pick.here)))) ⟨rfl, rfl, rfl, .inl rfl, hpg _⟩ ?_ | refine Sel.consw (Pick.there (Pick.there (Pick.there (Pick.there (Pick.there Pick.here))))) ⟨rfl, rfl, rfl, .inl rfl, hpg _⟩ ?_ | refine Sel.snoc Pick.here ?_ | refine Sel.snoc (Pick.there Pick.here) ?_ | refine Sel.snoc (Pick.there (Pick.there Pick.here)) ?_ | refine Sel.snoc (Pick.there (Pick.there (Pick.there Pick.here))) ?_ | refine Sel.snoc (Pick.there (Pick.there (Pick.there (Pick.there Pick.here)))) ?_ | refine Sel.snoc (Pick.there (Pick.there (Pick.there (Pick.there (Pick.there Pick.here))))) ?_ | refine Sel.snoc (Pick.there (Pick.there (Pick.there (Pick.there (Pick.there (Pick.there Pick.here)))))) ?_ | refine Sel.snoc (Pick.there (Pick.there (Pick.there (Pick.there (Pick.there (Pick.there (Pick.there Pick.here))))))) ?_ | refine Sel.snoc (Pick.there (Pick.there (Pick.there (Pick.there (Pick.there (Pick.there (Pick.there (Pick.there Pick.here)))))))) ?_ | refine Sel.snoc (Pick.there (Pick.there (Pick.there (Pick.there (Pick.there (Pick.there (Pick.there (Pick.there (Pick.there Pick.here))))))))) ?_ | refine Sel.snoc (Pick.there (Pick.there (Pick.there (Pick.there (Pick.there (Pick.there (Pick.there (Pick.there (Pick.there (Pick.there Pick.here)))))))))) ?_ | refine Sel.snoc (Pick.there (Pick.there (Pick.there (Pick.there (Pick.there (Pick.there (Pick.there (Pick.there (Pick.there (Pick.there (Pick.there Pick.here))))))))))) ?_ | refine Sel.snoc (Pick.there (Pick.there (Pick.there (Pick.there (Pick.there (Pick.there (Pick.there (Pick.there (Pick.there (Pick.there (Pick.there (Pick.there Pick.here)))))))))))) ?_ | refine Sel.snoc (Pick.there (Pick.there (Pick.there (Pick.there (Pick.there (Pick.there (Pick.there (Pick.there (Pick.there (Pick.there (Pick.there (Pick.there (Pick.there Pick.here))))))))))))) ?_ | refine Sel.snoc (Pick.there (Pick.there (Pick.there (Pick.there (Pick.there (Pick.there (Pick.there (Pick.there (Pick.there (Pick.there (Pick.there (Pick.there (Pick.there (Pick.there Pick.here)))))))))))))) ?_ | refine Sel.snoc (Pick.there (Pick.there (Pick.there (Pick.there (Pick.there (Pick.there (Pick.there (Pick.there (Pick.there (Pick.there (Pick.there (Pick.there (Pick.there (Pick.there (Pick.there Pick.here))))))))))))))) ?_ | refine Sel.drop ?_)) : WkM m m' := h
/-- a slice that is only read may be read twice -/
theorem WkM.dup {i j n c sz : Nat} {a : Option Addr} {f : Nat → List SV} {m : Mem} : WkM ((i, .ro a n c sz f) :: m) ((j, .ro a n c sz f) :: (i, .ro a n c sz f) :: m) := fun X Z s0 R s hm =>
  hm.cons (hm.ent (i, .ro a n c sz f) (by simp)) fun x hx => by
    rcases List.mem_cons.1 hx with rfl | hx
    · exact ⟨fun b hb => hb.elim, fun b hb => hb.elim, fun b _ hb => hb⟩
    · exact (List.pairwise_cons.1 hm.dis).1 x hx
theorem putG_all {n2 : Nat} {h g0 : Nat → List SV} : ∀ j, j < n2 → putG 0 n2 h g0 j = h j := fun j hj => by
  have := putG_in (p := 0) (h := h) (g := g0) hj
  rw [Nat.zero_add] at this; exact this
theorem c83 (F d : Nat) (T : Nat) (hF : 2 * T + 400 < F) (hT : T ≤ 24) (a : Option Addr) (n e c : Nat) (hn : n ≤ 80) (ru : Nat → Nat × Nat) (hr : ∀ j, j < n → (ru j).1 < 2 * T ∧ (ru j).2 < 2 * T) (a2 : Option Addr) (n2 e2 c2 : Nat) (mo : Nat → Nat) (hpos : 0 < n2) (hn2 : n2 ≤ 24) (hmo : ∀ j, j < n2 → mo j < 2 * T) (bs bm : Nat) (f : Nat → Option SV) (B : Nat) (hB : 200 * n + 400 ≤ B) (rest : Mem) (R : Nat) :
    callS (CL F (d + 6)) (.fn 83 [] []) [.ptr 900 bs 0, .sl 1001 a2 n2 c2] ([(900, .own bs 100 [.int .i64 (Int.ofNat T), .sl 1000 a n c, .val (.slice none 0 0), .mpv 901 bm]), (901, .mp bm cv f), (1000, roR a n e ru), (1001, roC a2 n2 e2 mo)] ++ rest) (addL R (B * (2 * T + 1) + 3000)) 1000 fun w m' R' _ => R ≤ R' ∧ ∃ g D, RS ru n T mo n2 g D ∧ den w = .bool (decide (∀ i, i < n2 → g (ng (mo i)) = none)) ∧ WkM m' ([(900, .own bs 100 [.int .i64 (Int.ofNat T), .sl 1000 a n c, .val (.slice none 0 0), .mpv 901 bm]), (901, .mp bm cv (gm g)), (1000, roR a n e ru), (1001, roC a2 n2 e2 mo)] ++ rest) := by
  rw [addL_eq, show R + (B * (2 * T + 1) + 3000) = B * (2 * T + 1) + 2900 + R + 100 by omega, ← addL_eq _ 100]
  refine callS.ni 3000 ?_
  have sz0 : wr .i64 (Int.add 0 (Int.ofNat 0)) = Int.ofNat 0 := rfl
  have szn : wr .i64 (Int.add (Int.ofNat 0) (Int.ofNat n2)) = Int.ofNat n2 := (smn (i := 0 + n2) (by omega)).trans (by rw [Nat.zero_add])
  have sz1 : iLt (wr .i64 (Int.add 0 (Int.ofNat 0))) 0 = false := rfl
  have sz2 : iLt (wr .i64 (Int.add (wr .i64 (Int.add 0 (Int.ofNat 0))) (Int.ofNat n2))) 0 = false := by rw [sz0, szn]; exact iLt_0 _
  have e5 : wr .i64 (Int.sub (wr .i64 (Int.add (wr .i64 (Int.add 0 (Int.ofNat 0))) (Int.ofNat n2))) (wr .i64 (Int.sub (Int.ofNat 0) (Int.ofNat 0)))) = Int.ofNat n2 := by
    rw [sz0, szn]
    exact (sm (n := (n2 : Int) - 0) (by omega)).trans (by show (n2 : Int) - 0 = (n2 : Int); omega)
  have sz5 := e5
  have sz4 : iLt 0 (wr .i64 (Int.sub (wr .i64 (Int.add (wr .i64 (Int.add 0 (Int.ofNat 0))) (Int.ofNat n2))) (wr .i64 (Int.sub (Int.ofNat 0) (Int.ofNat 0))))) = true := by rw [e5]; exact iLt_t (a := 0) (b := n2) hpos
  have sz3 := sz2
  refine call_in (n := 20) Try.func83 rfl rfl rfl rfl rfl rfl rfl ?_
  repeat' ((conv => whnf); first
           | refine eqS_rfl ?_
           | refine eqA_rfl ?_
           | refine eqA_of (by assumption) ?_
           | refine eqS_of (by rfl) ?_
           | refine eqL_rfl ?_
           | refine eqJ_rfl ?_
           | refine flE_intro (fun _ _ => rfl) ?_
           | refine seS_rfl ?_
           | refine lsS_of hup ?_
           | refine lsS_rfl ?_
           | refine brS_tt ?_
           | refine brS_ff ?_
           | refine brS_not ?_
           | refine brS_t (iEq_self _) ?_
           | refine brS_t (by assumption) ?_
           | refine brS_f (by assumption) ?_
           | refine brS_intro (fun _ => ?_) (fun _ => ?_)
           | refine ltS_intro (by first | assumption | decide | exact Nat.le_of_ble_eq_true rfl | omega) ?_
           | refine ixS_of rfl (by first | assumption | decide | omega) ?_
           | refine okS_intro (by first | assumption | kernel_rfl) ?_
           | refine nzS_intro (by first | decide | assumption) ?_
           | refine ltS_intro (Nat.lt_succ_self _) ?_
           | refine ltS_intro hpos ?_
           | refine ixS_of (q := 0) rfl (Nat.succ_pos _) ?_
           | refine ltS_intro (Nat.succ_pos _) ?_
           | refine brS_f sz1 ?_
           | refine brS_f sz2 ?_
           | refine brS_f sz3 ?_
           | refine brS_t sz4 ?_
           | refine ixS_of sz5 (by omega) ?_
           | refine emS_0 ?_
           | refine emS_p hpos ?_
           | refine orS_l (by first | exact ⟨hpos, Nat.le_refl _⟩ | (show 0 + n2 ≤ n2; omega)) ?_
           | refine ltS_intro (show n2 * 2 < 32769 by omega) ?_
           | refine ltS_intro (show 0 < n2 + 1 by omega) ?_
           | refine flE_intro (fun _ _ => rfl) ?_
           | refine loS_u 3 (by omega) ?_
           | refine call_in (n := 36) Try.func96 rfl rfl rfl rfl rfl rfl rfl ?_
           | refine call_in (n := 27) Try.func104 rfl rfl rfl rfl rfl rfl rfl ?_
           | intro _)
  rename_i b0 bv p
  have hpg : ∀ g0 : Nat → List SV, ∀ j, j < n2 → putG 0 n2 (fun z => cl (mo z)) g0 j = cl (mo j) := fun g0 => putG_all
  refine call90 (a2 := p) (n2 := n2) (e2 := 0) (c2 := n2) (fr := mo) (G := .val (.slice none 0 0)) (f := f) (rest := [(3002, .ro p n2 0 2 (fun z => cl (mo z))), (3000, .own b0 94 [.ptr 900 bs 0]), (1005, roC a2 n2 e2 mo)] ++ rest) (c90 F d T (by omega) hT a n e c hn ru hr p n2 0 n2 mo (by omega) hmo bs bm (.val (.slice none 0 0)) f B hB _) (addL (1000 + R) 50) (by show [_, Value.slice p (0 + n2) n2] = _; rw [Nat.zero_add]; rfl) ?_ (by (first | (simp only [addL_eq, addL_rec]; omega) | omega | exact Nat.le_refl _)) ?_
  · refine WkM.trans (m2 := [(3002, .ro p n2 0 2 (fun z => cl (mo z))), (3000, .own b0 94 [.ptr 900 bs 0]), (900, .own bs 100 [.int .i64 (Int.ofNat T), .sl 1000 a n c, .val (.slice none 0 0), .mpv 901 bm]), (901, .mp bm cv f), (1000, roR a n e ru), (1005, roC a2 n2 e2 mo)] ++ rest) WP ?_
    exact (WkM.dup (j := 1001)).trans WS
  intro w g D hS
  repeat' ((conv => whnf); first
           | refine eqS_rfl ?_
           | refine eqA_rfl ?_
           | refine eqA_of (by assumption) ?_
           | refine eqS_of (by rfl) ?_
           | refine eqL_rfl ?_
           | refine eqJ_rfl ?_
           | refine flE_intro (fun _ _ => rfl) ?_
           | refine seS_rfl ?_
           | refine lsS_of hup ?_
           | refine lsS_rfl ?_
           | refine brS_tt ?_
           | refine brS_ff ?_
           | refine brS_not ?_
           | refine brS_t (iEq_self _) ?_
           | refine brS_t (by assumption) ?_
           | refine brS_f (by assumption) ?_
           | refine brS_intro (fun _ => ?_) (fun _ => ?_)
           | refine ltS_intro (by first | assumption | decide | exact Nat.le_of_ble_eq_true rfl | omega) ?_
           | refine ixS_of rfl (by first | assumption | decide | omega) ?_
           | refine okS_intro (by first | assumption | kernel_rfl) ?_
           | refine nzS_intro (by first | decide | assumption) ?_
           | refine kyS_of _ (keyC _ rfl) rfl ?_
           | refine hasS_none (gm_none (by assumption)) ?_
           | refine hasS_some (gm_some (by assumption)) ?_
           | refine call_in (n := 9) Try.func97 rfl rfl rfl rfl rfl rfl rfl ?_
           | refine call_in (n := 19) Try.func105 rfl rfl rfl rfl rfl rfl rfl ?_
           | intro _)
  conv => whnf
  refine loS_i (fun jj f mm R' ni => ∃ i : Nat, i ≤ n2 ∧ jj = n2 - i + 1 ∧ (∀ q, q < i → g (ng (mo q)) = none) ∧ f = [(0, .sl 3500 p n2 n2), (1, .fn 98 [] [.ptr 3000 b0 0]), (7, .int .i64 (Int.ofNat n2)), (8, .int .i64 (Int.ofNat i))] ∧ mm = [(3500, .ro p n2 0 2 (fun z => cl (mo z))), (3000, .own b0 94 [.ptr 900 bs 0]), (900, .own bs 100 [.int .i64 (Int.ofNat T), .sl 1000 a n c, .val (.slice none 0 0), .mpv 901 bm]), (901, .mp bm cv (gm g)), (1000, roR a n e ru), (1001, roC a2 n2 e2 mo)] ++ rest ∧ R' = addL (30 * (n2 - i) + R) 30 ∧ ni = 4000) (n2 + 1) (by omega)
    ⟨[(0, .sl 3500 p n2 n2), (1, .fn 98 [] [.ptr 3000 b0 0]), (7, .int .i64 (Int.ofNat n2)), (8, .int .i64 (Int.ofNat 0))], [(3500, .ro p n2 0 2 (fun z => cl (mo z))), (3000, .own b0 94 [.ptr 900 bs 0]), (900, .own bs 100 [.int .i64 (Int.ofNat T), .sl 1000 a n c, .val (.slice none 0 0), .mpv 901 bm]), (901, .mp bm cv (gm g)), (1000, roR a n e ru), (1001, roC a2 n2 e2 mo)] ++ rest, addL (30 * (n2 - 0) + R) 30, 4000, ⟨⟨by show Value.slice p (0 + n2) n2 = _; rw [Nat.zero_add]; rfl, rfl⟩, eqF_rfl _, ⟨by show Value.int .i64 (Int.ofNat (0 + n2)) = _; rw [Nat.zero_add]; rfl, rfl⟩, eqF_rfl _, trivial⟩, WV, by (first | (simp only [addL_eq, addL_rec]; omega) | omega | exact Nat.le_refl _), 0, by omega, by omega, fun q hq => absurd hq (Nat.not_lt_zero _), rfl, rfl, rfl, rfl⟩ ?_
  rintro _ _ _ _ _ ⟨i, hi, rfl, hok, rfl, rfl, rfl, rfl⟩
  by_cases hlt : i < n2
  · have h1 := iLt_t hlt
    cases hg : g (ng (mo i)) with
    | none =>
      repeat' ((conv => whnf); first
               | refine eqS_rfl ?_
               | refine eqA_rfl ?_
               | refine eqA_of (by assumption) ?_
               | refine eqS_of (by rfl) ?_
               | refine eqL_rfl ?_
               | refine eqJ_rfl ?_
               | refine flE_intro (fun _ _ => rfl) ?_
               | refine seS_rfl ?_
               | refine lsS_of hup ?_
               | refine lsS_rfl ?_
               | refine brS_tt ?_
               | refine brS_ff ?_
               | refine brS_not ?_
               | refine brS_t (iEq_self _) ?_
               | refine brS_t (by assumption) ?_
               | refine brS_f (by assumption) ?_
               | refine brS_intro (fun _ => ?_) (fun _ => ?_)
               | refine ltS_intro (by first | assumption | decide | exact Nat.le_of_ble_eq_true rfl | omega) ?_
               | refine ixS_of rfl (by first | assumption | decide | omega) ?_
               | refine okS_intro (by first | assumption | kernel_rfl) ?_
               | refine nzS_intro (by first | decide | assumption) ?_
               | refine ltS_intro (by have := lt_of_iLt ‹iLt (Int.ofNat _) (Int.ofNat _) = true›; omega) ?_
               | refine ixS_of rfl (by have := lt_of_iLt ‹iLt (Int.ofNat _) (Int.ofNat _) = true›; omega) ?_
               | refine kyS_of _ (keyC _ rfl) rfl ?_
               | refine hasS_none (gm_none (by assumption)) ?_
               | refine hasS_some (gm_some (by assumption)) ?_
               | refine call_in (n := 8) Try.func98 rfl rfl rfl rfl rfl rfl rfl ?_
               | refine call_in (n := 17) Try.func91 rfl rfl rfl rfl rfl rfl rfl ?_
               | refine call_pure (c74 F _ _) ?_
               | intro _)
      conv => whnf
      refine ⟨n2 - (i + 1) + 1, [(0, .sl 3500 p n2 n2), (1, .fn 98 [] [.ptr 3000 b0 0]), (7, .int .i64 (Int.ofNat n2)), (8, .int .i64 (Int.ofNat (i + 1)))], [(3500, .ro p n2 0 2 (fun z => cl (mo z))), (3000, .own b0 94 [.ptr 900 bs 0]), (900, .own bs 100 [.int .i64 (Int.ofNat T), .sl 1000 a n c, .val (.slice none 0 0), .mpv 901 bm]), (901, .mp bm cv (gm g)), (1000, roR a n e ru), (1001, roC a2 n2 e2 mo)] ++ rest, addL (30 * (n2 - (i + 1)) + R) 30, 4000, by omega, ⟨eqF_rfl _, eqF_rfl _, eqF_rfl _, ⟨congrArg (Value.int .i64) (smn (i := i + 1) (by omega)), rfl⟩, trivial⟩, WV, by (first | (simp only [addL_eq, addL_rec]; omega) | omega | exact Nat.le_refl _), i + 1, by omega, rfl, fun q hq => ?_, rfl, rfl, rfl, rfl⟩
      by_cases e2 : q = i
      · rw [e2]; exact hg
      · exact hok q (by omega)
    | some z =>
      repeat' ((conv => whnf); first
               | refine eqS_rfl ?_
               | refine eqA_rfl ?_
               | refine eqA_of (by assumption) ?_
               | refine eqS_of (by rfl) ?_
               | refine eqL_rfl ?_
               | refine eqJ_rfl ?_
               | refine flE_intro (fun _ _ => rfl) ?_
               | refine seS_rfl ?_
               | refine lsS_of hup ?_
               | refine lsS_rfl ?_
               | refine brS_tt ?_
               | refine brS_ff ?_
               | refine brS_not ?_
               | refine brS_t (iEq_self _) ?_
               | refine brS_t (by assumption) ?_
               | refine brS_f (by assumption) ?_
               | refine brS_intro (fun _ => ?_) (fun _ => ?_)
               | refine ltS_intro (by first | assumption | decide | exact Nat.le_of_ble_eq_true rfl | omega) ?_
               | refine ixS_of rfl (by first | assumption | decide | omega) ?_
               | refine okS_intro (by first | assumption | kernel_rfl) ?_
               | refine nzS_intro (by first | decide | assumption) ?_
               | refine ltS_intro (by have := lt_of_iLt ‹iLt (Int.ofNat _) (Int.ofNat _) = true›; omega) ?_
               | refine ixS_of rfl (by have := lt_of_iLt ‹iLt (Int.ofNat _) (Int.ofNat _) = true›; omega) ?_
               | refine kyS_of _ (keyC _ rfl) rfl ?_
               | refine hasS_none (gm_none (by assumption)) ?_
               | refine hasS_some (gm_some (by assumption)) ?_
               | refine call_in (n := 8) Try.func98 rfl rfl rfl rfl rfl rfl rfl ?_
               | refine call_in (n := 17) Try.func91 rfl rfl rfl rfl rfl rfl rfl ?_
               | refine call_pure (c74 F _ _) ?_
               | refine brS_f (iLt_0 _) ?_
               | intro _)
      conv => whnf
      exact ⟨by (first | (simp only [addL_eq, addL_rec]; omega) | omega | exact Nat.le_refl _), g, D, hS, by (rw [decide_eq_false (fun h => by have := h i hlt; rw [hg] at this; cases this)]; show Value.bool (!(!iLt (Int.ofNat i) 0)) = _; rw [iLt_0]; rfl), WV⟩
  · have e2 : i = n2 := by omega
    subst e2
    have h1 := iLt_f (Nat.le_refl i)
    repeat' ((conv => whnf); first
             | refine eqS_rfl ?_
             | refine eqA_rfl ?_
             | refine eqA_of (by assumption) ?_
             | refine eqS_of (by rfl) ?_
             | refine eqL_rfl ?_
             | refine eqJ_rfl ?_
             | refine flE_intro (fun _ _ => rfl) ?_
             | refine seS_rfl ?_
             | refine lsS_of hup ?_
             | refine lsS_rfl ?_
             | refine brS_tt ?_
             | refine brS_ff ?_
             | refine brS_not ?_
             | refine brS_t (iEq_self _) ?_
             | refine brS_t (by assumption) ?_
             | refine brS_f (by assumption) ?_
             | refine brS_intro (fun _ => ?_) (fun _ => ?_)
             | refine ltS_intro (by first | assumption | decide | exact Nat.le_of_ble_eq_true rfl | omega) ?_
             | refine ixS_of rfl (by first | assumption | decide | omega) ?_
             | refine okS_intro (by first | assumption | kernel_rfl) ?_
             | refine nzS_intro (by first | decide | assumption) ?_
             | intro _)
    conv => whnf
    exact ⟨by (first | (simp only [addL_eq, addL_rec]; omega) | omega | exact Nat.le_refl _), g, D, hS, by (rw [decide_eq_true hok]; rfl), WV⟩
end Go.Proofs.Ytoocmgefoagfnaa
namespace Go.Proofs.Ytoocmgefoagfnaa
open Go.Ab
attribute [local irreducible] aggOk drwOK
set_option maxRecDepth 100000
set_option maxHeartbeats 4000000
set_option linter.unusedVariables false
set_option linter.unusedSimpArgs false
theorem RS.chain {ru : Nat → Nat × Nat} {n T x : Nat} {g : Nat → Option Nat} {D : Nat → Nat} (h : RS ru n T (fun _ => x) 1 g D) {y : Nat} (hy : g y ≠ none) : CH ru n T x y (D y + 1) (fun z => pr g y (D y - z)) := by
  refine ⟨by omega, (h.pr_ne hy (Nat.le_refl _)).2 rfl, ?_, ?_, fun j hj => h.lt _ (h.pr_D hy _ (by omega)).1, h.D_lt hy⟩
  · show pr g y (D y - (D y + 1 - 1)) = y
    rw [show D y - (D y + 1 - 1) = 0 by omega]; rfl
  · refine List.all_eq_true.2 fun j hj => ?_
    rw [List.mem_range] at hj
    rw [decide_eq_true_eq]
    have := (h.pr_D hy (D y - j) (by omega)).2.2 (by omega)
    rw [show D y - j - 1 = D y - (1 + j) by omega] at this
    exact this
theorem RS.one {ru : Nat → Nat × Nat} {n T x : Nat} {g : Nat → Option Nat} {D : Nat → Nat} (h : RS ru n T (fun _ => x) 1 g D) (y : Nat) : g y ≠ none ↔ Rch ru n x y := by
  rw [h.reach y]
  exact ⟨fun ⟨_, _, h⟩ => h, fun h => ⟨0, by omega, h⟩⟩
theorem call68 (i : Nat) {F d T n e c N x y : Nat} {a : Option Addr} {ru : Nat → Nat × Nat} {bs bm : Nat} {G : SV} {f : Nat → Option SV} {rest : Mem}
    (h : ∀ R, callS (CL F (d + 6)) (.fn 68 [] []) [.ptr 900 bs 0, cv x, cv y] ([(900, .own bs 100 [.int .i64 (Int.ofNat T), .sl 1000 a n c, G, .mpv 901 bm]), (901, .mp bm cv f), (1000, roR a n e ru)] ++ rest) (addL R N) 1000 fun w m' R' _ => R ≤ R' ∧ ∃ g D, RS ru n T (fun _ => x) 1 g D ∧ ((g y = none ∧ den w = .slice none 0 0 ∧ WkM m' ([(900, .own bs 100 [.int .i64 (Int.ofNat T), .sl 1000 a n c, G, .mpv 901 bm]), (901, .mp bm cv (gm g)), (1000, roR a n e ru)] ++ rest)) ∨
      (g y ≠ none ∧ ∃ p, den w = .slice p (D y + 1) (D y + 1) ∧ WkM m' ((910, .gr p (D y + 1) 50 2 (fun z => cl (pr g y (D y - z)))) :: ([(900, .own bs 100 [.int .i64 (Int.ofNat T), .sl 1000 a n c, G, .mpv 901 bm]), (901, .mp bm cv (gm g)), (1000, roR a n e ru)] ++ rest)))))
    (R2 : Nat) {args : List SV} {m : Mem} {R ni : Nat} {K : SV → Mem → Nat → Nat → Prop} (ha : dens args = dens [.ptr 900 bs 0, cv x, cv y]) (hw : WkM m ([(900, .own bs 100 [.int .i64 (Int.ofNat T), .sl 1000 a n c, G, .mpv 901 bm]), (901, .mp bm cv f), (1000, roR a n e ru)] ++ rest)) (hN : R2 + N ≤ R)
    (hK0 : ∀ g D, RS ru n T (fun _ => x) 1 g D → g y = none → K (.val (.slice none 0 0)) ([(900, .own bs 100 [.int .i64 (Int.ofNat T), .sl 1000 a n c, G, .mpv 901 bm]), (901, .mp bm cv (gm g)), (1000, roR a n e ru)] ++ rest) R2 ni)
    (hK1 : ∀ g L p ch, CH ru n T x y L ch → K (.sl i p L L) ((i, .gr p L 50 2 (fun z => cl (ch z))) :: ([(900, .own bs 100 [.int .i64 (Int.ofNat T), .sl 1000 a n c, G, .mpv 901 bm]), (901, .mp bm cv (gm g)), (1000, roR a n e ru)] ++ rest)) R2 ni) : callS (CL F (d + 6)) (.fn 68 [] []) args m R ni K := by
  refine callS.cast (fv' := .fn 68 [] []) rfl ha ?_
  refine callS.wk hw ?_
  have h1 := h (R - N)
  rw [addL_eq, Nat.sub_add_cancel (by omega)] at h1
  refine call_post h1 fun w m' R' n' ⟨hR, g, D, hS, h2⟩ => ?_
  rcases h2 with ⟨hg, e, hw1⟩ | ⟨hg, p, e, hw1⟩
  · exact ⟨.val (.slice none 0 0), _, R2, ni, e, hw1, by omega, hK0 g D hS hg⟩
  · exact ⟨.sl i p (D y + 1) (D y + 1), _, R2, ni, e, hw1.trans (WkM.sub (by simp)), by omega, hK1 g (D y + 1) p _ (hS.chain hg)⟩
theorem cvF (t : Nat) : den (cv (2 * t)) = .agg ⟨[.int .i64 (Int.ofNat t), .bool false]⟩ := by
  show Value.agg ⟨[.int .i64 (Int.ofNat (2 * t / 2)), .bool (2 * t % 2 == 1)]⟩ = _
  rw [show 2 * t / 2 = t by omega, show 2 * t % 2 = 0 by omega]; rfl
theorem cvT (t : Nat) : den (cv (2 * t + 1)) = .agg ⟨[.int .i64 (Int.ofNat t), .bool true]⟩ := by
  show Value.agg ⟨[.int .i64 (Int.ofNat ((2 * t + 1) / 2)), .bool ((2 * t + 1) % 2 == 1)]⟩ = _
  rw [show (2 * t + 1) / 2 = t by omega, show (2 * t + 1) % 2 = 1 by omega]; rfl
theorem c73 (F d : Nat) (T : Nat) (hF : 2 * T + 400 < F) (hT : T ≤ 24) (a : Option Addr) (n e c : Nat) (hn : n ≤ 80) (ru : Nat → Nat × Nat) (hr : ∀ j, j < n → (ru j).1 < 2 * T ∧ (ru j).2 < 2 * T) (bs bm : Nat) (G : SV) (f : Nat → Option SV) (B C : Nat) (hB : 200 * n + 400 ≤ B) (hC : C = B * (2 * T + 1) + 3000) (rest : Mem) (R : Nat) :
    callS (CL F (d + 7)) (.fn 73 [] []) [.ptr 900 bs 0] ([(900, .own bs 100 [.int .i64 (Int.ofNat T), .sl 1000 a n c, G, .mpv 901 bm]), (901, .mp bm cv f), (1000, roR a n e ru)] ++ rest) (addL R ((2 * C + 100) * T + 200)) 1000 fun w m' R' _ => R ≤ R' ∧ ∃ f',
      (((∀ t, t < T → ¬ (Rch ru n (2 * t) (2 * t + 1) ∧ Rch ru n (2 * t + 1) (2 * t))) ∧ den w = .tuple ⟨[.slice none 0 0, .slice none 0 0]⟩ ∧ WkM m' ([(900, .own bs 100 [.int .i64 (Int.ofNat T), .sl 1000 a n c, G, .mpv 901 bm]), (901, .mp bm cv f'), (1000, roR a n e ru)] ++ rest)) ∨
      (∃ t p1 L1 c1 p2 L2 c2, t < T ∧ CH ru n T (2 * t) (2 * t + 1) L1 c1 ∧ CH ru n T (2 * t + 1) (2 * t) L2 c2 ∧ den w = .tuple ⟨[.slice p1 L1 L1, .slice p2 L2 L2]⟩ ∧ WkM m' ((910, .gr p1 L1 50 2 (fun z => cl (c1 z))) :: (911, .gr p2 L2 50 2 (fun z => cl (c2 z))) :: ([(900, .own bs 100 [.int .i64 (Int.ofNat T), .sl 1000 a n c, G, .mpv 901 bm]), (901, .mp bm cv f'), (1000, roR a n e ru)] ++ rest)))) := by
  rw [addL_eq, show R + ((2 * C + 100) * T + 200) = (2 * C + 100) * T + R + 100 + 100 by omega, ← addL_eq _ 100]
  refine callS.ni 3000 ?_
  refine call_in (n := 36) Try.func73 rfl rfl rfl rfl rfl rfl rfl ?_
  repeat' ((conv => whnf); first
           | refine eqS_rfl ?_
           | refine eqA_rfl ?_
           | refine eqA_of (by assumption) ?_
           | refine eqS_of (by rfl) ?_
           | refine eqL_rfl ?_
           | refine eqJ_rfl ?_
           | refine flE_intro (fun _ _ => rfl) ?_
           | refine seS_rfl ?_
           | refine lsS_of hup ?_
           | refine lsS_rfl ?_
           | refine brS_tt ?_
           | refine brS_ff ?_
           | refine brS_not ?_
           | refine brS_t (iEq_self _) ?_
           | refine brS_t (by assumption) ?_
           | refine brS_f (by assumption) ?_
           | refine brS_intro (fun _ => ?_) (fun _ => ?_)
           | refine ltS_intro (by first | assumption | decide | exact Nat.le_of_ble_eq_true rfl | omega) ?_
           | refine ixS_of rfl (by first | assumption | decide | omega) ?_
           | refine okS_intro (by first | assumption | kernel_rfl) ?_
           | refine nzS_intro (by first | decide | assumption) ?_
           | intro _)
  conv => whnf
  refine loS_i (fun jj ff mm R' ni => ∃ (i : Nat) (f1 : Nat → Option SV), i ≤ T ∧ jj = T - i + 1 ∧ (∀ t, t < i → ¬ (Rch ru n (2 * t) (2 * t + 1) ∧ Rch ru n (2 * t + 1) (2 * t))) ∧ ff = [(0, .ptr 900 bs 0), (11, .int .i64 (Int.ofNat T)), (12, .int .i64 (Int.ofNat i))] ∧ mm = [(900, .own bs 100 [.int .i64 (Int.ofNat T), .sl 1000 a n c, G, .mpv 901 bm]), (901, .mp bm cv f1), (1000, roR a n e ru)] ++ rest ∧ R' = addL ((2 * C + 100) * (T - i) + R) 60 ∧ ni = 3500) (T + 1) (by omega)
    ⟨[(0, .ptr 900 bs 0), (11, .int .i64 (Int.ofNat T)), (12, .int .i64 (Int.ofNat 0))], _, addL ((2 * C + 100) * (T - 0) + R) 60, 3500, ⟨eqF_rfl _, eqF_rfl _, eqF_rfl _, trivial⟩, WkM.refl _, by rw [Nat.sub_zero]; (first | (simp only [addL_eq, addL_rec]; omega) | omega | exact Nat.le_refl _), 0, f, by omega, by omega, fun t ht => absurd ht (Nat.not_lt_zero _), rfl, rfl, rfl, rfl⟩ ?_
  rintro _ _ _ _ _ ⟨i, f1, hi, rfl, hok, rfl, rfl, rfl, rfl⟩
  by_cases hlt : i < T
  · have h1 := iLt_t hlt
    have hb : (2 * C + 100) * (T - i) = (2 * C + 100) * (T - (i + 1)) + (2 * C + 100) := by rw [← Nat.mul_succ]; congr 1; omega
    have hnext : ¬ (Rch ru n (2 * i) (2 * i + 1) ∧ Rch ru n (2 * i + 1) (2 * i)) → ∀ t, t < i + 1 → ¬ (Rch ru n (2 * t) (2 * t + 1) ∧ Rch ru n (2 * t + 1) (2 * t)) := fun h t ht => by
      by_cases e2 : t = i
      · rw [e2]; exact h
      · exact hok t (by omega)
    repeat' ((conv => whnf); first
             | refine eqS_rfl ?_
             | refine eqA_rfl ?_
             | refine eqA_of (by assumption) ?_
             | refine eqS_of (by rfl) ?_
             | refine eqL_rfl ?_
             | refine eqJ_rfl ?_
             | refine flE_intro (fun _ _ => rfl) ?_
             | refine seS_rfl ?_
             | refine lsS_of hup ?_
             | refine lsS_rfl ?_
             | refine brS_tt ?_
             | refine brS_ff ?_
             | refine brS_not ?_
             | refine brS_t (iEq_self _) ?_
             | refine brS_t (by assumption) ?_
             | refine brS_f (by assumption) ?_
             | refine brS_intro (fun _ => ?_) (fun _ => ?_)
             | refine ltS_intro (by first | assumption | decide | exact Nat.le_of_ble_eq_true rfl | omega) ?_
             | refine ixS_of rfl (by first | assumption | decide | omega) ?_
             | refine okS_intro (by first | assumption | kernel_rfl) ?_
             | refine nzS_intro (by first | decide | assumption) ?_
             | intro _)
    rename_i b5 b6
    have hx1 : 2 * i < 2 * T := by omega
    have hx2 : 2 * i + 1 < 2 * T := by omega
    refine call68 910 (x := 2 * i) (y := 2 * i + 1) (G := G) (f := f1) (rest := [(3501, .own b6 50 [.int .i64 (Int.ofNat i), .bool true]), (3500, .own b5 50 [.int .i64 (Int.ofNat i), .bool false])] ++ rest) (c68 F d T hF hT a n e c hn ru hr (2 * i) (2 * i + 1) hx1 bs bm G f1 B hB _) (addL ((2 * C + 100) * (T - (i + 1)) + C + 60 + R) 90) (by show [_, _, _] = [_, den (cv (2 * i)), den (cv (2 * i + 1))]; rw [cvF, cvT]; rfl) WV (by (first | (simp only [addL_eq, addL_rec]; omega) | omega | exact Nat.le_refl _)) ?_ ?_
    · intro g D hS hg
      have hno : ¬ (Rch ru n (2 * i) (2 * i + 1) ∧ Rch ru n (2 * i + 1) (2 * i)) := fun h => (hS.one _).2 h.1 hg
      repeat' ((conv => whnf); first
               | refine eqS_rfl ?_
               | refine eqA_rfl ?_
               | refine eqA_of (by assumption) ?_
               | refine eqS_of (by rfl) ?_
               | refine eqL_rfl ?_
               | refine eqJ_rfl ?_
               | refine flE_intro (fun _ _ => rfl) ?_
               | refine seS_rfl ?_
               | refine lsS_of hup ?_
               | refine lsS_rfl ?_
               | refine brS_tt ?_
               | refine brS_ff ?_
               | refine brS_not ?_
               | refine brS_t (iEq_self _) ?_
               | refine brS_t (by assumption) ?_
               | refine brS_f (by assumption) ?_
               | refine brS_intro (fun _ => ?_) (fun _ => ?_)
               | refine ltS_intro (by first | assumption | decide | exact Nat.le_of_ble_eq_true rfl | omega) ?_
               | refine ixS_of rfl (by first | assumption | decide | omega) ?_
               | refine okS_intro (by first | assumption | kernel_rfl) ?_
               | refine nzS_intro (by first | decide | assumption) ?_
               | intro _)
      conv => whnf
      exact ⟨T - (i + 1) + 1, [(0, .ptr 900 bs 0), (11, .int .i64 (Int.ofNat T)), (12, .int .i64 (Int.ofNat (i + 1)))], _, addL ((2 * C + 100) * (T - (i + 1)) + R) 60, 3500, by omega, ⟨eqF_rfl _, eqF_rfl _, ⟨congrArg (Value.int .i64) (smn (i := i + 1) (by omega)), rfl⟩, trivial⟩, WV, by (first | (simp only [addL_eq, addL_rec]; omega) | omega | exact Nat.le_refl _), i + 1, gm g, by omega, rfl, hnext hno, rfl, rfl, rfl, rfl⟩
    · intro g1 L1 p1 k1 hc1
      have hp1 := hc1.pos
      have hz1 : iEq (Int.ofNat L1) 0 = false := (iEq_n (a := L1) (b := 0)).trans (decide_eq_false (by omega))
      repeat' ((conv => whnf); first
               | refine eqS_rfl ?_
               | refine eqA_rfl ?_
               | refine eqA_of (by assumption) ?_
               | refine eqS_of (by rfl) ?_
               | refine eqL_rfl ?_
               | refine eqJ_rfl ?_
               | refine flE_intro (fun _ _ => rfl) ?_
               | refine seS_rfl ?_
               | refine lsS_of hup ?_
               | refine lsS_rfl ?_
               | refine brS_tt ?_
               | refine brS_ff ?_
               | refine brS_not ?_
               | refine brS_t (iEq_self _) ?_
               | refine brS_t (by assumption) ?_
               | refine brS_f (by assumption) ?_
               | refine brS_intro (fun _ => ?_) (fun _ => ?_)
               | refine ltS_intro (by first | assumption | decide | exact Nat.le_of_ble_eq_true rfl | omega) ?_
               | refine ixS_of rfl (by first | assumption | decide | omega) ?_
               | refine okS_intro (by first | assumption | kernel_rfl) ?_
               | refine nzS_intro (by first | decide | assumption) ?_
               | intro _)
      refine call68 911 (x := 2 * i + 1) (y := 2 * i) (G := G) (f := gm g1) (rest := [(910, .gr p1 L1 50 2 (fun z => cl (k1 z))), (3501, .own b6 50 [.int .i64 (Int.ofNat i), .bool true]), (3500, .own b5 50 [.int .i64 (Int.ofNat i), .bool false])] ++ rest) (c68 F d T hF hT a n e c hn ru hr (2 * i + 1) (2 * i) hx2 bs bm G (gm g1) B hB _) (addL ((2 * C + 100) * (T - (i + 1)) + R) 90) (by show [_, _, _] = [_, den (cv (2 * i + 1)), den (cv (2 * i))]; rw [cvF, cvT]; rfl) WV (by (first | (simp only [addL_eq, addL_rec]; omega) | omega | exact Nat.le_refl _)) ?_ ?_
      · intro g D hS hg
        have hno : ¬ (Rch ru n (2 * i) (2 * i + 1) ∧ Rch ru n (2 * i + 1) (2 * i)) := fun h => (hS.one _).2 h.2 hg
        repeat' ((conv => whnf); first
                 | refine eqS_rfl ?_
                 | refine eqA_rfl ?_
                 | refine eqA_of (by assumption) ?_
                 | refine eqS_of (by rfl) ?_
                 | refine eqL_rfl ?_
                 | refine eqJ_rfl ?_
                 | refine flE_intro (fun _ _ => rfl) ?_
                 | refine seS_rfl ?_
                 | refine lsS_of hup ?_
                 | refine lsS_rfl ?_
                 | refine brS_tt ?_
                 | refine brS_ff ?_
                 | refine brS_not ?_
                 | refine brS_t (iEq_self _) ?_
                 | refine brS_t (by assumption) ?_
                 | refine brS_f (by assumption) ?_
                 | refine brS_intro (fun _ => ?_) (fun _ => ?_)
                 | refine ltS_intro (by first | assumption | decide | exact Nat.le_of_ble_eq_true rfl | omega) ?_
                 | refine ixS_of rfl (by first | assumption | decide | omega) ?_
                 | refine okS_intro (by first | assumption | kernel_rfl) ?_
                 | refine nzS_intro (by first | decide | assumption) ?_
                 | intro _)
        conv => whnf
        exact ⟨T - (i + 1) + 1, [(0, .ptr 900 bs 0), (11, .int .i64 (Int.ofNat T)), (12, .int .i64 (Int.ofNat (i + 1)))], _, addL ((2 * C + 100) * (T - (i + 1)) + R) 60, 3500, by omega, ⟨eqF_rfl _, eqF_rfl _, ⟨congrArg (Value.int .i64) (smn (i := i + 1) (by omega)), rfl⟩, trivial⟩, WV, by (first | (simp only [addL_eq, addL_rec]; omega) | omega | exact Nat.le_refl _), i + 1, gm g, by omega, rfl, hnext hno, rfl, rfl, rfl, rfl⟩
      · intro g2 L2 p2 k2 hc2
        have hp2 := hc2.pos
        have hz2 : iLt 0 (Int.ofNat L2) = true := iLt_t (a := 0) (b := L2) hp2
        repeat' ((conv => whnf); first
                 | refine eqS_rfl ?_
                 | refine eqA_rfl ?_
                 | refine eqA_of (by assumption) ?_
                 | refine eqS_of (by rfl) ?_
                 | refine eqL_rfl ?_
                 | refine eqJ_rfl ?_
                 | refine flE_intro (fun _ _ => rfl) ?_
                 | refine seS_rfl ?_
                 | refine lsS_of hup ?_
                 | refine lsS_rfl ?_
                 | refine brS_tt ?_
                 | refine brS_ff ?_
                 | refine brS_not ?_
                 | refine brS_t (iEq_self _) ?_
                 | refine brS_t (by assumption) ?_
                 | refine brS_f (by assumption) ?_
                 | refine brS_intro (fun _ => ?_) (fun _ => ?_)
                 | refine ltS_intro (by first | assumption | decide | exact Nat.le_of_ble_eq_true rfl | omega) ?_
                 | refine ixS_of rfl (by first | assumption | decide | omega) ?_
                 | refine okS_intro (by first | assumption | kernel_rfl) ?_
                 | refine nzS_intro (by first | decide | assumption) ?_
                 | intro _)
        conv => whnf
        exact ⟨by (first | (simp only [addL_eq, addL_rec]; omega) | omega | exact Nat.le_refl _), gm g2, .inr ⟨i, p1, L1, k1, p2, L2, k2, hlt, hc1, hc2, rfl, WV⟩⟩
  · have e2 : i = T := by omega
    subst e2
    have h1 := iLt_f (Nat.le_refl i)
    repeat' ((conv => whnf); first
             | refine eqS_rfl ?_
             | refine eqA_rfl ?_
             | refine eqA_of (by assumption) ?_
             | refine eqS_of (by rfl) ?_
             | refine eqL_rfl ?_
             | refine eqJ_rfl ?_
             | refine flE_intro (fun _ _ => rfl) ?_
             | refine seS_rfl ?_
             | refine lsS_of hup ?_
             | refine lsS_rfl ?_
             | refine brS_tt ?_
             | refine brS_ff ?_
             | refine brS_not ?_
             | refine brS_t (iEq_self _) ?_
             | refine brS_t (by assumption) ?_
             | refine brS_f (by assumption) ?_
             | refine brS_intro (fun _ => ?_) (fun _ => ?_)
             | refine ltS_intro (by first | assumption | decide | exact Nat.le_of_ble_eq_true rfl | omega) ?_
             | refine ixS_of rfl (by first | assumption | decide | omega) ?_
             | refine okS_intro (by first | assumption | kernel_rfl) ?_
             | refine nzS_intro (by first | decide | assumption) ?_
             | intro _)
    conv => whnf
    exact ⟨by (first | (simp only [addL_eq, addL_rec]; omega) | omega | exact Nat.le_refl _), f1, .inl ⟨hok, rfl, WkM.refl _⟩⟩
end Go.Proofs.Ytoocmgefoagfnaa
namespace Go.Proofs.Ytoocmgefoagfnaa
open Go.Ab
attribute [local irreducible] aggOk drwOK
set_option maxRecDepth 100000
set_option maxHeartbeats 4000000
set_option linter.unusedVariables false
set_option linter.unusedSimpArgs false
theorem poss_iff {ru : Nat → Nat × Nat} {n T : Nat} : Poss ru n T ↔ ∀ t, t < T → ¬ (Rch ru n (2 * t) (2 * t + 1) ∧ Rch ru n (2 * t + 1) (2 * t)) := by
  constructor
  · intro h t ht
    have := h (2 * t) (by omega)
    rw [show ng (2 * t) = 2 * t + 1 by unfold ng; rw [if_neg (by omega)]] at this
    exact this
  · intro h x hx
    rcases Nat.mod_two_eq_zero_or_one x with e | e
    · have e1 : ng x = 2 * (x / 2) + 1 := by unfold ng; rw [if_neg (by omega)]; omega
      have := h (x / 2) (by omega)
      rw [show 2 * (x / 2) = x by omega] at this e1
      rw [e1]; exact this
    · have e1 : ng x = 2 * (x / 2) := by unfold ng; rw [if_pos e]; omega
      have := h (x / 2) (by omega)
      rw [show 2 * (x / 2) + 1 = x by omega] at this
      rw [e1]; exact fun h2 => this ⟨h2.2, h2.1⟩
theorem call83 {F d T n e c n2 e2 c2 N : Nat} {a a2 : Option Addr} {ru : Nat → Nat × Nat} {mo : Nat → Nat} {bs bm : Nat} {f : Nat → Option SV} {rest : Mem}
    (h : ∀ R, callS (CL F (d + 6)) (.fn 83 [] []) [.ptr 900 bs 0, .sl 1001 a2 n2 c2] ([(900, .own bs 100 [.int .i64 (Int.ofNat T), .sl 1000 a n c, .val (.slice none 0 0), .mpv 901 bm]), (901, .mp bm cv f), (1000, roR a n e ru), (1001, roC a2 n2 e2 mo)] ++ rest) (addL R N) 1000 fun w m' R' _ => R ≤ R' ∧ ∃ g D, RS ru n T mo n2 g D ∧ den w = .bool (decide (∀ i, i < n2 → g (ng (mo i)) = none)) ∧ WkM m' ([(900, .own bs 100 [.int .i64 (Int.ofNat T), .sl 1000 a n c, .val (.slice none 0 0), .mpv 901 bm]), (901, .mp bm cv (gm g)), (1000, roR a n e ru), (1001, roC a2 n2 e2 mo)] ++ rest))
    (R2 : Nat) {args : List SV} {m : Mem} {R ni : Nat} {K : SV → Mem → Nat → Nat → Prop} (ha : dens args = dens [.ptr 900 bs 0, .sl 1001 a2 n2 c2]) (hw : WkM m ([(900, .own bs 100 [.int .i64 (Int.ofNat T), .sl 1000 a n c, .val (.slice none 0 0), .mpv 901 bm]), (901, .mp bm cv f), (1000, roR a n e ru), (1001, roC a2 n2 e2 mo)] ++ rest)) (hN : R2 + N ≤ R)
    (hK : ∀ g D, RS ru n T mo n2 g D → K (.bool (decide (∀ i, i < n2 → g (ng (mo i)) = none))) ([(900, .own bs 100 [.int .i64 (Int.ofNat T), .sl 1000 a n c, .val (.slice none 0 0), .mpv 901 bm]), (901, .mp bm cv (gm g)), (1000, roR a n e ru), (1001, roC a2 n2 e2 mo)] ++ rest) R2 ni) : callS (CL F (d + 6)) (.fn 83 [] []) args m R ni K := by
  refine callS.cast (fv' := .fn 83 [] []) rfl ha ?_
  refine callS.wk hw ?_
  have h1 := h (R - N)
  rw [addL_eq, Nat.sub_add_cancel (by omega)] at h1
  exact call_post h1 fun w m' R' n' ⟨hR, g, D, hS, e, hw1⟩ => ⟨.bool _, _, R2, ni, e, hw1, by omega, hK g D hS⟩
theorem call73 (i1 i2 : Nat) {F d T n e c N : Nat} {a : Option Addr} {ru : Nat → Nat × Nat} {bs bm : Nat} {G : SV} {f : Nat → Option SV} {rest : Mem}
    (h : ∀ R, callS (CL F (d + 7)) (.fn 73 [] []) [.ptr 900 bs 0] ([(900, .own bs 100 [.int .i64 (Int.ofNat T), .sl 1000 a n c, G, .mpv 901 bm]), (901, .mp bm cv f), (1000, roR a n e ru)] ++ rest) (addL R N) 1000 fun w m' R' _ => R ≤ R' ∧ ∃ f',
      (((∀ t, t < T → ¬ (Rch ru n (2 * t) (2 * t + 1) ∧ Rch ru n (2 * t + 1) (2 * t))) ∧ den w = .tuple ⟨[.slice none 0 0, .slice none 0 0]⟩ ∧ WkM m' ([(900, .own bs 100 [.int .i64 (Int.ofNat T), .sl 1000 a n c, G, .mpv 901 bm]), (901, .mp bm cv f'), (1000, roR a n e ru)] ++ rest)) ∨
      (∃ t p1 L1 c1 p2 L2 c2, t < T ∧ CH ru n T (2 * t) (2 * t + 1) L1 c1 ∧ CH ru n T (2 * t + 1) (2 * t) L2 c2 ∧ den w = .tuple ⟨[.slice p1 L1 L1, .slice p2 L2 L2]⟩ ∧ WkM m' ((910, .gr p1 L1 50 2 (fun z => cl (c1 z))) :: (911, .gr p2 L2 50 2 (fun z => cl (c2 z))) :: ([(900, .own bs 100 [.int .i64 (Int.ofNat T), .sl 1000 a n c, G, .mpv 901 bm]), (901, .mp bm cv f'), (1000, roR a n e ru)] ++ rest)))))
    (R2 : Nat) {args : List SV} {m : Mem} {R ni : Nat} {K : SV → Mem → Nat → Nat → Prop} (ha : dens args = dens [.ptr 900 bs 0]) (hw : WkM m ([(900, .own bs 100 [.int .i64 (Int.ofNat T), .sl 1000 a n c, G, .mpv 901 bm]), (901, .mp bm cv f), (1000, roR a n e ru)] ++ rest)) (hN : R2 + N ≤ R)
    (hK0 : ∀ f', Poss ru n T → K (.tup [.val (.slice none 0 0), .val (.slice none 0 0)]) ([(900, .own bs 100 [.int .i64 (Int.ofNat T), .sl 1000 a n c, G, .mpv 901 bm]), (901, .mp bm cv f'), (1000, roR a n e ru)] ++ rest) R2 ni)
    (hK1 : ∀ f' t p1 L1 c1 p2 L2 c2, t < T → CH ru n T (2 * t) (2 * t + 1) L1 c1 → CH ru n T (2 * t + 1) (2 * t) L2 c2 → K (.tup [.sl i1 p1 L1 L1, .sl i2 p2 L2 L2]) ((i1, .gr p1 L1 50 2 (fun z => cl (c1 z))) :: (i2, .gr p2 L2 50 2 (fun z => cl (c2 z))) :: ([(900, .own bs 100 [.int .i64 (Int.ofNat T), .sl 1000 a n c, G, .mpv 901 bm]), (901, .mp bm cv f'), (1000, roR a n e ru)] ++ rest)) R2 ni) : callS (CL F (d + 7)) (.fn 73 [] []) args m R ni K := by
  refine callS.cast (fv' := .fn 73 [] []) rfl ha ?_
  refine callS.wk hw ?_
  have h1 := h (R - N)
  rw [addL_eq, Nat.sub_add_cancel (by omega)] at h1
  refine call_post h1 fun w m' R' n' ⟨hR, f', h2⟩ => ?_
  rcases h2 with ⟨hp, e, hw1⟩ | ⟨t, p1, L1, c1, p2, L2, c2, ht, hc1, hc2, e, hw1⟩
  · exact ⟨.tup [.val (.slice none 0 0), .val (.slice none 0 0)], _, R2, ni, e, hw1, by omega, hK0 f' (poss_iff.2 hp)⟩
  · exact ⟨.tup [.sl i1 p1 L1 L1, .sl i2 p2 L2 L2], _, R2, ni, e, hw1.trans (WkM.sub (by simp)), by omega, hK1 f' t p1 L1 c1 p2 L2 c2 ht hc1 hc2⟩
theorem c77 (F d : Nat) (T : Nat) (hF : 2 * T + 400 < F) (hT : T ≤ 24) (a : Option Addr) (n e c : Nat) (hn : n ≤ 80) (ru : Nat → Nat × Nat) (hr : ∀ j, j < n → (ru j).1 < 2 * T ∧ (ru j).2 < 2 * T) (a2 : Option Addr) (n2 e2 c2 : Nat) (mo : Nat → Nat) (hpos : 0 < n2) (hn2 : n2 ≤ 24) (hmo : ∀ j, j < n2 → mo j < 2 * T) (bs bm : Nat) (f : Nat → Option SV) (B C : Nat) (hB : 200 * n + 400 ≤ B) (hC : C = B * (2 * T + 1) + 3000) (rest : Mem) (R : Nat) :
    callS (CL F (d + 8)) (.fn 77 [] []) [.ptr 900 bs 0, .sl 1001 a2 n2 c2] ([(900, .own bs 100 [.int .i64 (Int.ofNat T), .sl 1000 a n c, .val (.slice none 0 0), .mpv 901 bm]), (901, .mp bm cv f), (1000, roR a n e ru), (1001, roC a2 n2 e2 mo)] ++ rest) (addL R ((2 * C + 100) * T + C + 500)) 1000 fun w m' R' _ => R ≤ R' ∧ ∃ f' hb, (hb = true ↔ ∃ bits, bits < 2 ^ T ∧ okR ru n bits = true ∧ okG mo n2 bits = true) ∧ den w = .bool hb ∧ WkM m' ([(900, .own bs 100 [.int .i64 (Int.ofNat T), .sl 1000 a n c, .val (.slice none 0 0), .mpv 901 bm]), (901, .mp bm cv f'), (1000, roR a n e ru), (1001, roC a2 n2 e2 mo)] ++ rest) := by
  rw [addL_eq, show R + ((2 * C + 100) * T + C + 500) = (2 * C + 100) * T + C + 400 + R + 100 by omega, ← addL_eq _ 100]
  refine callS.ni 3000 ?_
  refine call_in (n := 19) Try.func77 rfl rfl rfl rfl rfl rfl rfl ?_
  repeat' ((conv => whnf); first
           | refine eqS_rfl ?_
           | refine eqA_rfl ?_
           | refine eqA_of (by assumption) ?_
           | refine eqS_of (by rfl) ?_
           | refine eqL_rfl ?_
           | refine eqJ_rfl ?_
           | refine flE_intro (fun _ _ => rfl) ?_
           | refine seS_rfl ?_
           | refine lsS_of hup ?_
           | refine lsS_rfl ?_
           | refine brS_tt ?_
           | refine brS_ff ?_
           | refine brS_not ?_
           | refine brS_t (iEq_self _) ?_
           | refine brS_t (by assumption) ?_
           | refine brS_f (by assumption) ?_
           | refine brS_intro (fun _ => ?_) (fun _ => ?_)
           | refine ltS_intro (by first | assumption | decide | exact Nat.le_of_ble_eq_true rfl | omega) ?_
           | refine ixS_of rfl (by first | assumption | decide | omega) ?_
           | refine okS_intro (by first | assumption | kernel_rfl) ?_
           | refine nzS_intro (by first | decide | assumption) ?_
           | intro _)
  refine call83 (rest := rest) (c83 F (d + 1) T hF hT a n e c hn ru hr a2 n2 e2 c2 mo hpos hn2 hmo bs bm f B hB _) (addL ((2 * C + 100) * T + 300 + R) 50) (by rfl) WV (by rw [hC] at *; (first | (simp only [addL_eq, addL_rec]; omega) | omega | exact Nat.le_refl _)) ?_
  intro g D hS
  have hag : (∀ i, i < n2 → g (ng (mo i)) = none) ↔ ∀ i j, i < n2 → j < n2 → ¬ Rch ru n (mo i) (ng (mo j)) := by
    constructor
    · intro h i j hi hj hr2
      exact (hS.reach _).2 ⟨i, hi, hr2⟩ (h j hj)
    · intro h i hi
      cases hg : g (ng (mo i)) with
      | none => rfl
      | some z =>
        obtain ⟨j, hj, hr2⟩ := (hS.reach (ng (mo i))).1 (by rw [hg]; simp)
        exact absurd hr2 (h j i hj hi)
  by_cases hA : ∀ i, i < n2 → g (ng (mo i)) = none
  · rw [decide_eq_true hA]
    repeat' ((conv => whnf); first
             | refine eqS_rfl ?_
             | refine eqA_rfl ?_
             | refine eqA_of (by assumption) ?_
             | refine eqS_of (by rfl) ?_
             | refine eqL_rfl ?_
             | refine eqJ_rfl ?_
             | refine flE_intro (fun _ _ => rfl) ?_
             | refine seS_rfl ?_
             | refine lsS_of hup ?_
             | refine lsS_rfl ?_
             | refine brS_tt ?_
             | refine brS_ff ?_
             | refine brS_not ?_
             | refine brS_t (iEq_self _) ?_
             | refine brS_t (by assumption) ?_
             | refine brS_f (by assumption) ?_
             | refine brS_intro (fun _ => ?_) (fun _ => ?_)
             | refine ltS_intro (by first | assumption | decide | exact Nat.le_of_ble_eq_true rfl | omega) ?_
             | refine ixS_of rfl (by first | assumption | decide | omega) ?_
             | refine okS_intro (by first | assumption | kernel_rfl) ?_
             | refine nzS_intro (by first | decide | assumption) ?_
             | intro _)
    refine call73 920 921 (G := .val (.slice none 0 0)) (f := gm g) (rest := [(1001, roC a2 n2 e2 mo)] ++ rest) (c73 F d T hF hT a n e c hn ru hr bs bm (.val (.slice none 0 0)) (gm g) B C hB hC _) (addL R 60) (by rfl) WV (by (first | (simp only [addL_eq, addL_rec]; omega) | omega | exact Nat.le_refl _)) ?_ ?_
    · intro f' hp
      repeat' ((conv => whnf); first
               | refine eqS_rfl ?_
               | refine eqA_rfl ?_
               | refine eqA_of (by assumption) ?_
               | refine eqS_of (by rfl) ?_
               | refine eqL_rfl ?_
               | refine eqJ_rfl ?_
               | refine flE_intro (fun _ _ => rfl) ?_
               | refine seS_rfl ?_
               | refine lsS_of hup ?_
               | refine lsS_rfl ?_
               | refine brS_tt ?_
               | refine brS_ff ?_
               | refine brS_not ?_
               | refine brS_t (iEq_self _) ?_
               | refine brS_t (by assumption) ?_
               | refine brS_f (by assumption) ?_
               | refine brS_intro (fun _ => ?_) (fun _ => ?_)
               | refine ltS_intro (by first | assumption | decide | exact Nat.le_of_ble_eq_true rfl | omega) ?_
               | refine ixS_of rfl (by first | assumption | decide | omega) ?_
               | refine okS_intro (by first | assumption | kernel_rfl) ?_
               | refine nzS_intro (by first | decide | assumption) ?_
               | intro _)
      conv => whnf
      exact ⟨by (first | (simp only [addL_eq, addL_rec]; omega) | omega | exact Nat.le_refl _), f', true, ⟨fun _ => (sat_iff hr hmo).2 ⟨hp, hag.1 hA⟩, fun _ => rfl⟩, rfl, WV⟩
    · intro f' t p1 L1 c1 p2 L2 c2 ht hc1 hc2
      have hz : iEq (Int.ofNat L1) 0 = false := (iEq_n (a := L1) (b := 0)).trans (decide_eq_false (by have := hc1.pos; omega))
      repeat' ((conv => whnf); first
               | refine eqS_rfl ?_
               | refine eqA_rfl ?_
               | refine eqA_of (by assumption) ?_
               | refine eqS_of (by rfl) ?_
               | refine eqL_rfl ?_
               | refine eqJ_rfl ?_
               | refine flE_intro (fun _ _ => rfl) ?_
               | refine seS_rfl ?_
               | refine lsS_of hup ?_
               | refine lsS_rfl ?_
               | refine brS_tt ?_
               | refine brS_ff ?_
               | refine brS_not ?_
               | refine brS_t (iEq_self _) ?_
               | refine brS_t (by assumption) ?_
               | refine brS_f (by assumption) ?_
               | refine brS_intro (fun _ => ?_) (fun _ => ?_)
               | refine ltS_intro (by first | assumption | decide | exact Nat.le_of_ble_eq_true rfl | omega) ?_
               | refine ixS_of rfl (by first | assumption | decide | omega) ?_
               | refine okS_intro (by first | assumption | kernel_rfl) ?_
               | refine nzS_intro (by first | decide | assumption) ?_
               | intro _)
      conv => whnf
      exact ⟨by (first | (simp only [addL_eq, addL_rec]; omega) | omega | exact Nat.le_refl _), f', false, ⟨fun h => (by cases h), fun h => absurd ⟨hc1.rch, hc2.rch⟩ (poss_iff.1 ((sat_iff hr hmo).1 h).1 t ht)⟩, congrArg Value.bool hz, WV⟩
  · rw [decide_eq_false hA]
    repeat' ((conv => whnf); first
             | refine eqS_rfl ?_
             | refine eqA_rfl ?_
             | refine eqA_of (by assumption) ?_
             | refine eqS_of (by rfl) ?_
             | refine eqL_rfl ?_
             | refine eqJ_rfl ?_
             | refine flE_intro (fun _ _ => rfl) ?_
             | refine seS_rfl ?_
             | refine lsS_of hup ?_
             | refine lsS_rfl ?_
             | refine brS_tt ?_
             | refine brS_ff ?_
             | refine brS_not ?_
             | refine brS_t (iEq_self _) ?_
             | refine brS_t (by assumption) ?_
             | refine brS_f (by assumption) ?_
             | refine brS_intro (fun _ => ?_) (fun _ => ?_)
             | refine ltS_intro (by first | assumption | decide | exact Nat.le_of_ble_eq_true rfl | omega) ?_
             | refine ixS_of rfl (by first | assumption | decide | omega) ?_
             | refine okS_intro (by first | assumption | kernel_rfl) ?_
             | refine nzS_intro (by first | decide | assumption) ?_
             | intro _)
    conv => whnf
    exact ⟨by (first | (simp only [addL_eq, addL_rec]; omega) | omega | exact Nat.le_refl _), gm g, false, ⟨fun h => (by cases h), fun h => absurd (hag.2 ((sat_iff hr hmo).1 h).2) hA⟩, rfl, WV⟩
end Go.Proofs.Ytoocmgefoagfnaa
