/- Rank: orders of wider and turned months. -/
import Derived.Test.YtefnljdfgjjpjaaRaU
import Derived.KernelRfl
namespace Go.Proofs.Ytefnljdfgjjpjaa
open Go.Ab
attribute [local irreducible] aggOk drwOK
set_option maxRecDepth 100000
set_option maxHeartbeats 4000000
set_option linter.unusedVariables false
set_option linter.unusedSimpArgs false
theorem lsM_mono {lo lo1 o : Nat → Nat} (h : ∀ z, lo1 z ≤ lo z) : ∀ j, lsM lo1 o j ≤ lsM lo o j
  | 0 => Nat.le_refl _
  | j + 1 => by
    have h1 := lsM_mono h (o := o) j
    have h2 := h (o j)
    show max _ _ ≤ max _ _
    omega
theorem oL_mono {n : Nat} {lo hi lo1 hi1 : Nat → Nat} (h1 : ∀ z, lo1 z ≤ lo z) (h2 : ∀ z, hi z ≤ hi1 z) : ∀ k L, (oL n lo hi k L).length ≤ (oL n lo1 hi1 k L).length
  | 0, L => by
    show (oL0 lo hi L).length ≤ (oL0 lo1 hi1 L).length
    unfold oL0
    by_cases h : rsP lo hi L
    · have h' : rsP lo1 hi1 L := fun j hj => Nat.le_trans (lsM_mono h1 (j + 1)) (Nat.le_trans (h j hj) (h2 _))
      rw [if_pos h, if_pos h']; exact Nat.le_refl _
    · rw [if_neg h]; exact Nat.zero_le _
  | k + 1, L => by
    have key : ∀ j, (oM n lo hi k L j).length ≤ (oM n lo1 hi1 k L j).length := by
      intro j
      induction j with
      | zero => exact Nat.le_refl 0
      | succ j ih =>
        rw [oM_succ, oM_succ, List.length_append, List.length_append]
        have := oL_mono (n := n) h1 h2 k (L ++ [j])
        split
        · show _ + 0 ≤ _ + 0; omega
        · omega
    exact key n
theorem oL_pre {n : Nat} {lo hi : Nat → Nat} {o : List Nat} : ∀ {k : Nat} {L : List Nat}, o ∈ oL n lo hi k L → ∃ t, o = L ++ t
  | 0, L, h => by
    have h : o ∈ oL0 lo hi L := h
    unfold oL0 at h
    by_cases hr : rsP lo hi L
    · rw [if_pos hr, List.mem_singleton] at h; exact ⟨[], by rw [h, List.append_nil]⟩
    · rw [if_neg hr] at h; cases h
  | k + 1, L, h => by
    have h : o ∈ (List.range n).flatMap _ := h
    rw [List.mem_flatMap] at h
    obtain ⟨i, _, h⟩ := h
    by_cases hm : i ∈ L
    · rw [if_pos (decide_eq_true hm)] at h; cases h
    · rw [if_neg (by rw [decide_eq_false hm]; simp)] at h
      obtain ⟨t, ht⟩ := oL_pre h
      exact ⟨[i] ++ t, by rw [ht, List.append_assoc]⟩
theorem oM_pre {n : Nat} {lo hi : Nat → Nat} {k j : Nat} {L o : List Nat} (h : o ∈ oM n lo hi k L j) : ∃ i t, i < j ∧ o = L ++ (i :: t) := by
  unfold oM at h
  rw [List.mem_flatMap] at h
  obtain ⟨i, hi', h⟩ := h
  by_cases hm : i ∈ L
  · rw [if_pos (decide_eq_true hm)] at h; cases h
  · rw [if_neg (by rw [decide_eq_false hm]; simp)] at h
    obtain ⟨t, ht⟩ := oL_pre h
    exact ⟨i, t, List.mem_range.1 hi', by rw [ht, List.append_assoc]; rfl⟩
theorem oL_nodup {n : Nat} {lo hi : Nat → Nat} : ∀ {k : Nat} {L : List Nat}, (oL n lo hi k L).Nodup
  | 0, L => by
    show (oL0 lo hi L).Nodup
    unfold oL0
    by_cases hr : rsP lo hi L
    · rw [if_pos hr]; simp
    · rw [if_neg hr]; exact List.nodup_nil
  | k + 1, L => by
    have key : ∀ j, (oM n lo hi k L j).Nodup := by
      intro j
      induction j with
      | zero => exact List.nodup_nil
      | succ j ih =>
        rw [oM_succ, List.nodup_append]
        refine ⟨ih, ?_, fun a ha b hb => ?_⟩
        · split
          · exact List.nodup_nil
          · exact oL_nodup
        · split at hb
          · cases hb
          · obtain ⟨i, t, hi', e⟩ := oM_pre ha
            obtain ⟨t2, e2⟩ := oL_pre hb
            intro hab
            rw [hab, e2, List.append_assoc] at e
            have := List.append_cancel_left e
            injection this with h1 h2
            omega
    exact key n
theorem oL_in {n : Nat} {lo hi : Nat → Nat} {o : List Nat} (hn : o.Nodup) (hlt : ∀ x, x ∈ o → x < n) (hr : rsP lo hi o) : ∀ (t L : List Nat), o = L ++ t → o ∈ oL n lo hi t.length L
  | [], L, e => by
    rw [List.append_nil] at e
    subst e
    show o ∈ oL0 lo hi o
    unfold oL0
    rw [if_pos hr]; simp
  | i :: t, L, e => by
    have hi' : i < n := hlt i (by rw [e]; simp)
    have hni : i ∉ L := fun h => by
      rw [e, List.nodup_append] at hn
      exact hn.2.2 i h i (by simp) rfl
    show o ∈ (List.range n).flatMap _
    rw [List.mem_flatMap]
    refine ⟨i, List.mem_range.2 hi', ?_⟩
    rw [if_neg (by rw [decide_eq_false hni]; simp)]
    exact oL_in hn hlt hr t (L ++ [i]) (by rw [e, List.append_assoc]; rfl)
theorem len_le {α β : Type} [BEq β] [LawfulBEq β] (f : α → β) (hf : ∀ a b, f a = f b → a = b) : ∀ (A : List α) (B : List β), A.Nodup → (∀ a, a ∈ A → f a ∈ B) → A.length ≤ B.length
  | [], _, _, _ => Nat.zero_le _
  | a :: A, B, hn, h => by
    have h1 := h a (by simp)
    have hn2 := List.nodup_cons.1 hn
    have h2 := len_le f hf A (B.erase (f a)) hn2.2 fun x hx => by
      rw [List.mem_erase_of_ne fun e => hn2.1 (by have e2 := hf x a e; rw [← e2]; exact hx)]
      exact h x (by simp [hx])
    rw [List.length_erase_of_mem h1] at h2
    have h3 := List.length_pos_of_mem h1
    rw [List.length_cons]
    omega
theorem rsP_of {n : Nat} {lo hi : Nat → Nat} {o : List Nat} (hlh : ∀ x, x ∈ o → lo x ≤ hi x) (h : ∀ p q, p < o.length → q < o.length → isF lo hi (oD o) p q = false) : rsP lo hi o := fun j hj => lsM_le fun i hi' => by
  by_cases e : i = j
  · subst e; exact hlh _ (oD_mem hj)
  · have := h i j (by omega) hj
    unfold isF qt at this
    rw [decide_eq_true (show i < j by omega), Bool.true_and, decide_eq_false_iff_not] at this
    omega
/-- the month turned around -/
def tl (hi : Nat → Nat) (z : Nat) : Nat := 100000 - hi z
theorem isF_turn {n : Nat} {lo hi o o' : Nat → Nat} (hb : ∀ z, z < n → lo (o z) ≤ 100000 ∧ hi (o z) ≤ 100000) (ho : ∀ z, z < n → o' z = o (n - 1 - z)) {p q : Nat} (hp : p < n) (hq : q < n) : isF (tl hi) (tl lo) o' p q = isF lo hi o (n - 1 - q) (n - 1 - p) := by
  unfold isF qt tl
  rw [ho p hp, ho q hq]
  have h1 := hb (n - 1 - p) (by omega)
  have h2 := hb (n - 1 - q) (by omega)
  rw [Bool.eq_iff_iff]
  simp only [Bool.and_eq_true, decide_eq_true_eq]
  constructor
  · rintro ⟨h3, h4⟩; exact ⟨by omega, by omega⟩
  · rintro ⟨h3, h4⟩; exact ⟨by omega, by omega⟩
theorem oD_rev {o : List Nat} {z : Nat} (hz : z < o.length) : oD o.reverse z = oD o (o.length - 1 - z) := by
  show o.reverse.getD z 0 = o.getD _ 0
  rw [List.getD_eq_getElem?_getD, List.getD_eq_getElem?_getD, List.getElem?_reverse hz]
theorem oL_turn {n : Nat} {lo hi : Nat → Nat} (hlh : ∀ j, j < n → lo j ≤ hi j) (hb : ∀ j, j < n → lo j ≤ 100000 ∧ hi j ≤ 100000) : (oL n lo hi n []).length ≤ (oL n (tl hi) (tl lo) n []).length := by
  refine len_le List.reverse (fun a b e => List.reverse_inj.1 e) _ _ oL_nodup fun o ho => ?_
  obtain ⟨m1, m2, m3, m4⟩ := oL_mem n [] (by simp) List.nodup_nil (fun x hx => by cases hx) ho
  have := oL_in (n := n) (lo := tl hi) (hi := tl lo) (o := o.reverse) (by rw [List.nodup_iff_pairwise_ne, List.pairwise_reverse]; exact (List.nodup_iff_pairwise_ne.1 m2).imp fun h => h.symm) (fun x hx => m3 x (List.mem_reverse.1 hx)) (rsP_of (n := n) (fun x hx => by
    have h1 := m3 x (List.mem_reverse.1 hx)
    have h2 := hlh x h1
    have h3 := hb x h1
    unfold tl; omega) fun p q hp hq => by
    rw [List.length_reverse, m1] at hp hq
    rw [isF_turn (n := n) (o := oD o) (fun z hz => hb _ (m3 _ (oD_mem (by omega)))) (fun z hz => by rw [oD_rev (by omega), m1]) hp hq]
    exact rsP_no m4 _ _ (by omega) (by omega)) o.reverse [] rfl
  rw [List.length_reverse, m1] at this
  exact this
theorem tl_tl {n : Nat} {lo hi : Nat → Nat} (hb : ∀ j, j < n → lo j ≤ 100000 ∧ hi j ≤ 100000) : ∀ j, j < n → tl (tl lo) j = lo j ∧ tl (tl hi) j = hi j := fun j hj => by
  have := hb j hj
  unfold tl; omega
theorem bsF_cg {lo hi lo1 hi1 : Nat → Nat} {d : Nat} : ∀ {k : Nat}, (∀ i, i < k → qt lo hi i d = qt lo1 hi1 i d) → bsF lo hi d k = bsF lo1 hi1 d k
  | 0, _ => rfl
  | k + 1, h => by
    show (if qt lo hi k d = true then _ else _) = (if qt lo1 hi1 k d = true then _ else _)
    rw [h k (by omega), bsF_cg fun i hi' => h i (by omega)]
end Go.Proofs.Ytefnljdfgjjpjaa
