/- RankTrue: sorting by numbers; ranks of a sorted order. -/
import Derived.Test.YtefnljdfgjjpjaaRaY
import Derived.KernelRfl
namespace Go.Proofs.Ytefnljdfgjjpjaa
open Go.Ab
attribute [local irreducible] aggOk drwOK
set_option maxRecDepth 100000
set_option maxHeartbeats 4000000
set_option linter.unusedVariables false
set_option linter.unusedSimpArgs false
theorem pcS : (List.range 32).all (fun a => (List.range 32).all fun b => !decide (a &&& b = a) || decide (pc a ≤ pc b)) = true := by decide +kernel
theorem pcJ : (List.range 6).all (fun n => (List.range 32).all fun a => (List.range 32).all fun b => !decide (a < 2 ^ n) || (!decide (b < 2 ^ n) || (!decide (a &&& b = 0) || decide (pc a + pc b ≤ n)))) = true := by decide +kernel
theorem pc_sub {a b : Nat} (ha : a < 32) (hb : b < 32) (h : ∀ e, a.testBit e = true → b.testBit e = true) : pc a ≤ pc b := by
  have h1 := pcS
  rw [List.all_eq_true] at h1
  have h1 := h1 a (List.mem_range.2 ha)
  rw [List.all_eq_true] at h1
  have h1 := h1 b (List.mem_range.2 hb)
  have e : a &&& b = a := Nat.eq_of_testBit_eq fun e => by
    rw [Nat.testBit_and]
    cases h2 : a.testBit e with
    | false => rfl
    | true => rw [h e h2]; rfl
  rw [decide_eq_true e, Bool.not_true, Bool.false_or] at h1
  exact of_decide_eq_true h1
theorem pc_dis {n a b : Nat} (hn : n ≤ 5) (ha : a < 2 ^ n) (hb : b < 2 ^ n) (h : ∀ e, a.testBit e = true → b.testBit e = false) : pc a + pc b ≤ n := by
  have h32 : 2 ^ n ≤ 32 := Nat.pow_le_pow_right (by omega) hn
  have h1 := pcJ
  rw [List.all_eq_true] at h1
  have h1 := h1 n (List.mem_range.2 (by omega))
  rw [List.all_eq_true] at h1
  have h1 := h1 a (List.mem_range.2 (by omega))
  rw [List.all_eq_true] at h1
  have h1 := h1 b (List.mem_range.2 (by omega))
  have e : a &&& b = 0 := Nat.eq_of_testBit_eq fun e => by
    rw [Nat.testBit_and, Nat.zero_testBit]
    cases h2 : a.testBit e with
    | false => rfl
    | true => rw [h e h2]; rfl
  rw [decide_eq_true e, decide_eq_true ha, decide_eq_true hb, Bool.not_true, Bool.false_or, Bool.false_or, Bool.false_or] at h1
  exact of_decide_eq_true h1
/-- an order and one more day, put at a place -/
def insF (g : Nat → Nat) (p i z : Nat) : Nat := if z < p then g z else if z = p then i else g (z - 1)
theorem insF_lt {g : Nat → Nat} {p i z : Nat} (h : z < p) : insF g p i z = g z := by unfold insF; rw [if_pos h]
theorem insF_self {g : Nat → Nat} {p i : Nat} : insF g p i p = i := by unfold insF; rw [if_neg (by omega), if_pos rfl]
theorem insF_gt {g : Nat → Nat} {p i z : Nat} (h : p < z) : insF g p i z = g (z - 1) := by unfold insF; rw [if_neg (by omega), if_neg (by omega)]
theorem insS {g : Nat → Nat} {p i : Nat} (hp : 0 < p) (z : Nat) : updG (p - 1) [.int .i64 (Int.ofNat (insF g p i p))] (updG p [.int .i64 (Int.ofNat (insF g p i (p - 1)))] (nf (insF g p i))) z = nf (insF g (p - 1) i) z := by
  by_cases e1 : z = p - 1
  · subst e1
    rw [updG_same, insF_self]
    show _ = [SV.int .i64 (Int.ofNat (insF g (p - 1) i (p - 1)))]
    rw [insF_self]
  · rw [updG_other e1]
    by_cases e2 : z = p
    · subst e2
      rw [updG_same, insF_lt (by omega)]
      show _ = [SV.int .i64 (Int.ofNat (insF g (z - 1) i z))]
      rw [insF_gt (by omega)]
    · rw [updG_other e2]
      show [SV.int .i64 (Int.ofNat (insF g p i z))] = [SV.int .i64 (Int.ofNat (insF g (p - 1) i z))]
      by_cases h : z < p
      · rw [insF_lt h, insF_lt (by omega)]
      · rw [insF_gt (by omega), insF_gt (by omega)]
/-- the first days, sorted by their numbers -/
structure SP (rv : Nat → Nat) (i : Nat) (g : Nat → Nat) : Prop where
  lt : ∀ z, z < i → g z < i
  inj : ∀ y z, y < i → z < i → g y = g z → y = z
  srt : ∀ y z, y < z → z < i → rv (g y) ≤ rv (g z)
theorem SP.ins {rv g : Nat → Nat} {i p : Nat} (h : SP rv i g) (hp : p ≤ i) (hb : ∀ z, p ≤ z → z < i → rv i < rv (g z)) (he : p = 0 ∨ rv (g (p - 1)) ≤ rv i) : SP rv (i + 1) (insF g p i) := by
  refine ⟨fun z hz => ?_, fun y z hy hz e => ?_, fun y z hyz hz => ?_⟩
  · rcases Nat.lt_trichotomy z p with h1 | h1 | h1
    · rw [insF_lt h1]; have := h.lt z (by omega); omega
    · rw [h1, insF_self]; omega
    · rw [insF_gt h1]; have := h.lt (z - 1) (by omega); omega
  · rcases Nat.lt_trichotomy z p with h1 | h1 | h1 <;> rcases Nat.lt_trichotomy y p with h2 | h2 | h2
    · rw [insF_lt h1, insF_lt h2] at e; exact h.inj y z (by omega) (by omega) e
    · rw [insF_lt h1, h2, insF_self] at e; have := h.lt z (by omega); omega
    · rw [insF_lt h1, insF_gt h2] at e; have := h.inj (y - 1) z (by omega) (by omega) e; omega
    · rw [h1, insF_self, insF_lt h2] at e; have := h.lt y (by omega); omega
    · omega
    · rw [h1, insF_self, insF_gt h2] at e; have := h.lt (y - 1) (by omega); omega
    · rw [insF_gt h1, insF_lt h2] at e; have := h.inj y (z - 1) (by omega) (by omega) e; omega
    · rw [insF_gt h1, h2, insF_self] at e; have := h.lt (z - 1) (by omega); omega
    · rw [insF_gt h1, insF_gt h2] at e; have := h.inj (y - 1) (z - 1) (by omega) (by omega) e; omega
  · rcases Nat.lt_trichotomy z p with h1 | h1 | h1 <;> rcases Nat.lt_trichotomy y p with h2 | h2 | h2
    · rw [insF_lt h1, insF_lt h2]; exact h.srt y z hyz (by omega)
    · omega
    · omega
    · rw [h1, insF_self, insF_lt h2]
      rcases he with he | he
      · omega
      · by_cases e : y = p - 1
        · rw [e]; exact he
        · exact Nat.le_trans (h.srt y (p - 1) (by omega) (by omega)) he
    · omega
    · omega
    · rw [insF_gt h1, insF_lt h2]; exact h.srt y (z - 1) (by omega) (by omega)
    · rw [insF_gt h1, h2, insF_self]; exact Nat.le_of_lt (hb (z - 1) (by omega) (by omega))
    · rw [insF_gt h1, insF_gt h2]; exact h.srt (y - 1) (z - 1) (by omega) (by omega)
theorem SP.onto {rv g : Nat → Nat} {n : Nat} (h : SP rv n g) (hn : n ≤ 5) {e : Nat} (he : e < n) : ∃ q, q < n ∧ g q = e := by
  obtain ⟨h1, h2⟩ := stL_pc hn h.lt (fun i j hi hj => h.inj i j hi hj) (Nat.le_refl n)
  exact (stL_bit g e n).1 ((pcF hn h1).full h2 e he)
/-- no day is before its lowest rank, if all is sorted by what is within the spans -/
theorem SP.rkL {rv g lo hi : Nat → Nat} {n : Nat} (h : SP rv n g) (hn : n ≤ 5) (hr : ∀ j, j < n → lo j ≤ rv j ∧ rv j ≤ hi j) {p : Nat} (hp : p < n) : rkL lo hi n (g p) ≤ p + 1 := by
  obtain ⟨h1, h2⟩ := stL_pc hn h.lt (fun i j hi hj => h.inj i j hi hj) (show p ≤ n by omega)
  have h32 : 2 ^ n ≤ 32 := Nat.pow_le_pow_right (by omega) hn
  have hb := bsF_lt2 hn (lo := lo) (hi := hi) (d := g p) (Nat.le_refl n)
  have key := pc_sub (a := bsF lo hi (g p) n) (b := stL g p) (by omega) (by omega) fun e he => by
    rw [bsF_bit, Bool.and_eq_true] at he
    obtain ⟨e1, e2⟩ := he
    have e1 := of_decide_eq_true e1
    have e2 : hi e < lo (g p) := of_decide_eq_true e2
    obtain ⟨q, hq, rfl⟩ := h.onto hn e1
    refine (stL_bit g (g q) p).2 ⟨q, ?_, rfl⟩
    have r1 := hr (g q) e1
    have r2 := hr (g p) (h.lt p hp)
    rcases Nat.lt_trichotomy q p with c | c | c
    · exact c
    · subst c; omega
    · have := h.srt p q c hq; omega
  unfold Go.Proofs.Ytefnljdfgjjpjaa.rkL
  omega
theorem SP.rkH {rv g lo hi : Nat → Nat} {n : Nat} (h : SP rv n g) (hn : n ≤ 5) (hr : ∀ j, j < n → lo j ≤ rv j ∧ rv j ≤ hi j) (hh : ∀ j, hi j ≤ 100000) {p : Nat} (hp : p < n) : p + 1 ≤ rkH lo hi n (g p) := by
  obtain ⟨h1, h2⟩ := stL_pc hn h.lt (fun i j hi hj => h.inj i j hi hj) (show p + 1 ≤ n by omega)
  have hb := bsF_lt2 hn (lo := tl hi) (hi := tl lo) (d := g p) (Nat.le_refl n)
  have key := pc_dis hn hb h1 fun e he => by
    rw [bsF_bit, Bool.and_eq_true] at he
    obtain ⟨e1, e2⟩ := he
    have e1 := of_decide_eq_true e1
    have e2 : tl lo e < tl hi (g p) := of_decide_eq_true e2
    unfold tl at e2
    refine bool_tf fun hs => ?_
    obtain ⟨q, hq, rfl⟩ := (stL_bit g e (p + 1)).1 hs
    have r1 := hr (g q) e1
    have r2 := hr (g p) (h.lt p hp)
    have r3 := hh (g p)
    by_cases c : q = p
    · subst c; omega
    · have := h.srt q p (by omega) hp; omega
  unfold Go.Proofs.Ytefnljdfgjjpjaa.rkH
  omega
/-- what is known of the first numbers -/
def re (rv : Nat → Nat) (k z : Nat) : Nat := if z < k then rv z else 0
theorem re_lt {rv : Nat → Nat} {k z : Nat} (h : z < k) : re rv k z = rv z := by unfold re; rw [if_pos h]
theorem re1 {rv : Nat → Nat} {i v : Nat} (h : rv i = v) (z : Nat) : updG i [.int .i64 (Int.ofNat v)] (nf (re rv i)) z = nf (re rv (i + 1)) z := by
  by_cases e : z = i
  · subst e
    rw [updG_same]
    show _ = [SV.int .i64 (Int.ofNat (re rv (z + 1) z))]
    rw [re_lt (by omega), h]
  · rw [updG_other e]
    show [SV.int .i64 (Int.ofNat (re rv i z))] = [SV.int .i64 (Int.ofNat (re rv (i + 1) z))]
    unfold re
    have : (z < i + 1) = (z < i) := by apply propext; omega
    simp only [this]
theorem re2 {rv : Nat → Nat} {i : Nat} {v : Int} {w : List SV} (h : v = Int.ofNat (rv i)) (z : Nat) : updG i [.int .i64 v] (updG i w (nf (re rv i))) z = nf (re rv (i + 1)) z := by
  subst h
  by_cases e : z = i
  · have := re1 (rv := rv) (i := i) rfl z
    subst e
    rw [updG_same] at this ⊢
    exact this
  · have := re1 (rv := rv) (i := i) rfl z
    rw [updG_other e] at this ⊢
    rw [updG_other e]
    exact this
/-- a number of a day, from a truth -/
def rvT (nb : Nat) (t lo hi : Nat → Nat) (z : Nat) : Nat := if z < nb then lo z + t z % (hi z - lo z + 1) else lo z
theorem rvT_in {nb : Nat} {t lo hi : Nat → Nat} {z : Nat} (h : lo z ≤ hi z) : lo z ≤ rvT nb t lo hi z ∧ rvT nb t lo hi z ≤ hi z := by
  unfold rvT
  split
  · have := Nat.mod_lt (t z) (show 0 < hi z - lo z + 1 by omega); omega
  · omega
end Go.Proofs.Ytefnljdfgjjpjaa
