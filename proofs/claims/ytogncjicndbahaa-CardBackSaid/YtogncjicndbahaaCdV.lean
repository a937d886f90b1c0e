/- Card: sound cards, deviations, allowances. -/
import Derived.Test.YtogncjicndbahaaCmB
import Derived.KernelRfl
namespace Go.Proofs.Ytogncjicndbahaa
open Go.Ab
attribute [local irreducible] aggOk drwOK
set_option maxRecDepth 100000
set_option maxHeartbeats 4000000
set_option linter.unusedVariables false
set_option linter.unusedSimpArgs false
theorem c20 (F d : Nat) (hF : 300 < F) (a : Option Addr) (n e c : Nat) (h dv : Nat → Int) (hv : VC n h dv) (r : Bool) (hr : r = true ↔ ∀ k, k < n → 0 < rs n h dv k) : ReadC (CL F (d + 2)) 20 [.sl 1000 a n c] [(1000, .ro a n e 2 fun j => [.int .i64 (h j), .int .i64 (dv j)])] (20000 + 900) (.bool r) := by
  have hn1 := hv.n1
  intro R
  rw [show 20000 + 900 = (20000) + 900 from rfl, addL_eq, ← Nat.add_assoc, ← addL_eq _ 900, Nat.add_comm R (20000)]
  refine call_in (n := 29) Try.func20 rfl rfl rfl rfl rfl rfl rfl ?_
  repeat' ((conv => whnf); first | refine eqS_rfl ?_ | refine eqA_rfl ?_ | refine eqA_of (by assumption) ?_ | refine eqS_of (by rfl) ?_ | refine eqL_rfl ?_ | refine eqJ_rfl ?_ | refine gE ?_ | refine seS_rfl ?_ | refine lsS_of hup ?_ | refine lsS_rfl ?_ | refine brS_tt ?_ | refine brS_ff ?_ | refine brS_not ?_ | refine gI ?_ | refine gT ?_ | refine gF ?_ | refine brS_intro (fun _ => ?_) (fun _ => ?_) | refine gL ?_ | refine gX ?_ | refine gO ?_ | refine gN ?_ | intro _)
  conv => whnf
  refine loS_i (fun jj f mm R' ni => ∃ j : Nat, j ≤ n ∧ (∀ q, q < j → 0 < rs n h dv q) ∧ jj = n - j + 1 ∧ f = [(0, .sl 1000 a n c), (6, .sl 1000 a n c), (7, .int .i64 (Int.ofNat n)), (8, .int .i64 (Int.ofNat j))] ∧ mm = [(1000, .ro a n e 2 fun j => [.int .i64 (h j), .int .i64 (dv j)])] ∧ R' = (addL (500 * (n - j) + R) 900) ∧ ni = 10) (n + 1) (by omega)
    ⟨[(0, .sl 1000 a n c), (6, .sl 1000 a n c), (7, .int .i64 (Int.ofNat n)), (8, .int .i64 (Int.ofNat 0))], [(1000, .ro a n e 2 fun j => [.int .i64 (h j), .int .i64 (dv j)])], (addL (500 * (n - 0) + R) 900), 10, ⟨eqF_rfl _, eqF_rfl _, eqF_rfl _, eqF_rfl _, trivial⟩, by exact WS, nM1, 0, by omega, fun q hq => absurd hq (Nat.not_lt_zero _), by omega, rfl, rfl, rfl, rfl⟩ ?_
  rintro _ _ _ _ _ ⟨j, hj, hbe, rfl, rfl, rfl, rfl, rfl⟩
  by_cases hlt : j < n
  · have t1 := iLt_t hlt
    have hB := hv.sg hlt
    have b1 := hB.h
    have b2 := hB.l
    have b3 := hB.d
    have b4 := hB.e
    have eA : wr .i64 (Int.add (h j) (dv j)) = h j + dv j := smW (n := h j + dv j) (by omega)
    have eB : wr .i64 (Int.add (nh n h j) (nd n dv j)) = nh n h j + nd n dv j := smW (n := nh n h j + nd n dv j) (by omega)
    by_cases hp : 0 < rs n h dv j
    · have t2 : iLt (wr .i64 (Int.add (h j) (dv j))) (wr .i64 (Int.add (nh n h j) (nd n dv j))) = true := by rw [eA, eB]; unfold rs at hp; exact ltT (by omega)
      repeat' ((conv => whnf); first | refine eqS_rfl ?_ | refine eqA_rfl ?_ | refine eqA_of (by assumption) ?_ | refine eqS_of (by rfl) ?_ | refine eqL_rfl ?_ | refine eqJ_rfl ?_ | refine gE ?_ | refine seS_rfl ?_ | refine lsS_of hup ?_ | refine lsS_rfl ?_ | refine brS_tt ?_ | refine brS_ff ?_ | refine brS_not ?_ | refine gI ?_ | refine gT ?_ | refine gF ?_ | refine brS_intro (fun _ => ?_) (fun _ => ?_) | refine gL ?_ | refine gX ?_ | refine gO ?_ | refine gN ?_ | refine gM ?_ | refine gY ?_ | refine call_readL (c14 F _ a n e c h dv hv j hlt) (addL (500 * (n - (j + 1)) + R) 950) (by rfl) (by exact SeesM.cons 1000 (sees_ro (i := 1000) (by rfl)) (SeesM.nil _) (fun _ _ _ _ _ _ x hx => by cases hx)) (nM1) ?_ | intro _)
      conv => whnf
      exact ⟨n - (j + 1) + 1, [(0, .sl 1000 a n c), (6, .sl 1000 a n c), (7, .int .i64 (Int.ofNat n)), (8, .int .i64 (Int.ofNat (j + 1)))], _, (addL (500 * (n - (j + 1)) + R) 900), 10, by omega, ⟨eqF_rfl _, eqF_rfl _, eqF_rfl _, ⟨congrArg (Value.int .i64) (smn (i := j + 1) (by omega)), rfl⟩, trivial⟩, by exact WS, nM1, j + 1, by omega, fun q hq => by
        by_cases e : q = j
        · rw [e]; exact hp
        · exact hbe q (by omega), rfl, rfl, rfl, rfl, rfl⟩
    · have t2 : iLt (wr .i64 (Int.add (h j) (dv j))) (wr .i64 (Int.add (nh n h j) (nd n dv j))) = false := by rw [eA, eB]; unfold rs at hp; exact ltF (by omega)
      have hrf : r = false := bool_tf fun h9 => hp (hr.1 h9 j hlt)
      subst hrf
      repeat' ((conv => whnf); first | refine eqS_rfl ?_ | refine eqA_rfl ?_ | refine eqA_of (by assumption) ?_ | refine eqS_of (by rfl) ?_ | refine eqL_rfl ?_ | refine eqJ_rfl ?_ | refine gE ?_ | refine seS_rfl ?_ | refine lsS_of hup ?_ | refine lsS_rfl ?_ | refine brS_tt ?_ | refine brS_ff ?_ | refine brS_not ?_ | refine gI ?_ | refine gT ?_ | refine gF ?_ | refine brS_intro (fun _ => ?_) (fun _ => ?_) | refine gL ?_ | refine gX ?_ | refine gO ?_ | refine gN ?_ | refine gM ?_ | refine gY ?_ | refine call_readL (c14 F _ a n e c h dv hv j hlt) (addL (500 * (n - (j + 1)) + R) 950) (by rfl) (by exact SeesM.cons 1000 (sees_ro (i := 1000) (by rfl)) (SeesM.nil _) (fun _ _ _ _ _ _ x hx => by cases hx)) (nM1) ?_ | intro _)
      conv => whnf
      exact ⟨rfl, nM1⟩
  · have e9 : j = n := by omega
    subst e9
    have t1 := iLt_f (Nat.le_refl j)
    have hrt : r = true := hr.2 hbe
    subst hrt
    repeat' ((conv => whnf); first | refine eqS_rfl ?_ | refine eqA_rfl ?_ | refine eqA_of (by assumption) ?_ | refine eqS_of (by rfl) ?_ | refine eqL_rfl ?_ | refine eqJ_rfl ?_ | refine gE ?_ | refine seS_rfl ?_ | refine lsS_of hup ?_ | refine lsS_rfl ?_ | refine brS_tt ?_ | refine brS_ff ?_ | refine brS_not ?_ | refine gI ?_ | refine gT ?_ | refine gF ?_ | refine brS_intro (fun _ => ?_) (fun _ => ?_) | refine gL ?_ | refine gX ?_ | refine gO ?_ | refine gN ?_ | refine gM ?_ | refine gY ?_ | intro _)
    conv => whnf
    exact ⟨rfl, nM1⟩
/-- where a heading lies, counted from the first point on -/
def uR (h : Nat → Int) (x : Rat) : Rat := if x < ((h 0 : Int) : Rat) then x + ((3600 : Int) : Rat) else x
theorem uR_num (h : Nat → Int) (x : Rat) : (uR h x).num = cuU h x.num x.den ∧ (uR h x).den = x.den := by
  unfold uR cuU
  simp only [lt_iff_num]
  split
  · rw [addI_num, addI_den]; exact ⟨rfl, rfl⟩
  · exact ⟨rfl, rfl⟩
/-- the segment that it lies in -/
structure Seg (n : Nat) (h : Nat → Int) (x : Rat) (k : Nat) : Prop where
  kn : k < n
  lo : ((h k : Int) : Rat) ≤ uR h x
  hi : uR h x < ((nh n h k : Int) : Rat)
  be : ∀ j, j < k → ((nh n h j : Int) : Rat) ≤ uR h x
theorem seg_U {n : Nat} {h dv : Nat → Int} {k : Nat} {x : Rat} {w : Int} (hk : k < n) (hu : CsU n h dv k x w) : Seg n h x k := by
  obtain ⟨e1, e2⟩ := uR_num h x
  refine ⟨hk, num_le_iff.2 (by rw [e1, e2]; exact hu.lo), lt_iff_num.2 (by rw [e1, e2]; exact hu.hi), fun j hj => num_le_iff.2 (by rw [e1, e2]; exact hu.be j hj)⟩
theorem seg_ex {n : Nat} {h dv : Nat → Int} (hv : VC n h dv) {x : Rat} (h0 : 0 ≤ x) (h1 : x < 3600) : ∃ k, Seg n h x k := by
  have b0 := hv.hb 0 hv.n0
  have e0 : ((0 : Int) : Rat) = 0 := rfl
  have e3 : ((3600 : Int) : Rat) = 3600 := rfl
  have g0 := Rat.intCast_le_intCast.2 b0.1
  have g1 := Rat.intCast_lt_intCast.2 b0.2
  rw [e0] at g0
  rw [e3] at g1
  have hlo : ((h 0 : Int) : Rat) ≤ uR h x := by unfold uR; split <;> grind
  have hhi : uR h x < ((h 0 + 3600 : Int) : Rat) := by unfold uR; split <;> (push_cast; grind)
  have key : ∀ m, m < n → (∃ k, k ≤ m ∧ ((h k : Int) : Rat) ≤ uR h x ∧ (k < m → uR h x < ((h (k + 1) : Int) : Rat))) := by
    intro m
    induction m with
    | zero => intro _; exact ⟨0, Nat.le_refl 0, hlo, fun h => absurd h (Nat.lt_irrefl 0)⟩
    | succ m ih =>
      intro hm
      by_cases hc : ((h (m + 1) : Int) : Rat) ≤ uR h x
      · exact ⟨m + 1, Nat.le_refl _, hc, fun h => absurd h (Nat.lt_irrefl _)⟩
      · obtain ⟨k, hk, k1, k2⟩ := ih (by omega)
        refine ⟨k, by omega, k1, fun _ => ?_⟩
        by_cases e : k = m
        · rw [e]; exact Rat.not_le.1 hc
        · exact k2 (by omega)
  obtain ⟨k, hk, k1, k2⟩ := key (n - 1) (by have := hv.n0; omega)
  have hkn : k < n := by have := hv.n0; omega
  refine ⟨k, hkn, k1, ?_, fun j hj => ?_⟩
  · unfold nh
    split
    · exact k2 (by omega)
    · exact hhi
  · have : nh n h j = h (j + 1) := by unfold nh; rw [if_pos (by omega)]
    rw [this]
    refine Rat.le_trans (Rat.intCast_le_intCast.2 ?_) k1
    by_cases e : j + 1 = k
    · rw [e]; exact Int.le_refl _
    · exact Int.le_of_lt (hv.up (j + 1) k (by omega) hkn)
/-- what the program's search sees of it -/
theorem seg_ps {n : Nat} {h dv : Nat → Int} (hv : VC n h dv) {x : Rat} (h0 : 0 ≤ x) (h1 : x < 3600) {k : Nat} (hs : Seg n h x k) {j : Nat} (hj : j ≤ k) : ps h x j = uR h x - ((h j : Int) : Rat) := by
  have hjn : j < n := by have := hs.kn; omega
  have b0 := hv.hb 0 hv.n0
  have bj := hv.hb j hjn
  have hk0 : h 0 ≤ h j := by
    by_cases e : j = 0
    · rw [e]; exact Int.le_refl _
    · exact Int.le_of_lt (hv.up 0 j (by omega) hjn)
  have hjk : h j ≤ h k := by
    by_cases e : j = k
    · rw [e]; exact Int.le_refl _
    · exact Int.le_of_lt (hv.up j k (by omega) hs.kn)
  have e0 : ((0 : Int) : Rat) = 0 := rfl
  have e1 : ((-3600 : Int) : Rat) = -3600 := rfl
  have e2 : ((7200 : Int) : Rat) = 7200 := rfl
  have e3 : ((3600 : Int) : Rat) = 3600 := rfl
  have g1 := Rat.intCast_lt_intCast.2 bj.2
  have g2 := Rat.intCast_le_intCast.2 bj.1
  have g3 := Rat.intCast_le_intCast.2 hk0
  have g4 := Rat.intCast_le_intCast.2 hjk
  have g5 := Rat.intCast_le_intCast.2 b0.1
  rw [e3] at g1
  rw [e0] at g2 g5
  have hlo := hs.lo
  obtain ⟨t, ht⟩ : ∃ t, t = x + ((-(h j) : Int) : Rat) := ⟨_, rfl⟩
  have ht2 : t = x - ((h j : Int) : Rat) := by rw [ht]; push_cast; grind
  show bkR (x + ((-(h j) : Int) : Rat)) = _
  rw [← ht]
  unfold bkR
  rw [e0, e1, e2, e3]
  unfold uR at *
  rw [e3] at *
  clear hs hv ht
  by_cases hc : x < ((h 0 : Int) : Rat)
  · rw [if_pos hc] at *
    rw [if_neg (by grind), if_pos (by grind)]; grind
  · rw [if_neg hc] at *
    rw [if_neg (by grind), if_neg (by grind), if_neg (by grind)]; grind
theorem seg_in {n : Nat} {h dv : Nat → Int} (hv : VC n h dv) {x : Rat} (h0 : 0 ≤ x) (h1 : x < 3600) {k : Nat} (hs : Seg n h x k) : inS n h x k ∧ ∀ j, j < k → ¬ inS n h x j := by
  constructor
  · unfold inS
    rw [seg_ps hv h0 h1 hs (Nat.le_refl k)]
    have := hs.hi
    push_cast
    grind
  · intro j hj hc
    unfold inS at hc
    rw [seg_ps hv h0 h1 hs (by omega)] at hc
    have := hs.be j hj
    push_cast at hc
    grind
/-- the deviation on a heading -/
def dvU (n : Nat) (h dv : Nat → Int) (x : Rat) (k : Nat) : Rat := ((dv k : Int) : Rat) + (uR h x - ((h k : Int) : Rat)) * (((nd n dv k - dv k : Int) : Rat) / ((nh n h k - h k : Int) : Rat))
theorem dvS_U {n : Nat} {h dv : Nat → Int} (hv : VC n h dv) {x : Rat} (h0 : 0 ≤ x) (h1 : x < 3600) {k : Nat} (hs : Seg n h x k) : dvS n h dv x k = dvU n h dv x k := by
  unfold dvS dvU
  rw [seg_ps hv h0 h1 hs (Nat.le_refl k)]
theorem c54u (F d : Nat) (hF : 300 < F) (a : Option Addr) (n e c : Nat) (h dv : Nat → Int) (hv : VC n h dv) (x : Rat) (hx : Vb x 3600 6000) (hx0 : (0 : Rat) ≤ x) (hx1 : x < 3600) (k : Nat) (hs : Seg n h x k) (q : Rat) (hq : q = dvU n h dv x k) : ReadC (CL F (d + 7)) 54 [.sl 1000 a n c, fr x] [(1000, .ro a n e 2 fun j => [.int .i64 (h j), .int .i64 (dv j)])] (4000000 + 300) (fr q) := by
  obtain ⟨g1, g2⟩ := seg_in hv hx0 hx1 hs
  exact c54 F d hF a n e c h dv hv x hx hx0 k hs.kn g1 g2 q (by rw [hq, dvS_U hv hx0 hx1 hs])
end Go.Proofs.Ytogncjicndbahaa
