/- RankOrders: the law. -/
import Derived.Test.YtefnljdfgjjpjaaRaOe
import Derived.KernelRfl
namespace Go.Proofs.Ytefnljdfgjjpjaa
open Go.Ab
attribute [local irreducible] aggOk drwOK
set_option maxRecDepth 100000
set_option maxHeartbeats 4000000
set_option linter.unusedVariables false
set_option linter.unusedSimpArgs false
/-- a number among cells -/
def intAt (l : List Value) (i : Nat) : Int := match l[i]? with
  | some (.int _ n) => n
  | _ => 0
theorem ints_fn {W : World} {v : Value} {ys : List (List Value)} (h : SlW W 1 (RF [.i .i64]) v ys) : ∃ x : Nat → Int, ∀ j y, ys[j]? = some y → dens [.int .i64 (x j)] = y :=
  ⟨fun j => intAt (ys.getD j []) 0, fun j y hy => by
    obtain ⟨v1, r1, rfl, h1, h2⟩ := rf_mem (l := [.i .i64]) h hy
    have h2 : r1 = [] := h2
    subst h2
    obtain ⟨n, rfl, _⟩ := h1
    show [Value.int .i64 (intAt (ys.getD j []) 0)] = _
    rw [List.getD_eq_getElem?_getD, hy]
    rfl⟩
theorem spans_fn {W : World} {v : Value} {ys : List (List Value)} (h : SlW W 2 (RF [.i .i64, .i .i64]) v ys) : ∃ x z : Nat → Int, ∀ j y, ys[j]? = some y → dens [.int .i64 (x j), .int .i64 (z j)] = y :=
  ⟨fun j => intAt (ys.getD j []) 0, fun j => intAt (ys.getD j []) 1, fun j y hy => by
    obtain ⟨v1, r1, rfl, h1, v2, r2, rfl, h2, h3⟩ := rf_mem (l := [.i .i64, .i .i64]) h hy
    have h3 : r2 = [] := h3
    subst h3
    obtain ⟨n, rfl, _⟩ := h1
    obtain ⟨m, rfl, _⟩ := h2
    show [Value.int .i64 (intAt (ys.getD j []) 0), Value.int .i64 (intAt (ys.getD j []) 1)] = _
    rw [List.getD_eq_getElem?_getD, hy]
    rfl⟩
theorem fb_cg {f g : Nat → Nat} : ∀ {n : Nat}, (∀ j, j < n → f j = g j) → fb f n = fb g n
  | 0, _ => rfl
  | n + 1, h => by
    show (if fb f n = 0 then f n else fb f n) = (if fb g n = 0 then g n else fb g n)
    rw [fb_cg fun j hj => h j (by omega), h n (by omega)]
theorem odE_cg {x y x' y' o o' : Nat → Int} {n : Nat} (hx : ∀ j, j < n → x j = x' j) (hy : ∀ j, j < n → y j = y' j) (ho : ∀ j, j < n → o j = o' j) : odE x y n n o = odE x' y' n n o' := by
  have e1 : fb (bd x y) n = fb (bd x' y') n := fb_cg fun j hj => by unfold bd; rw [hx j hj, hy j hj]
  have e2 : fb (st1 o n) n = fb (st1 o' n) n := fb_cg fun j hj => by
    unfold st1
    rw [ho j hj]
    have : (∃ i, i < j ∧ o i = o' j) = (∃ i, i < j ∧ o' i = o' j) := by
      apply propext
      constructor
      · rintro ⟨i, hi, e⟩; exact ⟨i, hi, by rw [← ho i (by omega)]; exact e⟩
      · rintro ⟨i, hi, e⟩; exact ⟨i, hi, by rw [ho i (by omega)]; exact e⟩
    simp only [this]
  unfold odE ckE
  rw [e1, e2]
theorem l3 (F d : Nat) (hF : 300 < F) (am : Option Addr) (n em cm : Nat) (x y : Nat → Int) (ao : Option Addr) (nO eo co : Nat) (o : Nat → Int) (p q : Int) :
    ReadC (CL F (d + 60)) 3 [.sl 1000 am n cm, .sl 1001 ao nO co, .int .i64 p, .int .i64 q] [(1000, .ro am n em 2 (mi x y)), (1001, .ro ao nO eo 1 (oi o))] (10000000 + 100) (.bool true) := by
  have hF2 : 200 < F := by omega
  intro R
  rw [show 10000000 + 100 = (10000000) + 100 from rfl, addL_eq, ← Nat.add_assoc, ← addL_eq _ 100, Nat.add_comm R (10000000)]
  by_cases b1 : 60 < n
  · have t1 : iLt 60 (Int.ofNat n) = true := iLt_t (a := 60) (b := n) b1
    refine call_in (n := 83) Try.func3 rfl rfl rfl rfl rfl rfl rfl ?_
    repeat' ((conv => whnf); first | refine eqS_rfl ?_ | refine eqA_rfl ?_ | refine eqA_of (by assumption) ?_ | refine eqS_of (by rfl) ?_ | refine eqL_rfl ?_ | refine eqJ_rfl ?_ | refine gE ?_ | refine seS_rfl ?_ | refine lsS_of hup ?_ | refine lsS_rfl ?_ | refine brS_tt ?_ | refine brS_ff ?_ | refine brS_not ?_ | refine gI ?_ | refine gT ?_ | refine gF ?_ | refine brS_intro (fun _ => ?_) (fun _ => ?_) | refine gL ?_ | refine gX ?_ | refine gO ?_ | refine gN ?_ | refine call_readL (k15) (addL (9000000 + R) 50) (by rfl) (by exact SeesM.cons 1000 (sees_ro (i := 1000) (by rfl)) (SeesM.cons 1001 (sees_ro (i := 1001) (by rfl)) (SeesM.nil _) (fun _ _ _ _ _ _ x hx => by cases hx)) (fun _ _ _ _ _ _ x hx => by rcases List.mem_singleton.1 hx with rfl; exact fun _ h => h)) (nM1) ?_ | refine call_readL (k16) (addL (8000000 + R) 50) (by rfl) (by exact SeesM.cons 1000 (sees_ro (i := 1000) (by rfl)) (SeesM.cons 1001 (sees_ro (i := 1001) (by rfl)) (SeesM.nil _) (fun _ _ _ _ _ _ x hx => by cases hx)) (fun _ _ _ _ _ _ x hx => by rcases List.mem_singleton.1 hx with rfl; exact fun _ h => h)) (nM1) ?_ | refine call_readL (k17) (addL (7000000 + R) 50) (by rfl) (by exact SeesM.cons 1000 (sees_ro (i := 1000) (by rfl)) (SeesM.cons 1001 (sees_ro (i := 1001) (by rfl)) (SeesM.nil _) (fun _ _ _ _ _ _ x hx => by cases hx)) (fun _ _ _ _ _ _ x hx => by rcases List.mem_singleton.1 hx with rfl; exact fun _ h => h)) (nM1) ?_ | refine call_readL (k18) (addL (6000000 + R) 50) (by rfl) (by exact SeesM.cons 1000 (sees_ro (i := 1000) (by rfl)) (SeesM.cons 1001 (sees_ro (i := 1001) (by rfl)) (SeesM.nil _) (fun _ _ _ _ _ _ x hx => by cases hx)) (fun _ _ _ _ _ _ x hx => by rcases List.mem_singleton.1 hx with rfl; exact fun _ h => h)) (nM1) ?_ | refine call_readL (k19) (addL (5000000 + R) 50) (by rfl) (by exact SeesM.cons 1000 (sees_ro (i := 1000) (by rfl)) (SeesM.cons 1001 (sees_ro (i := 1001) (by rfl)) (SeesM.nil _) (fun _ _ _ _ _ _ x hx => by cases hx)) (fun _ _ _ _ _ _ x hx => by rcases List.mem_singleton.1 hx with rfl; exact fun _ h => h)) (nM1) ?_ | refine call_readL (k20) (addL (2000000 + R) 50) (by rfl) (by exact SeesM.cons 1000 (sees_ro (i := 1000) (by rfl)) (SeesM.cons 1001 (sees_ro (i := 1001) (by rfl)) (SeesM.nil _) (fun _ _ _ _ _ _ x hx => by cases hx)) (fun _ _ _ _ _ _ x hx => by rcases List.mem_singleton.1 hx with rfl; exact fun _ h => h)) (nM1) ?_ | refine call_readL (k21) (addL (1000000 + R) 50) (by rfl) (by exact SeesM.cons 1000 (sees_ro (i := 1000) (by rfl)) (SeesM.nil _) (fun _ _ _ _ _ _ x hx => by cases hx)) (nM1) ?_ | refine call_readL (k22) (addL (500000 + R) 50) (by rfl) (by exact SeesM.cons 1000 (sees_ro (i := 1000) (by rfl)) (SeesM.nil _) (fun _ _ _ _ _ _ x hx => by cases hx)) (nM1) ?_ | refine call_w rfl ?_ | intro _)
    conv => whnf
    exact ⟨rfl, nM1⟩
  have t1 : iLt 60 (Int.ofNat n) = false := iLt_f (a := 60) (b := n) (by omega)
  by_cases b2 : 60 < nO
  · have t2 : iLt 60 (Int.ofNat nO) = true := iLt_t (a := 60) (b := nO) b2
    refine call_in (n := 83) Try.func3 rfl rfl rfl rfl rfl rfl rfl ?_
    repeat' ((conv => whnf); first | refine eqS_rfl ?_ | refine eqA_rfl ?_ | refine eqA_of (by assumption) ?_ | refine eqS_of (by rfl) ?_ | refine eqL_rfl ?_ | refine eqJ_rfl ?_ | refine gE ?_ | refine seS_rfl ?_ | refine lsS_of hup ?_ | refine lsS_rfl ?_ | refine brS_tt ?_ | refine brS_ff ?_ | refine brS_not ?_ | refine gI ?_ | refine gT ?_ | refine gF ?_ | refine brS_intro (fun _ => ?_) (fun _ => ?_) | refine gL ?_ | refine gX ?_ | refine gO ?_ | refine gN ?_ | refine call_readL (k15) (addL (9000000 + R) 50) (by rfl) (by exact SeesM.cons 1000 (sees_ro (i := 1000) (by rfl)) (SeesM.cons 1001 (sees_ro (i := 1001) (by rfl)) (SeesM.nil _) (fun _ _ _ _ _ _ x hx => by cases hx)) (fun _ _ _ _ _ _ x hx => by rcases List.mem_singleton.1 hx with rfl; exact fun _ h => h)) (nM1) ?_ | refine call_readL (k16) (addL (8000000 + R) 50) (by rfl) (by exact SeesM.cons 1000 (sees_ro (i := 1000) (by rfl)) (SeesM.cons 1001 (sees_ro (i := 1001) (by rfl)) (SeesM.nil _) (fun _ _ _ _ _ _ x hx => by cases hx)) (fun _ _ _ _ _ _ x hx => by rcases List.mem_singleton.1 hx with rfl; exact fun _ h => h)) (nM1) ?_ | refine call_readL (k17) (addL (7000000 + R) 50) (by rfl) (by exact SeesM.cons 1000 (sees_ro (i := 1000) (by rfl)) (SeesM.cons 1001 (sees_ro (i := 1001) (by rfl)) (SeesM.nil _) (fun _ _ _ _ _ _ x hx => by cases hx)) (fun _ _ _ _ _ _ x hx => by rcases List.mem_singleton.1 hx with rfl; exact fun _ h => h)) (nM1) ?_ | refine call_readL (k18) (addL (6000000 + R) 50) (by rfl) (by exact SeesM.cons 1000 (sees_ro (i := 1000) (by rfl)) (SeesM.cons 1001 (sees_ro (i := 1001) (by rfl)) (SeesM.nil _) (fun _ _ _ _ _ _ x hx => by cases hx)) (fun _ _ _ _ _ _ x hx => by rcases List.mem_singleton.1 hx with rfl; exact fun _ h => h)) (nM1) ?_ | refine call_readL (k19) (addL (5000000 + R) 50) (by rfl) (by exact SeesM.cons 1000 (sees_ro (i := 1000) (by rfl)) (SeesM.cons 1001 (sees_ro (i := 1001) (by rfl)) (SeesM.nil _) (fun _ _ _ _ _ _ x hx => by cases hx)) (fun _ _ _ _ _ _ x hx => by rcases List.mem_singleton.1 hx with rfl; exact fun _ h => h)) (nM1) ?_ | refine call_readL (k20) (addL (2000000 + R) 50) (by rfl) (by exact SeesM.cons 1000 (sees_ro (i := 1000) (by rfl)) (SeesM.cons 1001 (sees_ro (i := 1001) (by rfl)) (SeesM.nil _) (fun _ _ _ _ _ _ x hx => by cases hx)) (fun _ _ _ _ _ _ x hx => by rcases List.mem_singleton.1 hx with rfl; exact fun _ h => h)) (nM1) ?_ | refine call_readL (k21) (addL (1000000 + R) 50) (by rfl) (by exact SeesM.cons 1000 (sees_ro (i := 1000) (by rfl)) (SeesM.nil _) (fun _ _ _ _ _ _ x hx => by cases hx)) (nM1) ?_ | refine call_readL (k22) (addL (500000 + R) 50) (by rfl) (by exact SeesM.cons 1000 (sees_ro (i := 1000) (by rfl)) (SeesM.nil _) (fun _ _ _ _ _ _ x hx => by cases hx)) (nM1) ?_ | refine call_w rfl ?_ | intro _)
    conv => whnf
    exact ⟨rfl, nM1⟩
  have t2 : iLt 60 (Int.ofNat nO) = false := iLt_f (a := 60) (b := nO) (by omega)
  have k21 := c21i F (d + 58) hF2 am n em cm x y
  have k22 := c22i F (d + 57) hF2 am n em cm x y
  by_cases he : odE x y n nO o = 0
  case neg =>
    have k15 := c15e F (d + 55) hF2 am n em cm x y ao nO eo co o he
    have k16 := c16e F (d + 55) hF2 am n em cm x y ao nO eo co o he
    have k17 := c17e F (d + 55) hF2 am n em cm x y ao nO eo co o p q he
    have k18 := c18e F (d + 55) hF2 am n em cm x y ao nO eo co o p q he
    have k19 := c19e F (d + 55) hF2 am n em cm x y ao nO eo co o he
    have k20 := c20e F (d + 54) hF2 am n em cm x y ao nO eo co o he
    generalize odE x y n nO o = e at k15 k16 k17 k18 k19 k20
    generalize ckE x y n = ce at k21 k22
    refine call_in (n := 83) Try.func3 rfl rfl rfl rfl rfl rfl rfl ?_
    repeat' ((conv => whnf); first | refine eqS_rfl ?_ | refine eqA_rfl ?_ | refine eqA_of (by assumption) ?_ | refine eqS_of (by rfl) ?_ | refine eqL_rfl ?_ | refine eqJ_rfl ?_ | refine gE ?_ | refine seS_rfl ?_ | refine lsS_of hup ?_ | refine lsS_rfl ?_ | refine brS_tt ?_ | refine brS_ff ?_ | refine brS_not ?_ | refine gI ?_ | refine gT ?_ | refine gF ?_ | refine brS_intro (fun _ => ?_) (fun _ => ?_) | refine gL ?_ | refine gX ?_ | refine gO ?_ | refine gN ?_ | refine call_readL (k15) (addL (9000000 + R) 50) (by rfl) (by exact SeesM.cons 1000 (sees_ro (i := 1000) (by rfl)) (SeesM.cons 1001 (sees_ro (i := 1001) (by rfl)) (SeesM.nil _) (fun _ _ _ _ _ _ x hx => by cases hx)) (fun _ _ _ _ _ _ x hx => by rcases List.mem_singleton.1 hx with rfl; exact fun _ h => h)) (nM1) ?_ | refine call_readL (k16) (addL (8000000 + R) 50) (by rfl) (by exact SeesM.cons 1000 (sees_ro (i := 1000) (by rfl)) (SeesM.cons 1001 (sees_ro (i := 1001) (by rfl)) (SeesM.nil _) (fun _ _ _ _ _ _ x hx => by cases hx)) (fun _ _ _ _ _ _ x hx => by rcases List.mem_singleton.1 hx with rfl; exact fun _ h => h)) (nM1) ?_ | refine call_readL (k17) (addL (7000000 + R) 50) (by rfl) (by exact SeesM.cons 1000 (sees_ro (i := 1000) (by rfl)) (SeesM.cons 1001 (sees_ro (i := 1001) (by rfl)) (SeesM.nil _) (fun _ _ _ _ _ _ x hx => by cases hx)) (fun _ _ _ _ _ _ x hx => by rcases List.mem_singleton.1 hx with rfl; exact fun _ h => h)) (nM1) ?_ | refine call_readL (k18) (addL (6000000 + R) 50) (by rfl) (by exact SeesM.cons 1000 (sees_ro (i := 1000) (by rfl)) (SeesM.cons 1001 (sees_ro (i := 1001) (by rfl)) (SeesM.nil _) (fun _ _ _ _ _ _ x hx => by cases hx)) (fun _ _ _ _ _ _ x hx => by rcases List.mem_singleton.1 hx with rfl; exact fun _ h => h)) (nM1) ?_ | refine call_readL (k19) (addL (5000000 + R) 50) (by rfl) (by exact SeesM.cons 1000 (sees_ro (i := 1000) (by rfl)) (SeesM.cons 1001 (sees_ro (i := 1001) (by rfl)) (SeesM.nil _) (fun _ _ _ _ _ _ x hx => by cases hx)) (fun _ _ _ _ _ _ x hx => by rcases List.mem_singleton.1 hx with rfl; exact fun _ h => h)) (nM1) ?_ | refine call_readL (k20) (addL (2000000 + R) 50) (by rfl) (by exact SeesM.cons 1000 (sees_ro (i := 1000) (by rfl)) (SeesM.cons 1001 (sees_ro (i := 1001) (by rfl)) (SeesM.nil _) (fun _ _ _ _ _ _ x hx => by cases hx)) (fun _ _ _ _ _ _ x hx => by rcases List.mem_singleton.1 hx with rfl; exact fun _ h => h)) (nM1) ?_ | refine call_readL (k21) (addL (1000000 + R) 50) (by rfl) (by exact SeesM.cons 1000 (sees_ro (i := 1000) (by rfl)) (SeesM.nil _) (fun _ _ _ _ _ _ x hx => by cases hx)) (nM1) ?_ | refine call_readL (k22) (addL (500000 + R) 50) (by rfl) (by exact SeesM.cons 1000 (sees_ro (i := 1000) (by rfl)) (SeesM.nil _) (fun _ _ _ _ _ _ x hx => by cases hx)) (nM1) ?_ | refine call_w rfl ?_ | intro _)
    conv => whnf
    exact ⟨rfl, nM1⟩
  have hck : ckE x y n = 0 := by
    unfold odE at he
    by_cases h : ckE x y n = 0
    · exact h
    · rw [if_neg h] at he; exact absurd he h
  have hnO : nO = n := by
    unfold odE at he
    rw [if_pos hck] at he
    by_cases h : nO = n
    · exact h
    · rw [if_neg h] at he; cases he
  subst hnO
  generalize nO = n at *
  obtain ⟨hn0, hn, hbd⟩ := ckE_ok hck
  have hst : fb (st1 o n) n = 0 := by
    unfold odE at he
    rw [if_pos hck, if_pos rfl] at he
    exact he
  obtain ⟨lo, hlo⟩ : ∃ lo : Nat → Nat, ∀ z, lo z = (x z).toNat := ⟨fun z => (x z).toNat, fun _ => rfl⟩
  obtain ⟨hi, hhi⟩ : ∃ hi : Nat → Nat, ∀ z, hi z = (y z).toNat := ⟨fun z => (y z).toNat, fun _ => rfl⟩
  obtain ⟨o1, ho1⟩ : ∃ o1 : Nat → Nat, ∀ z, o1 z = ov o z := ⟨ov o, fun _ => rfl⟩
  have hx : ∀ z, z < n → x z = Int.ofNat (lo z) := fun z hz => by
    have := bd_ok (hbd z hz)
    rw [hlo]
    show x z = ((x z).toNat : Int)
    omega
  have hy : ∀ z, z < n → y z = Int.ofNat (hi z) := fun z hz => by
    have := bd_ok (hbd z hz)
    rw [hhi]
    show y z = ((y z).toNat : Int)
    omega
  have hok := fun z hz => st1_ok (fb_zero hst z hz)
  have hoo : ∀ z, z < n → o z = Int.ofNat (o1 z) := fun z hz => by rw [ho1]; exact (hok z hz).1
  have hlh : ∀ j, j < n → lo j ≤ hi j ∧ hi j ≤ 100000 := fun j hj => by
    have h1 := bd_ok (hbd j hj)
    have h2 : x j = (lo j : Int) := hx j hj
    have h3 : y j = (hi j : Int) := hy j hj
    omega
  have ho : ∀ j, j < n → o1 j < n := fun j hj => by rw [ho1]; exact (hok j hj).2.1
  have hin : ∀ i j, i < n → j < n → o1 i = o1 j → i = j := fun i j hi' hj e => by
    have e2 : o i = o j := by rw [hoo i hi', hoo j hj, e]
    rcases Nat.lt_trichotomy i j with h | h | h
    · exact absurd e2 ((hok j hj).2.2 i h)
    · exact h
    · exact absurd e2.symm ((hok i hi').2.2 j h)
  have hod : odE (fun z => Int.ofNat (lo z)) (fun z => Int.ofNat (hi z)) n n (fun z => Int.ofNat (o1 z)) = 0 := (odE_cg hx hy hoo).symm.trans he
  have hrM : ∀ z, z < n → mi x y z = mf lo hi z := fun z hz => by
    show [SV.int .i64 (x z), SV.int .i64 (y z)] = _
    rw [hx z hz, hy z hz]
  have hrO : ∀ z, z < n → oi o z = nf o1 z := fun z hz => by
    show [SV.int .i64 (o z)] = _
    rw [hoo z hz]
  rw [hck] at k21 k22
  rcases fst_or (isF lo hi o1) n with ⟨p0, q0, hst2⟩ | hno
  · have k15 := c15f F (d + 55) hF2 am n em cm lo hi hn0 hn hlh ao eo co o1 ho hin p0 q0 hst2
    have k16 := c16f F (d + 55) hF2 am n em cm lo hi hn0 hn hlh ao eo co o1 ho hin hod p0 q0 hst2
    have k19 := c19f F (d + 55) hF2 am n em cm lo hi hn0 hn hlh ao eo co o1 ho hin p0 q0 hst2
    have k20 := c20f F (d + 54) hF2 am n em cm lo hi hn0 hn hlh ao eo co o1 ho hin hod p0 q0 hst2
    cases hpq : ((!(iLt p 0) && iLt p (Int.ofNat n)) && (!(iLt q 0) && iLt q (Int.ofNat n))) with
    | true =>
      rw [Bool.and_eq_true] at hpq
      obtain ⟨e1, e2⟩ := hpq
      obtain ⟨p1, rfl, hp1⟩ : ∃ p1 : Nat, p = Int.ofNat p1 ∧ p1 < n := ⟨p.toNat, st1_in (o := fun _ => p) (j := 0) e1⟩
      obtain ⟨q1, rfl, hq1⟩ : ∃ q1 : Nat, q = Int.ofNat q1 ∧ q1 < n := ⟨q.toNat, st1_in (o := fun _ => q) (j := 0) e2⟩
      have k17 := c17 F (d + 55) hF2 am n em cm lo hi hn0 hn hlh ao eo co o1 ho hin p1 q1 hp1 hq1
      have k18 := c18 F (d + 55) hF2 am n em cm lo hi hn0 hn hlh ao eo co o1 ho hin hod p1 q1 hp1 hq1
      generalize vfE (isF lo hi o1 p1 q1) = ve at k17 k18
      refine call_in (n := 83) Try.func3 rfl rfl rfl rfl rfl rfl rfl ?_
      repeat' ((conv => whnf); first | refine eqS_rfl ?_ | refine eqA_rfl ?_ | refine eqA_of (by assumption) ?_ | refine eqS_of (by rfl) ?_ | refine eqL_rfl ?_ | refine eqJ_rfl ?_ | refine gE ?_ | refine seS_rfl ?_ | refine lsS_of hup ?_ | refine lsS_rfl ?_ | refine brS_tt ?_ | refine brS_ff ?_ | refine brS_not ?_ | refine gI ?_ | refine gT ?_ | refine gF ?_ | refine brS_intro (fun _ => ?_) (fun _ => ?_) | refine gL ?_ | refine gX ?_ | refine gO ?_ | refine gN ?_ | refine call_readL (k15) (addL (9000000 + R) 50) (by rfl) (by exact SeesM.cons 1000 (SeesE.ro_congr (sees_ro (i := 1000) (by rfl)) hrM) (SeesM.cons 1001 (SeesE.ro_congr (sees_ro (i := 1001) (by rfl)) hrO) (SeesM.nil _) (fun _ _ _ _ _ _ x hx => by cases hx)) (fun _ _ _ _ _ _ x hx => by rcases List.mem_singleton.1 hx with rfl; exact fun _ h => h)) (nM1) ?_ | refine call_readL (k16) (addL (8000000 + R) 50) (by rfl) (by exact SeesM.cons 1000 (SeesE.ro_congr (sees_ro (i := 1000) (by rfl)) hrM) (SeesM.cons 1001 (SeesE.ro_congr (sees_ro (i := 1001) (by rfl)) hrO) (SeesM.nil _) (fun _ _ _ _ _ _ x hx => by cases hx)) (fun _ _ _ _ _ _ x hx => by rcases List.mem_singleton.1 hx with rfl; exact fun _ h => h)) (nM1) ?_ | refine call_readL (k17) (addL (7000000 + R) 50) (by rfl) (by exact SeesM.cons 1000 (SeesE.ro_congr (sees_ro (i := 1000) (by rfl)) hrM) (SeesM.cons 1001 (SeesE.ro_congr (sees_ro (i := 1001) (by rfl)) hrO) (SeesM.nil _) (fun _ _ _ _ _ _ x hx => by cases hx)) (fun _ _ _ _ _ _ x hx => by rcases List.mem_singleton.1 hx with rfl; exact fun _ h => h)) (nM1) ?_ | refine call_readL (k18) (addL (6000000 + R) 50) (by rfl) (by exact SeesM.cons 1000 (SeesE.ro_congr (sees_ro (i := 1000) (by rfl)) hrM) (SeesM.cons 1001 (SeesE.ro_congr (sees_ro (i := 1001) (by rfl)) hrO) (SeesM.nil _) (fun _ _ _ _ _ _ x hx => by cases hx)) (fun _ _ _ _ _ _ x hx => by rcases List.mem_singleton.1 hx with rfl; exact fun _ h => h)) (nM1) ?_ | refine call_readL (k19) (addL (5000000 + R) 50) (by rfl) (by exact SeesM.cons 1000 (SeesE.ro_congr (sees_ro (i := 1000) (by rfl)) hrM) (SeesM.cons 1001 (SeesE.ro_congr (sees_ro (i := 1001) (by rfl)) hrO) (SeesM.nil _) (fun _ _ _ _ _ _ x hx => by cases hx)) (fun _ _ _ _ _ _ x hx => by rcases List.mem_singleton.1 hx with rfl; exact fun _ h => h)) (nM1) ?_ | refine call_readL (k20) (addL (2000000 + R) 50) (by rfl) (by exact SeesM.cons 1000 (SeesE.ro_congr (sees_ro (i := 1000) (by rfl)) hrM) (SeesM.cons 1001 (SeesE.ro_congr (sees_ro (i := 1001) (by rfl)) hrO) (SeesM.nil _) (fun _ _ _ _ _ _ x hx => by cases hx)) (fun _ _ _ _ _ _ x hx => by rcases List.mem_singleton.1 hx with rfl; exact fun _ h => h)) (nM1) ?_ | refine call_readL (k21) (addL (1000000 + R) 50) (by rfl) (by exact SeesM.cons 1000 (sees_ro (i := 1000) (by rfl)) (SeesM.nil _) (fun _ _ _ _ _ _ x hx => by cases hx)) (nM1) ?_ | refine call_readL (k22) (addL (500000 + R) 50) (by rfl) (by exact SeesM.cons 1000 (sees_ro (i := 1000) (by rfl)) (SeesM.nil _) (fun _ _ _ _ _ _ x hx => by cases hx)) (nM1) ?_ | refine call_w rfl ?_ | intro _)
      conv => whnf
      exact ⟨rfl, nM1⟩
    | false =>
      have k17 := c17b F (d + 55) hF2 am n em cm lo hi hn0 hn hlh ao eo co o1 hod p q hpq
      have k18 := c18b F (d + 55) hF2 am n em cm lo hi hn0 hn hlh ao eo co o1 hod p q hpq
      refine call_in (n := 83) Try.func3 rfl rfl rfl rfl rfl rfl rfl ?_
      repeat' ((conv => whnf); first | refine eqS_rfl ?_ | refine eqA_rfl ?_ | refine eqA_of (by assumption) ?_ | refine eqS_of (by rfl) ?_ | refine eqL_rfl ?_ | refine eqJ_rfl ?_ | refine gE ?_ | refine seS_rfl ?_ | refine lsS_of hup ?_ | refine lsS_rfl ?_ | refine brS_tt ?_ | refine brS_ff ?_ | refine brS_not ?_ | refine gI ?_ | refine gT ?_ | refine gF ?_ | refine brS_intro (fun _ => ?_) (fun _ => ?_) | refine gL ?_ | refine gX ?_ | refine gO ?_ | refine gN ?_ | refine call_readL (k15) (addL (9000000 + R) 50) (by rfl) (by exact SeesM.cons 1000 (SeesE.ro_congr (sees_ro (i := 1000) (by rfl)) hrM) (SeesM.cons 1001 (SeesE.ro_congr (sees_ro (i := 1001) (by rfl)) hrO) (SeesM.nil _) (fun _ _ _ _ _ _ x hx => by cases hx)) (fun _ _ _ _ _ _ x hx => by rcases List.mem_singleton.1 hx with rfl; exact fun _ h => h)) (nM1) ?_ | refine call_readL (k16) (addL (8000000 + R) 50) (by rfl) (by exact SeesM.cons 1000 (SeesE.ro_congr (sees_ro (i := 1000) (by rfl)) hrM) (SeesM.cons 1001 (SeesE.ro_congr (sees_ro (i := 1001) (by rfl)) hrO) (SeesM.nil _) (fun _ _ _ _ _ _ x hx => by cases hx)) (fun _ _ _ _ _ _ x hx => by rcases List.mem_singleton.1 hx with rfl; exact fun _ h => h)) (nM1) ?_ | refine call_readL (k17) (addL (7000000 + R) 50) (by rfl) (by exact SeesM.cons 1000 (SeesE.ro_congr (sees_ro (i := 1000) (by rfl)) hrM) (SeesM.cons 1001 (SeesE.ro_congr (sees_ro (i := 1001) (by rfl)) hrO) (SeesM.nil _) (fun _ _ _ _ _ _ x hx => by cases hx)) (fun _ _ _ _ _ _ x hx => by rcases List.mem_singleton.1 hx with rfl; exact fun _ h => h)) (nM1) ?_ | refine call_readL (k18) (addL (6000000 + R) 50) (by rfl) (by exact SeesM.cons 1000 (SeesE.ro_congr (sees_ro (i := 1000) (by rfl)) hrM) (SeesM.cons 1001 (SeesE.ro_congr (sees_ro (i := 1001) (by rfl)) hrO) (SeesM.nil _) (fun _ _ _ _ _ _ x hx => by cases hx)) (fun _ _ _ _ _ _ x hx => by rcases List.mem_singleton.1 hx with rfl; exact fun _ h => h)) (nM1) ?_ | refine call_readL (k19) (addL (5000000 + R) 50) (by rfl) (by exact SeesM.cons 1000 (SeesE.ro_congr (sees_ro (i := 1000) (by rfl)) hrM) (SeesM.cons 1001 (SeesE.ro_congr (sees_ro (i := 1001) (by rfl)) hrO) (SeesM.nil _) (fun _ _ _ _ _ _ x hx => by cases hx)) (fun _ _ _ _ _ _ x hx => by rcases List.mem_singleton.1 hx with rfl; exact fun _ h => h)) (nM1) ?_ | refine call_readL (k20) (addL (2000000 + R) 50) (by rfl) (by exact SeesM.cons 1000 (SeesE.ro_congr (sees_ro (i := 1000) (by rfl)) hrM) (SeesM.cons 1001 (SeesE.ro_congr (sees_ro (i := 1001) (by rfl)) hrO) (SeesM.nil _) (fun _ _ _ _ _ _ x hx => by cases hx)) (fun _ _ _ _ _ _ x hx => by rcases List.mem_singleton.1 hx with rfl; exact fun _ h => h)) (nM1) ?_ | refine call_readL (k21) (addL (1000000 + R) 50) (by rfl) (by exact SeesM.cons 1000 (sees_ro (i := 1000) (by rfl)) (SeesM.nil _) (fun _ _ _ _ _ _ x hx => by cases hx)) (nM1) ?_ | refine call_readL (k22) (addL (500000 + R) 50) (by rfl) (by exact SeesM.cons 1000 (sees_ro (i := 1000) (by rfl)) (SeesM.nil _) (fun _ _ _ _ _ _ x hx => by cases hx)) (nM1) ?_ | refine call_w rfl ?_ | intro _)
      conv => whnf
      exact ⟨rfl, nM1⟩
  · have k15 := c15 F (d + 55) hF2 am n em cm lo hi hn0 hn hlh ao eo co o1 ho hin hno
    have k16 := c16n F (d + 55) hF2 am n em cm lo hi hn0 hn hlh ao eo co o1 ho hin hod hno
    have k19 := c19 F (d + 55) hF2 am n em cm lo hi hn0 hn hlh ao eo co o1 ho hin hno
    have k20 := c20n F (d + 54) hF2 am n em cm lo hi hn0 hn hlh ao eo co o1 ho hin hod hno
    cases hpq : ((!(iLt p 0) && iLt p (Int.ofNat n)) && (!(iLt q 0) && iLt q (Int.ofNat n))) with
    | true =>
      rw [Bool.and_eq_true] at hpq
      obtain ⟨e1, e2⟩ := hpq
      obtain ⟨p1, rfl, hp1⟩ : ∃ p1 : Nat, p = Int.ofNat p1 ∧ p1 < n := ⟨p.toNat, st1_in (o := fun _ => p) (j := 0) e1⟩
      obtain ⟨q1, rfl, hq1⟩ : ∃ q1 : Nat, q = Int.ofNat q1 ∧ q1 < n := ⟨q.toNat, st1_in (o := fun _ => q) (j := 0) e2⟩
      have k17 := c17 F (d + 55) hF2 am n em cm lo hi hn0 hn hlh ao eo co o1 ho hin p1 q1 hp1 hq1
      have k18 := c18 F (d + 55) hF2 am n em cm lo hi hn0 hn hlh ao eo co o1 ho hin hod p1 q1 hp1 hq1
      generalize vfE (isF lo hi o1 p1 q1) = ve at k17 k18
      refine call_in (n := 83) Try.func3 rfl rfl rfl rfl rfl rfl rfl ?_
      repeat' ((conv => whnf); first | refine eqS_rfl ?_ | refine eqA_rfl ?_ | refine eqA_of (by assumption) ?_ | refine eqS_of (by rfl) ?_ | refine eqL_rfl ?_ | refine eqJ_rfl ?_ | refine gE ?_ | refine seS_rfl ?_ | refine lsS_of hup ?_ | refine lsS_rfl ?_ | refine brS_tt ?_ | refine brS_ff ?_ | refine brS_not ?_ | refine gI ?_ | refine gT ?_ | refine gF ?_ | refine brS_intro (fun _ => ?_) (fun _ => ?_) | refine gL ?_ | refine gX ?_ | refine gO ?_ | refine gN ?_ | refine call_readL (k15) (addL (9000000 + R) 50) (by rfl) (by exact SeesM.cons 1000 (SeesE.ro_congr (sees_ro (i := 1000) (by rfl)) hrM) (SeesM.cons 1001 (SeesE.ro_congr (sees_ro (i := 1001) (by rfl)) hrO) (SeesM.nil _) (fun _ _ _ _ _ _ x hx => by cases hx)) (fun _ _ _ _ _ _ x hx => by rcases List.mem_singleton.1 hx with rfl; exact fun _ h => h)) (nM1) ?_ | refine call_readL (k16) (addL (8000000 + R) 50) (by rfl) (by exact SeesM.cons 1000 (SeesE.ro_congr (sees_ro (i := 1000) (by rfl)) hrM) (SeesM.cons 1001 (SeesE.ro_congr (sees_ro (i := 1001) (by rfl)) hrO) (SeesM.nil _) (fun _ _ _ _ _ _ x hx => by cases hx)) (fun _ _ _ _ _ _ x hx => by rcases List.mem_singleton.1 hx with rfl; exact fun _ h => h)) (nM1) ?_ | refine call_readL (k17) (addL (7000000 + R) 50) (by rfl) (by exact SeesM.cons 1000 (SeesE.ro_congr (sees_ro (i := 1000) (by rfl)) hrM) (SeesM.cons 1001 (SeesE.ro_congr (sees_ro (i := 1001) (by rfl)) hrO) (SeesM.nil _) (fun _ _ _ _ _ _ x hx => by cases hx)) (fun _ _ _ _ _ _ x hx => by rcases List.mem_singleton.1 hx with rfl; exact fun _ h => h)) (nM1) ?_ | refine call_readL (k18) (addL (6000000 + R) 50) (by rfl) (by exact SeesM.cons 1000 (SeesE.ro_congr (sees_ro (i := 1000) (by rfl)) hrM) (SeesM.cons 1001 (SeesE.ro_congr (sees_ro (i := 1001) (by rfl)) hrO) (SeesM.nil _) (fun _ _ _ _ _ _ x hx => by cases hx)) (fun _ _ _ _ _ _ x hx => by rcases List.mem_singleton.1 hx with rfl; exact fun _ h => h)) (nM1) ?_ | refine call_readL (k19) (addL (5000000 + R) 50) (by rfl) (by exact SeesM.cons 1000 (SeesE.ro_congr (sees_ro (i := 1000) (by rfl)) hrM) (SeesM.cons 1001 (SeesE.ro_congr (sees_ro (i := 1001) (by rfl)) hrO) (SeesM.nil _) (fun _ _ _ _ _ _ x hx => by cases hx)) (fun _ _ _ _ _ _ x hx => by rcases List.mem_singleton.1 hx with rfl; exact fun _ h => h)) (nM1) ?_ | refine call_readL (k20) (addL (2000000 + R) 50) (by rfl) (by exact SeesM.cons 1000 (SeesE.ro_congr (sees_ro (i := 1000) (by rfl)) hrM) (SeesM.cons 1001 (SeesE.ro_congr (sees_ro (i := 1001) (by rfl)) hrO) (SeesM.nil _) (fun _ _ _ _ _ _ x hx => by cases hx)) (fun _ _ _ _ _ _ x hx => by rcases List.mem_singleton.1 hx with rfl; exact fun _ h => h)) (nM1) ?_ | refine call_readL (k21) (addL (1000000 + R) 50) (by rfl) (by exact SeesM.cons 1000 (sees_ro (i := 1000) (by rfl)) (SeesM.nil _) (fun _ _ _ _ _ _ x hx => by cases hx)) (nM1) ?_ | refine call_readL (k22) (addL (500000 + R) 50) (by rfl) (by exact SeesM.cons 1000 (sees_ro (i := 1000) (by rfl)) (SeesM.nil _) (fun _ _ _ _ _ _ x hx => by cases hx)) (nM1) ?_ | refine call_w rfl ?_ | intro _)
      conv => whnf
      exact ⟨rfl, nM1⟩
    | false =>
      have k17 := c17b F (d + 55) hF2 am n em cm lo hi hn0 hn hlh ao eo co o1 hod p q hpq
      have k18 := c18b F (d + 55) hF2 am n em cm lo hi hn0 hn hlh ao eo co o1 hod p q hpq
      refine call_in (n := 83) Try.func3 rfl rfl rfl rfl rfl rfl rfl ?_
      repeat' ((conv => whnf); first | refine eqS_rfl ?_ | refine eqA_rfl ?_ | refine eqA_of (by assumption) ?_ | refine eqS_of (by rfl) ?_ | refine eqL_rfl ?_ | refine eqJ_rfl ?_ | refine gE ?_ | refine seS_rfl ?_ | refine lsS_of hup ?_ | refine lsS_rfl ?_ | refine brS_tt ?_ | refine brS_ff ?_ | refine brS_not ?_ | refine gI ?_ | refine gT ?_ | refine gF ?_ | refine brS_intro (fun _ => ?_) (fun _ => ?_) | refine gL ?_ | refine gX ?_ | refine gO ?_ | refine gN ?_ | refine call_readL (k15) (addL (9000000 + R) 50) (by rfl) (by exact SeesM.cons 1000 (SeesE.ro_congr (sees_ro (i := 1000) (by rfl)) hrM) (SeesM.cons 1001 (SeesE.ro_congr (sees_ro (i := 1001) (by rfl)) hrO) (SeesM.nil _) (fun _ _ _ _ _ _ x hx => by cases hx)) (fun _ _ _ _ _ _ x hx => by rcases List.mem_singleton.1 hx with rfl; exact fun _ h => h)) (nM1) ?_ | refine call_readL (k16) (addL (8000000 + R) 50) (by rfl) (by exact SeesM.cons 1000 (SeesE.ro_congr (sees_ro (i := 1000) (by rfl)) hrM) (SeesM.cons 1001 (SeesE.ro_congr (sees_ro (i := 1001) (by rfl)) hrO) (SeesM.nil _) (fun _ _ _ _ _ _ x hx => by cases hx)) (fun _ _ _ _ _ _ x hx => by rcases List.mem_singleton.1 hx with rfl; exact fun _ h => h)) (nM1) ?_ | refine call_readL (k17) (addL (7000000 + R) 50) (by rfl) (by exact SeesM.cons 1000 (SeesE.ro_congr (sees_ro (i := 1000) (by rfl)) hrM) (SeesM.cons 1001 (SeesE.ro_congr (sees_ro (i := 1001) (by rfl)) hrO) (SeesM.nil _) (fun _ _ _ _ _ _ x hx => by cases hx)) (fun _ _ _ _ _ _ x hx => by rcases List.mem_singleton.1 hx with rfl; exact fun _ h => h)) (nM1) ?_ | refine call_readL (k18) (addL (6000000 + R) 50) (by rfl) (by exact SeesM.cons 1000 (SeesE.ro_congr (sees_ro (i := 1000) (by rfl)) hrM) (SeesM.cons 1001 (SeesE.ro_congr (sees_ro (i := 1001) (by rfl)) hrO) (SeesM.nil _) (fun _ _ _ _ _ _ x hx => by cases hx)) (fun _ _ _ _ _ _ x hx => by rcases List.mem_singleton.1 hx with rfl; exact fun _ h => h)) (nM1) ?_ | refine call_readL (k19) (addL (5000000 + R) 50) (by rfl) (by exact SeesM.cons 1000 (SeesE.ro_congr (sees_ro (i := 1000) (by rfl)) hrM) (SeesM.cons 1001 (SeesE.ro_congr (sees_ro (i := 1001) (by rfl)) hrO) (SeesM.nil _) (fun _ _ _ _ _ _ x hx => by cases hx)) (fun _ _ _ _ _ _ x hx => by rcases List.mem_singleton.1 hx with rfl; exact fun _ h => h)) (nM1) ?_ | refine call_readL (k20) (addL (2000000 + R) 50) (by rfl) (by exact SeesM.cons 1000 (SeesE.ro_congr (sees_ro (i := 1000) (by rfl)) hrM) (SeesM.cons 1001 (SeesE.ro_congr (sees_ro (i := 1001) (by rfl)) hrO) (SeesM.nil _) (fun _ _ _ _ _ _ x hx => by cases hx)) (fun _ _ _ _ _ _ x hx => by rcases List.mem_singleton.1 hx with rfl; exact fun _ h => h)) (nM1) ?_ | refine call_readL (k21) (addL (1000000 + R) 50) (by rfl) (by exact SeesM.cons 1000 (sees_ro (i := 1000) (by rfl)) (SeesM.nil _) (fun _ _ _ _ _ _ x hx => by cases hx)) (nM1) ?_ | refine call_readL (k22) (addL (500000 + R) 50) (by rfl) (by exact SeesM.cons 1000 (sees_ro (i := 1000) (by rfl)) (SeesM.nil _) (fun _ _ _ _ _ _ x hx => by cases hx)) (nM1) ?_ | refine call_w rfl ?_ | intro _)
      conv => whnf
      exact ⟨rfl, nM1⟩
end Go.Proofs.Ytefnljdfgjjpjaa
