/- RankFaulty: the law. -/
import Derived.Test.YtefnljdfgjjpjaaRaF
import Derived.KernelRfl
namespace Go.Proofs.Ytefnljdfgjjpjaa
open Go.Ab
attribute [local irreducible] aggOk drwOK
set_option maxRecDepth 100000
set_option maxHeartbeats 4000000
set_option linter.unusedVariables false
set_option linter.unusedSimpArgs false
theorem c15e {call : CallT} {g : FuncId} {args : List SV} {m0 : Mem} {N : Nat} {v w : SV} (h : ReadC call g args m0 N v) (e : v = w) : ReadC call g args m0 N w := e ▸ h
theorem l8 (F d : Nat) (hF : 300 < F) (aw : Option Addr) (nw ew cw : Nat) (w0 w1 : Nat → Nat) (hw0 : ∀ j, w0 j < 256) (hw1 : ∀ j, w1 j < 256) (ab : Option Addr) (nb eb cb : Nat) (t : Nat → Nat) (ht : ∀ j, t j < 256) (y z : Nat) (hy : y < 256) (hz : z < 256) : ReadC (CL F (d + 5)) 8 [.sl 1000 aw nw cw, .sl 1001 ab nb cb, .agg [.int .u8 (Int.ofNat y), .int .u8 (Int.ofNat z)]] [(1000, .ro aw nw ew 2 fun j => [.int .u8 (Int.ofNat (w0 j)), .int .u8 (Int.ofNat (w1 j))]), (1001, .ro ab nb eb 1 fun j => [.int .u8 (Int.ofNat (t j))])] (1100000 + 200) (.bool true) := by
  have hF2 : 200 < F := by omega
  have k43 := fun a e c => c43 F (d + 2) 800 hF2 a nw e c w0 w1 hw0 hw1
  have hT0 : 0 < mT nw := by unfold mT; split <;> omega
  have hT5 : mT nw ≤ 5 := by unfold mT; split <;> omega
  have hlh0 := mlh nw w0 w1
  generalize mT nw = T at k43 hT0 hT5
  generalize ml nw w0 = lo at k43 hlh0
  generalize mh nw w0 w1 = hi at k43 hlh0
  have hlh : ∀ j, j < T → lo j ≤ hi j ∧ hi j ≤ 100000 := fun j _ => ⟨(hlh0 j).1, by have := (hlh0 j).2; omega⟩
  have k45 := fun a e c => c45 F (d + 3) 801 hF2 T (by omega) a nb e c t ht
  have hz0 : Int.ofNat T ≠ 0 := by show (T : Int) ≠ 0; omega
  obtain ⟨a, ha⟩ : ∃ a, a = y % T := ⟨_, rfl⟩
  obtain ⟨b, hb⟩ : ∃ b, b = z % T := ⟨_, rfl⟩
  have haT : a < T := by rw [ha]; exact Nat.mod_lt _ hT0
  have hbT : b < T := by rw [hb]; exact Nat.mod_lt _ hT0
  have ea : (Int.tmod (wr .i64 (Int.ofNat y)) (Int.ofNat T)) = Int.ofNat a := by rw [smn (by omega), ha]; rfl
  have eb : (Int.tmod (wr .i64 (Int.ofNat z)) (Int.ofNat T)) = Int.ofNat b := by rw [smn (by omega), hb]; rfl
  intro R
  rw [show 1100000 + 200 = (1100000) + 200 from rfl, addL_eq, ← Nat.add_assoc, ← addL_eq _ 200, Nat.add_comm R (1100000)]
  refine call_in (n := 199) Try.func8 rfl rfl rfl rfl rfl rfl rfl ?_
  repeat' ((conv => whnf); first | refine eqS_rfl ?_ | refine eqA_rfl ?_ | refine eqA_of (by assumption) ?_ | refine eqS_of (by rfl) ?_ | refine eqL_rfl ?_ | refine eqJ_rfl ?_ | refine gE ?_ | refine seS_rfl ?_ | refine lsS_of hup ?_ | refine lsS_rfl ?_ | refine brS_tt ?_ | refine brS_ff ?_ | refine brS_not ?_ | refine gI ?_ | refine gT ?_ | refine gF ?_ | refine brS_intro (fun _ => ?_) (fun _ => ?_) | refine gL ?_ | refine gX ?_ | refine gO ?_ | refine gN ?_ | refine callQM (k43 _ _ _) (addL (1098000 + R) 150) (by rfl) (by exact SeesM.cons 1000 (sees_ro (i := 1000) (by rfl)) (SeesM.nil _) (fun _ _ _ _ _ _ x hx => by cases hx)) (nM1) ?_ | refine callQO (k45 _ _ _) (addL (1087000 + R) 150) (by rfl) (by exact SeesM.cons 1001 (sees_ro (i := 1001) (by rfl)) (SeesM.nil _) (fun _ _ _ _ _ _ x hx => by cases hx)) (nM1) ?_ | intro _)
  rename_i b5 am ao o ho hin
  conv => whnf
  have k17 := fun p q hp hq => c17 F d hF2 am T 0 T lo hi hT0 (by omega) hlh ao 0 T o ho hin p q hp hq
  rcases rise_or (lo := lo) (hi := hi) (o := o) (n := T) (fun j hj => (hlh _ (ho j hj)).1) with ⟨hr, hno⟩ | ⟨⟨q0, hq0, hq1, hq2⟩, p, q, hst⟩
  · have k46 := c46 F (d + 3) hF2 am T 0 T lo hi (by omega) ao 0 T o ho hr
    have k15 := c15 F d hF2 am T 0 T lo hi hT0 (by omega) hlh ao 0 T o ho hin hno
    have k19 := c19 F d hF2 am T 0 T lo hi hT0 (by omega) hlh ao 0 T o ho hin hno
    have hf := hno a b haT hbT
    have k17b := k17 a b haT hbT
    rw [hf] at k17b
    by_cases hab : a < b
    · have d1 : iLt (Int.tmod (wr .i64 (Int.ofNat y)) (Int.ofNat T)) (Int.tmod (wr .i64 (Int.ofNat z)) (Int.ofNat T)) = true := by rw [ea, eb]; exact iLt_t hab
      have d2 : iLt (Int.ofNat (hi (o b))) (Int.ofNat (lo (o a))) = false := by
        unfold isF qt at hf
        rw [decide_eq_true hab, Bool.true_and, decide_eq_false_iff_not] at hf
        exact iLt_f (by omega)
      have d3 : (iEq (Int.ofNat (vfE false)) 0 == iLt (Int.ofNat (hi (o b))) (Int.ofNat (lo (o a)))) = true := by rw [d2]; rfl
      have ga := ho a haT
      have gb := ho b hbT
      repeat' ((conv => whnf); first | refine eqS_rfl ?_ | refine eqA_rfl ?_ | refine eqA_of (by assumption) ?_ | refine eqS_of (by rfl) ?_ | refine eqL_rfl ?_ | refine eqJ_rfl ?_ | refine gE ?_ | refine seS_rfl ?_ | refine lsS_of hup ?_ | refine lsS_rfl ?_ | refine brS_tt ?_ | refine brS_ff ?_ | refine brS_not ?_ | refine gI ?_ | refine gT ?_ | refine gF ?_ | refine brS_intro (fun _ => ?_) (fun _ => ?_) | refine gL ?_ | refine gX ?_ | refine gO ?_ | refine gN ?_ | refine ixS_of ea (by omega) ?_ | refine ixS_of eb (by omega) ?_ | refine call_readL (k46) (addL (1084000 + R) 150) (by rfl) (by exact SeesM.cons 1000 (sees_gr (i := 800) (by rfl)) (SeesM.cons 1001 (sees_gr (i := 801) (by rfl)) (SeesM.nil _) (fun _ _ _ _ _ _ x hx => by cases hx)) (fun _ _ _ _ _ _ x hx => by rcases List.mem_singleton.1 hx with rfl; exact fun _ h => h)) (nM1) ?_ | refine call_readL (k15) (addL (583000 + R) 150) (by rfl) (by exact SeesM.cons 1000 (sees_gr (i := 800) (by rfl)) (SeesM.cons 1001 (sees_gr (i := 801) (by rfl)) (SeesM.nil _) (fun _ _ _ _ _ _ x hx => by cases hx)) (fun _ _ _ _ _ _ x hx => by rcases List.mem_singleton.1 hx with rfl; exact fun _ h => h)) (nM1) ?_ | refine call_readL (k17b) (addL (570000 + R) 150) (by show [Value.slice _ _ _, Value.slice _ _ _, Value.int .i64 _, Value.int .i64 _] = [Value.slice _ _ _, Value.slice _ _ _, Value.int .i64 _, Value.int .i64 _]; rw [ea, eb]) (by exact SeesM.cons 1000 (sees_gr (i := 800) (by rfl)) (SeesM.cons 1001 (sees_gr (i := 801) (by rfl)) (SeesM.nil _) (fun _ _ _ _ _ _ x hx => by cases hx)) (fun _ _ _ _ _ _ x hx => by rcases List.mem_singleton.1 hx with rfl; exact fun _ h => h)) (nM1) ?_ | refine call_readL (k19) (addL (69000 + R) 100) (by rfl) (by exact SeesM.cons 1000 (sees_gr (i := 800) (by rfl)) (SeesM.cons 1001 (sees_gr (i := 801) (by rfl)) (SeesM.nil _) (fun _ _ _ _ _ _ x hx => by cases hx)) (fun _ _ _ _ _ _ x hx => by rcases List.mem_singleton.1 hx with rfl; exact fun _ h => h)) (nM1) ?_ | refine call_w rfl ?_ | intro _)
      conv => whnf
      exact ⟨rfl, nM1⟩
    · have d1 : iLt (Int.tmod (wr .i64 (Int.ofNat y)) (Int.ofNat T)) (Int.tmod (wr .i64 (Int.ofNat z)) (Int.ofNat T)) = false := by rw [ea, eb]; exact iLt_f (by omega)
      have d3 : (iEq (Int.ofNat (vfE false)) 0 == false) = true := rfl
      repeat' ((conv => whnf); first | refine eqS_rfl ?_ | refine eqA_rfl ?_ | refine eqA_of (by assumption) ?_ | refine eqS_of (by rfl) ?_ | refine eqL_rfl ?_ | refine eqJ_rfl ?_ | refine gE ?_ | refine seS_rfl ?_ | refine lsS_of hup ?_ | refine lsS_rfl ?_ | refine brS_tt ?_ | refine brS_ff ?_ | refine brS_not ?_ | refine gI ?_ | refine gT ?_ | refine gF ?_ | refine brS_intro (fun _ => ?_) (fun _ => ?_) | refine gL ?_ | refine gX ?_ | refine gO ?_ | refine gN ?_ | refine ixS_of ea (by omega) ?_ | refine ixS_of eb (by omega) ?_ | refine call_readL (k46) (addL (1084000 + R) 150) (by rfl) (by exact SeesM.cons 1000 (sees_gr (i := 800) (by rfl)) (SeesM.cons 1001 (sees_gr (i := 801) (by rfl)) (SeesM.nil _) (fun _ _ _ _ _ _ x hx => by cases hx)) (fun _ _ _ _ _ _ x hx => by rcases List.mem_singleton.1 hx with rfl; exact fun _ h => h)) (nM1) ?_ | refine call_readL (k15) (addL (583000 + R) 150) (by rfl) (by exact SeesM.cons 1000 (sees_gr (i := 800) (by rfl)) (SeesM.cons 1001 (sees_gr (i := 801) (by rfl)) (SeesM.nil _) (fun _ _ _ _ _ _ x hx => by cases hx)) (fun _ _ _ _ _ _ x hx => by rcases List.mem_singleton.1 hx with rfl; exact fun _ h => h)) (nM1) ?_ | refine call_readL (k17b) (addL (570000 + R) 150) (by show [Value.slice _ _ _, Value.slice _ _ _, Value.int .i64 _, Value.int .i64 _] = [Value.slice _ _ _, Value.slice _ _ _, Value.int .i64 _, Value.int .i64 _]; rw [ea, eb]) (by exact SeesM.cons 1000 (sees_gr (i := 800) (by rfl)) (SeesM.cons 1001 (sees_gr (i := 801) (by rfl)) (SeesM.nil _) (fun _ _ _ _ _ _ x hx => by cases hx)) (fun _ _ _ _ _ _ x hx => by rcases List.mem_singleton.1 hx with rfl; exact fun _ h => h)) (nM1) ?_ | refine call_readL (k19) (addL (69000 + R) 100) (by rfl) (by exact SeesM.cons 1000 (sees_gr (i := 800) (by rfl)) (SeesM.cons 1001 (sees_gr (i := 801) (by rfl)) (SeesM.nil _) (fun _ _ _ _ _ _ x hx => by cases hx)) (fun _ _ _ _ _ _ x hx => by rcases List.mem_singleton.1 hx with rfl; exact fun _ h => h)) (nM1) ?_ | refine call_w rfl ?_ | intro _)
      conv => whnf
      exact ⟨rfl, nM1⟩
  · have k46 := c46f F (d + 3) hF2 am T 0 T lo hi (by omega) ao 0 T o ho q0 hq0 hq1 hq2
    have k15 := c15f F d hF2 am T 0 T lo hi hT0 (by omega) hlh ao 0 T o ho hin p q hst
    have k19 := c19f F d hF2 am T 0 T lo hi hT0 (by omega) hlh ao 0 T o ho hin p q hst
    have hpT := hst.hp
    have hqT := hst.hq
    have hpq := hst.ht
    have k17p := k17 p q hpT hqT
    rw [hpq] at k17p
    unfold isF qt at hpq
    rw [Bool.and_eq_true, decide_eq_true_eq, decide_eq_true_eq] at hpq
    have f0 : iLt (Int.ofNat p) 0 = false := iLt_0 p
    have f1 : iLt (Int.ofNat p) (Int.ofNat q) = true := iLt_t hpq.1
    have f2 : iLt (Int.ofNat q) (Int.ofNat T) = true := iLt_t hqT
    have f3 : iLt (Int.ofNat (hi (o q))) (Int.ofNat (lo (o p))) = true := iLt_t hpq.2
    have gp := ho p hpT
    have gq := ho q hqT
    have k17b := k17 a b haT hbT
    have ga := ho a haT
    have gb := ho b hbT
    have cases3 : (iLt (Int.tmod (wr .i64 (Int.ofNat y)) (Int.ofNat T)) (Int.tmod (wr .i64 (Int.ofNat z)) (Int.ofNat T)) = true ∧ iLt (Int.ofNat (hi (o b))) (Int.ofNat (lo (o a))) = isF lo hi o a b) ∨ (iLt (Int.tmod (wr .i64 (Int.ofNat y)) (Int.ofNat T)) (Int.tmod (wr .i64 (Int.ofNat z)) (Int.ofNat T)) = false ∧ isF lo hi o a b = false) := by
      unfold isF qt
      by_cases hab : a < b
      · left; rw [ea, eb, iLt_n, iLt_n, decide_eq_true hab, Bool.true_and]; exact ⟨rfl, rfl⟩
      · right; rw [ea, eb, iLt_n, decide_eq_false hab, Bool.false_and]; exact ⟨rfl, rfl⟩
    have cases4 : ∃ f, isF lo hi o a b = f := ⟨_, rfl⟩
    obtain ⟨f, hf⟩ := cases4
    rw [hf] at k17b cases3
    rcases cases3 with ⟨d1, d2⟩ | ⟨d1, hf0⟩
    rotate_left
    subst hf0
    have d3 : (iEq (Int.ofNat (vfE false)) 0 == false) = true := rfl
    rotate_left
    cases f
    have d3 : (iEq (Int.ofNat (vfE false)) 0 == iLt (Int.ofNat (hi (o b))) (Int.ofNat (lo (o a)))) = true := by rw [d2]; rfl
    rotate_left
    have d3 : (iEq (Int.ofNat (vfE true)) 0 == iLt (Int.ofNat (hi (o b))) (Int.ofNat (lo (o a)))) = true := by rw [d2]; rfl
    rotate_left
    all_goals
      repeat' ((conv => whnf); first | refine eqS_rfl ?_ | refine eqA_rfl ?_ | refine eqA_of (by assumption) ?_ | refine eqS_of (by rfl) ?_ | refine eqL_rfl ?_ | refine eqJ_rfl ?_ | refine gE ?_ | refine seS_rfl ?_ | refine lsS_of hup ?_ | refine lsS_rfl ?_ | refine brS_tt ?_ | refine brS_ff ?_ | refine brS_not ?_ | refine gI ?_ | refine gT ?_ | refine gF ?_ | refine brS_intro (fun _ => ?_) (fun _ => ?_) | refine gL ?_ | refine gX ?_ | refine gO ?_ | refine gN ?_ | refine ixS_of ea (by omega) ?_ | refine ixS_of eb (by omega) ?_ | refine call_readL (k46) (addL (1084000 + R) 150) (by rfl) (by exact SeesM.cons 1000 (sees_gr (i := 800) (by rfl)) (SeesM.cons 1001 (sees_gr (i := 801) (by rfl)) (SeesM.nil _) (fun _ _ _ _ _ _ x hx => by cases hx)) (fun _ _ _ _ _ _ x hx => by rcases List.mem_singleton.1 hx with rfl; exact fun _ h => h)) (nM1) ?_ | refine call_readL (k15) (addL (583000 + R) 150) (by rfl) (by exact SeesM.cons 1000 (sees_gr (i := 800) (by rfl)) (SeesM.cons 1001 (sees_gr (i := 801) (by rfl)) (SeesM.nil _) (fun _ _ _ _ _ _ x hx => by cases hx)) (fun _ _ _ _ _ _ x hx => by rcases List.mem_singleton.1 hx with rfl; exact fun _ h => h)) (nM1) ?_ | refine call_readL (k17b) (addL (570000 + R) 150) (by show [Value.slice _ _ _, Value.slice _ _ _, Value.int .i64 _, Value.int .i64 _] = [Value.slice _ _ _, Value.slice _ _ _, Value.int .i64 _, Value.int .i64 _]; rw [ea, eb]) (by exact SeesM.cons 1000 (sees_gr (i := 800) (by rfl)) (SeesM.cons 1001 (sees_gr (i := 801) (by rfl)) (SeesM.nil _) (fun _ _ _ _ _ _ x hx => by cases hx)) (fun _ _ _ _ _ _ x hx => by rcases List.mem_singleton.1 hx with rfl; exact fun _ h => h)) (nM1) ?_ | refine call_readL (k19) (addL (69000 + R) 100) (by rfl) (by exact SeesM.cons 1000 (sees_gr (i := 800) (by rfl)) (SeesM.cons 1001 (sees_gr (i := 801) (by rfl)) (SeesM.nil _) (fun _ _ _ _ _ _ x hx => by cases hx)) (fun _ _ _ _ _ _ x hx => by rcases List.mem_singleton.1 hx with rfl; exact fun _ h => h)) (nM1) ?_ | refine call_readL (k17p) (addL (56000 + R) 60) (by rfl) (by exact SeesM.cons 1000 (sees_gr (i := 800) (by rfl)) (SeesM.cons 1001 (sees_gr (i := 801) (by rfl)) (SeesM.nil _) (fun _ _ _ _ _ _ x hx => by cases hx)) (fun _ _ _ _ _ _ x hx => by rcases List.mem_singleton.1 hx with rfl; exact fun _ h => h)) (nM1) ?_ | intro _)
      conv => whnf
      refine loS_i (fun jj f mm R' ni => ∃ j : Nat, j ≤ T ∧ jj = T - j + 1 ∧ f = [(7, .sl 800 am T T), (8, .sl 801 ao T T), (10, .int .i64 (Int.ofNat p)), (11, .int .i64 (Int.ofNat q)), (153, .int .i64 (Int.ofNat T)), (154, .int .i64 (Int.ofNat j))] ∧ mm = [(800, .gr am T 63 2 (mf lo hi)), (801, .gr ao T 3 1 (nf o))] ∧ R' = (addL (6100 * (T - j) + R) 60) ∧ ni = 900) (T + 1) (by omega)
        ⟨[(7, .sl 800 am T T), (8, .sl 801 ao T T), (10, .int .i64 (Int.ofNat p)), (11, .int .i64 (Int.ofNat q)), (153, .int .i64 (Int.ofNat T)), (154, .int .i64 (Int.ofNat 0))], [(800, .gr am T 63 2 (mf lo hi)), (801, .gr ao T 3 1 (nf o))], (addL (6100 * (T - 0) + R) 60), 900, ⟨eqF_rfl _, eqF_rfl _, eqF_rfl _, eqF_rfl _, eqF_rfl _, eqF_rfl _, trivial⟩, WS, nM1, 0, by omega, by omega, rfl, rfl, rfl, rfl⟩ ?_
      rintro _ _ _ _ _ ⟨j, hj, rfl, rfl, rfl, rfl, rfl⟩
      by_cases hlt : j < T
      · have h1 := iLt_t hlt
        have gj := ho j hlt
        have hj1 : wr .i64 (Int.add (Int.ofNat j) 1) = Int.ofNat (j + 1) := smn (i := j + 1) (by omega)
        repeat' ((conv => whnf); first | refine eqS_rfl ?_ | refine eqA_rfl ?_ | refine eqA_of (by assumption) ?_ | refine eqS_of (by rfl) ?_ | refine eqL_rfl ?_ | refine eqJ_rfl ?_ | refine gE ?_ | refine seS_rfl ?_ | refine lsS_of hup ?_ | refine lsS_rfl ?_ | refine brS_tt ?_ | refine brS_ff ?_ | refine brS_not ?_ | refine gI ?_ | refine gT ?_ | refine gF ?_ | refine brS_intro (fun _ => ?_) (fun _ => ?_) | refine gL ?_ | refine gX ?_ | refine gO ?_ | refine gN ?_ | intro _)
        conv => whnf
        refine loS_i (fun jj f mm R' ni => ∃ i : Nat, i ≤ T ∧ j < i ∧ jj = T - i + 1 ∧ f = [(7, .sl 800 am T T), (8, .sl 801 ao T T), (10, .int .i64 (Int.ofNat p)), (11, .int .i64 (Int.ofNat q)), (153, .int .i64 (Int.ofNat T)), (154, .int .i64 (Int.ofNat j)), (16, .int .i64 (Int.ofNat j)), (17, .int .i64 (Int.ofNat i))] ∧ mm = [(800, .gr am T 63 2 (mf lo hi)), (801, .gr ao T 3 1 (nf o))] ∧ R' = (addL (100 * (T - i) + (6100 * (T - (j + 1)) + R)) 60) ∧ ni = 900) (T - (j + 1) + 1) (by omega)
          ⟨[(7, .sl 800 am T T), (8, .sl 801 ao T T), (10, .int .i64 (Int.ofNat p)), (11, .int .i64 (Int.ofNat q)), (153, .int .i64 (Int.ofNat T)), (154, .int .i64 (Int.ofNat j)), (16, .int .i64 (Int.ofNat j)), (17, .int .i64 (Int.ofNat (j + 1)))], [(800, .gr am T 63 2 (mf lo hi)), (801, .gr ao T 3 1 (nf o))], (addL (100 * (T - (j + 1)) + (6100 * (T - (j + 1)) + R)) 60), 900, ⟨eqF_rfl _, eqF_rfl _, eqF_rfl _, eqF_rfl _, eqF_rfl _, eqF_rfl _, eqF_rfl _, ⟨congrArg (Value.int .i64) hj1, rfl⟩, trivial⟩, WkM.refl _, nM1, j + 1, by omega, by omega, by omega, rfl, rfl, rfl, rfl⟩ ?_
        rintro _ _ _ _ _ ⟨i, hi', hji, rfl, rfl, rfl, rfl, rfl⟩
        by_cases hin2 : i < T
        · have h2 := iLt_t hin2
          have gi := ho i hin2
          have nob : (j < p ∨ j = p ∧ i < q) → iLt (Int.ofNat (hi (o i))) (Int.ofNat (lo (o j))) = false := fun h => by
            have := hst.hb j i hin2 h
            unfold isF qt at this
            rw [decide_eq_true hji, Bool.true_and, decide_eq_false_iff_not] at this
            exact iLt_f (by omega)
          have fj : iEq (Int.ofNat j) (Int.ofNat p) = decide (j = p) := iEq_n
          have four : (iLt (Int.ofNat j) (Int.ofNat p) = true ∧ iLt (Int.ofNat (hi (o i))) (Int.ofNat (lo (o j))) = false) ∨ (iLt (Int.ofNat j) (Int.ofNat p) = false ∧ iEq (Int.ofNat j) (Int.ofNat p) = true ∧ iLt (Int.ofNat i) (Int.ofNat q) = true ∧ iLt (Int.ofNat (hi (o i))) (Int.ofNat (lo (o j))) = false) ∨
              (iLt (Int.ofNat j) (Int.ofNat p) = false ∧ iEq (Int.ofNat j) (Int.ofNat p) = true ∧ iLt (Int.ofNat i) (Int.ofNat q) = false) ∨ (iLt (Int.ofNat j) (Int.ofNat p) = false ∧ iEq (Int.ofNat j) (Int.ofNat p) = false) := by
            by_cases c1 : j < p
            · exact .inl ⟨iLt_t c1, nob (.inl c1)⟩
            · by_cases c2 : j = p
              · rw [fj, decide_eq_true c2]
                by_cases c3 : i < q
                · exact .inr (.inl ⟨iLt_f (by omega), rfl, iLt_t c3, nob (.inr ⟨c2, c3⟩)⟩)
                · exact .inr (.inr (.inl ⟨iLt_f (by omega), rfl, iLt_f (by omega)⟩))
              · rw [fj, decide_eq_false c2]
                exact .inr (.inr (.inr ⟨iLt_f (by omega), rfl⟩))
          rcases four with ⟨e1, e2⟩ | ⟨e1, e2, e3, e4⟩ | ⟨e1, e2, e3⟩ | ⟨e1, e2⟩
          all_goals
            repeat' ((conv => whnf); first | refine eqS_rfl ?_ | refine eqA_rfl ?_ | refine eqA_of (by assumption) ?_ | refine eqS_of (by rfl) ?_ | refine eqL_rfl ?_ | refine eqJ_rfl ?_ | refine gE ?_ | refine seS_rfl ?_ | refine lsS_of hup ?_ | refine lsS_rfl ?_ | refine brS_tt ?_ | refine brS_ff ?_ | refine brS_not ?_ | refine gI ?_ | refine gT ?_ | refine gF ?_ | refine brS_intro (fun _ => ?_) (fun _ => ?_) | refine gL ?_ | refine gX ?_ | refine gO ?_ | refine gN ?_ | intro _)
            conv => whnf
            exact ⟨T - (i + 1) + 1, [(7, .sl 800 am T T), (8, .sl 801 ao T T), (10, .int .i64 (Int.ofNat p)), (11, .int .i64 (Int.ofNat q)), (153, .int .i64 (Int.ofNat T)), (154, .int .i64 (Int.ofNat j)), (16, .int .i64 (Int.ofNat j)), (17, .int .i64 (Int.ofNat (i + 1)))], _, (addL (100 * (T - (i + 1)) + (6100 * (T - (j + 1)) + R)) 60), 900, by omega, ⟨eqF_rfl _, eqF_rfl _, eqF_rfl _, eqF_rfl _, eqF_rfl _, eqF_rfl _, eqF_rfl _, ⟨congrArg (Value.int .i64) (smn (i := i + 1) (by omega)), rfl⟩, trivial⟩, WkM.refl _, nM1, i + 1, by omega, by omega, rfl, rfl, rfl, rfl, rfl⟩
        · have e2 : T = i := by omega
          subst e2
          have h2 := iLt_f (Nat.le_refl T)
          repeat' ((conv => whnf); first | refine eqS_rfl ?_ | refine eqA_rfl ?_ | refine eqA_of (by assumption) ?_ | refine eqS_of (by rfl) ?_ | refine eqL_rfl ?_ | refine eqJ_rfl ?_ | refine gE ?_ | refine seS_rfl ?_ | refine lsS_of hup ?_ | refine lsS_rfl ?_ | refine brS_tt ?_ | refine brS_ff ?_ | refine brS_not ?_ | refine gI ?_ | refine gT ?_ | refine gF ?_ | refine brS_intro (fun _ => ?_) (fun _ => ?_) | refine gL ?_ | refine gX ?_ | refine gO ?_ | refine gN ?_ | intro _)
          conv => whnf
          exact ⟨T - (j + 1) + 1, [(7, .sl 800 am T T), (8, .sl 801 ao T T), (10, .int .i64 (Int.ofNat p)), (11, .int .i64 (Int.ofNat q)), (153, .int .i64 (Int.ofNat T)), (154, .int .i64 (Int.ofNat (j + 1)))], _, (addL (6100 * (T - (j + 1)) + R) 60), 900, by omega, ⟨eqF_rfl _, eqF_rfl _, eqF_rfl _, eqF_rfl _, eqF_rfl _, ⟨congrArg (Value.int .i64) (smn (i := j + 1) (by omega)), rfl⟩, trivial⟩, WkM.refl _, nM1, j + 1, by omega, rfl, rfl, rfl, rfl, rfl⟩
      · have e2 : T = j := by omega
        subst e2
        have h1 := iLt_f (Nat.le_refl T)
        repeat' ((conv => whnf); first | refine eqS_rfl ?_ | refine eqA_rfl ?_ | refine eqA_of (by assumption) ?_ | refine eqS_of (by rfl) ?_ | refine eqL_rfl ?_ | refine eqJ_rfl ?_ | refine gE ?_ | refine seS_rfl ?_ | refine lsS_of hup ?_ | refine lsS_rfl ?_ | refine brS_tt ?_ | refine brS_ff ?_ | refine brS_not ?_ | refine gI ?_ | refine gT ?_ | refine gF ?_ | refine brS_intro (fun _ => ?_) (fun _ => ?_) | refine gL ?_ | refine gX ?_ | refine gO ?_ | refine gN ?_ | refine call_w rfl ?_ | intro _)
        conv => whnf
        exact ⟨rfl, nM1⟩
end Go.Proofs.Ytefnljdfgjjpjaa
