/- Neutral: texts V W Y Z Za. -/
import Derived.Test.YtpncjgiojoehkaaNmF
import Derived.Test.YtpncjgiojoehkaaNmB
import Derived.KernelRfl
namespace Go.Proofs.Ytpncjgiojoehkaa
open Go.Ab
attribute [local irreducible] aggOk drwOK
set_option maxRecDepth 100000
set_option maxHeartbeats 4000000
set_option linter.unusedVariables false
set_option linter.unusedSimpArgs false
/-- what made hands out -/
theorem call31 {i j n k N : Nat} {P : List Int} {RS : List (Int × Int)} {call : CallT} {args args0 : List SV} (h : ∀ R, callS call (.fn 31 [] []) args0 [] (addL R N) 0 fun w m' R' _ => (∃ w0 mf, QM i j n k P RS w0 mf ∧ den w = den w0 ∧ WkM m' mf) ∧ R ≤ R') (R2 : Nat) {m : Mem} {R ni : Nat} {K : SV → Mem → Nat → Nat → Prop} (ha : dens args = dens args0) (hN : R2 + N ≤ R)
    (hK : ∀ a1 a2, K (.tup [.sl i a1 n n, .sl j a2 k k, .bool (okB P n)]) ((i, .gr a1 n 3 1 (pf P)) :: (j, .gr a2 k 24 2 (rf RS)) :: m) R2 ni) : callS call (.fn 31 [] []) args m R ni K := by
  refine call_freshL (QM i j n k P RS) h ?_ R2 ha (SeesM.nil _) hN ?_
  · rintro _ _ ⟨a1, a2, rfl, rfl⟩ x hx
    rcases List.mem_cons.1 hx with rfl | hx
    · exact ⟨_, _, _, _, _, rfl⟩
    · rw [List.mem_singleton.1 hx]; exact ⟨_, _, _, _, _, rfl⟩
  · rintro _ _ ⟨a1, a2, rfl, rfl⟩
    exact hK a1 a2
/-- a point by numbers -/
abbrev xt (r : Int) : Int := Int.tmod (wr .i64 r) 33
abbrev yt (s : Int) : Int := wr .i64 (Int.add 2 (wr .i64 (Int.mul 2 (andI .i64 (wr .i64 s) 1))))
theorem c32 (F d : Nat) (a0 a1 b0 b1 : Int) : PureC (CL F (d + 2)) 32 [.agg [.int .i8 a0, .int .i8 a1], .agg [.int .i8 b0, .int .i8 b1]] 200 (bif iLt (wr .i64 (Int.mul (xt b0) (yt a1))) (wr .i64 (Int.mul (xt a0) (yt b1))) then .tup [.agg [.int .i64 (xt b0), .int .i64 (yt b1)], .agg [.int .i64 (xt a0), .int .i64 (yt a1)]] else .tup [.agg [.int .i64 (xt a0), .int .i64 (yt a1)], .agg [.int .i64 (xt b0), .int .i64 (yt b1)]]) := by
  rcases Bool.eq_false_or_eq_true (iLt (wr .i64 (Int.mul (xt b0) (yt a1))) (wr .i64 (Int.mul (xt a0) (yt b1)))) with h | h <;> rw [h]
  all_goals
    intro m R
    refine call_in (n := 45) Try.func32 rfl rfl rfl rfl rfl rfl rfl ?_
    repeat' ((conv => whnf); first | refine eqS_rfl ?_ | refine eqA_rfl ?_ | refine eqA_of (by assumption) ?_ | refine eqS_of (by rfl) ?_ | refine eqL_rfl ?_ | refine eqJ_rfl ?_ | refine gE ?_ | refine seS_rfl ?_ | refine lsS_of hup ?_ | refine lsS_rfl ?_ | refine brS_tt ?_ | refine brS_ff ?_ | refine brS_not ?_ | refine gI ?_ | refine gT ?_ | refine gF ?_ | refine brS_intro (fun _ => ?_) (fun _ => ?_) | refine gL ?_ | refine gX ?_ | refine gO ?_ | refine gN ?_ | refine call_pure (c35 F _ _ _) ?_ | intro _)
    all_goals (conv => whnf)
    all_goals refine ⟨?_, by repeat' (first | exact WkM.refl _ | refine WkM.drop ?_), by repeat' (first | exact Nat.le_refl _ | refine Nat.le_succ_of_le ?_)⟩
    all_goals (rfl)

/-- a root lies between -/
def inB (RS : List (Int × Int)) (x1 y1 x2 y2 : Int) (j : Nat) : Bool := iLt (wr .i64 (Int.mul x1 (RS.getD j (0, 0)).2)) (wr .i64 (Int.mul (RS.getD j (0, 0)).1 y1)) && !iLt (wr .i64 (Int.mul x2 (RS.getD j (0, 0)).2)) (wr .i64 (Int.mul (RS.getD j (0, 0)).1 y2))
/-- a root that is not the one before -/
def nwB (RS : List (Int × Int)) : Nat → Bool
  | 0 => true
  | q + 1 => iLt (wr .i64 (Int.mul (RS.getD q (0, 0)).1 (RS.getD (q + 1) (0, 0)).2)) (wr .i64 (Int.mul (RS.getD (q + 1) (0, 0)).1 (RS.getD q (0, 0)).2))
def alN (RS : List (Int × Int)) (x1 y1 x2 y2 : Int) : Nat → Nat
  | 0 => 0
  | j + 1 => bif inB RS x1 y1 x2 y2 j then alN RS x1 y1 x2 y2 j + 1 else alN RS x1 y1 x2 y2 j
def onN (RS : List (Int × Int)) (x1 y1 x2 y2 : Int) : Nat → Nat
  | 0 => 0
  | j + 1 => bif inB RS x1 y1 x2 y2 j && nwB RS j then onN RS x1 y1 x2 y2 j + 1 else onN RS x1 y1 x2 y2 j
theorem alN_s {RS x1 y1 x2 y2} {j : Nat} : alN RS x1 y1 x2 y2 (j + 1) = bif inB RS x1 y1 x2 y2 j then alN RS x1 y1 x2 y2 j + 1 else alN RS x1 y1 x2 y2 j := rfl
theorem onN_s {RS x1 y1 x2 y2} {j : Nat} : onN RS x1 y1 x2 y2 (j + 1) = bif inB RS x1 y1 x2 y2 j && nwB RS j then onN RS x1 y1 x2 y2 j + 1 else onN RS x1 y1 x2 y2 j := rfl
theorem alN_le {RS x1 y1 x2 y2} : ∀ j, alN RS x1 y1 x2 y2 j ≤ j
  | 0 => Nat.le_refl 0
  | j + 1 => by
    have := alN_le (RS := RS) (x1 := x1) (y1 := y1) (x2 := x2) (y2 := y2) j
    rw [alN_s]; cases inB RS x1 y1 x2 y2 j <;> simp only [cond_true, cond_false] <;> omega
theorem onN_le {RS x1 y1 x2 y2} : ∀ j, onN RS x1 y1 x2 y2 j ≤ j
  | 0 => Nat.le_refl 0
  | j + 1 => by
    have := onN_le (RS := RS) (x1 := x1) (y1 := y1) (x2 := x2) (y2 := y2) j
    rw [onN_s]; cases inB RS x1 y1 x2 y2 j && nwB RS j <;> simp only [cond_true, cond_false] <;> omega
/-- what the law asks of the counts -/
def OKS (C D : List (List Int)) (x1 y1 x2 y2 : Int) (o a : Nat) : Prop :=
  iEq ((cnV C x1 y1 : Int) - (cnV C x2 y2 : Int)) (Int.ofNat o) = true ∧ iEq ((cnV C x1 y1 : Int) - (cnV C x2 y2 : Int)) (wr .i64 (Int.sub (Int.ofNat (cnV C x1 y1)) (Int.ofNat (cnV C x2 y2)))) = true ∧ iLt ((cnV D x1 y1 : Int) - (cnV D x2 y2 : Int)) (Int.ofNat a) = false ∧ iEq (Int.tmod (wr .i64 (Int.sub ((cnV D x1 y1 : Int) - (cnV D x2 y2 : Int)) (Int.ofNat a))) 2) 0 = true
theorem l6 (F d : Nat) (hF : 500 < F) (q0 q1 q2 q3 q4 q5 cnt fa : Int) (odd : Bool) (a0 a1 b0 b1 : Int) (n k : Nat) (hk : k ≤ 3) (P : List Int) (RS : List (Int × Int)) (x1 y1 x2 y2 : Int)
    (k31 : ∀ R, callS (CL F (d + 11)) (.fn 31 [] []) [.agg [.int .i8 q0, .int .i8 q1, .int .i8 q2, .int .i8 q3, .int .i8 q4, .int .i8 q5, .int .u8 cnt, .bool odd, .int .i8 fa]] [] (addL R (30000 + 100)) 0 fun w m' R' _ => (∃ w0 mf, QM 710 760 n k P RS w0 mf ∧ den w = den w0 ∧ WkM m' mf) ∧ R ≤ R')
    (k32 : PureC (CL F (d + 11)) 32 [.agg [.int .i8 a0, .int .i8 a1], .agg [.int .i8 b0, .int .i8 b1]] 200 (.tup [.agg [.int .i64 x1, .int .i64 y1], .agg [.int .i64 x2, .int .i64 y2]]))
    (hok : okB P n = true → Val P n ∧ Arg x1 y1 ∧ Arg x2 y2 ∧ x1 * y2 ≤ x2 * y1 ∧ ∃ C, chO P = some C ∧ OKS C (dsO n P) x1 y1 x2 y2 (onN RS x1 y1 x2 y2 k) (alN RS x1 y1 x2 y2 k)) : ReadC (CL F (d + 12)) 6 [.agg [.int .i8 q0, .int .i8 q1, .int .i8 q2, .int .i8 q3, .int .i8 q4, .int .i8 q5, .int .u8 cnt, .bool odd, .int .i8 fa], .agg [.int .i8 a0, .int .i8 a1], .agg [.int .i8 b0, .int .i8 b1]] [] (1300000 + 100) (.bool true) := by
  intro R
  rw [show 1300000 + 100 = (1300000) + 100 from rfl, addL_eq, ← Nat.add_assoc, ← addL_eq _ 100, Nat.add_comm R (1300000)]
  rcases Bool.eq_false_or_eq_true (okB P n) with ho | ho
  rotate_left
  · refine call_in (n := 139) Try.func6 rfl rfl rfl rfl rfl rfl rfl ?_
    repeat' ((conv => whnf); first | refine eqS_rfl ?_ | refine eqA_rfl ?_ | refine eqA_of (by assumption) ?_ | refine eqS_of (by rfl) ?_ | refine eqL_rfl ?_ | refine eqJ_rfl ?_ | refine gE ?_ | refine seS_rfl ?_ | refine lsS_of hup ?_ | refine lsS_rfl ?_ | refine brS_tt ?_ | refine brS_ff ?_ | refine brS_not ?_ | refine gI ?_ | refine gT ?_ | refine gF ?_ | refine brS_intro (fun _ => ?_) (fun _ => ?_) | refine gL ?_ | refine gX ?_ | refine gO ?_ | refine gN ?_ | refine gM ?_ | refine gY ?_ | refine call31 k31 (addL (1265000 + R) 60) (by rfl) (nM1) ?_ | refine call_w (by rfl) ?_ | intro _)
    conv => whnf
    exact ⟨rfl, nM1⟩
  obtain ⟨hV, hA, hB, hle, C, hC, g1, g2, g3, g4⟩ := hok ho
  have k25 := fun a c => c25 F d a n c P hV (by omega) C hC x1 y1 x2 y2 hA hB hle
  have k27 := fun a c => c27 F (d + 1) a n c P hV (by omega) x1 y1 x2 y2 hA hB hle
  have k23a := fun a c => c23 F (d + 2) a n c P hV (by omega) C hC x1 y1 hA
  have k23b := fun a c => c23 F (d + 2) a n c P hV (by omega) C hC x2 y2 hB
  refine call_in (n := 139) Try.func6 rfl rfl rfl rfl rfl rfl rfl ?_
  repeat' ((conv => whnf); first | refine eqS_rfl ?_ | refine eqA_rfl ?_ | refine eqA_of (by assumption) ?_ | refine eqS_of (by rfl) ?_ | refine eqL_rfl ?_ | refine eqJ_rfl ?_ | refine gE ?_ | refine seS_rfl ?_ | refine lsS_of hup ?_ | refine lsS_rfl ?_ | refine brS_tt ?_ | refine brS_ff ?_ | refine brS_not ?_ | refine gI ?_ | refine gT ?_ | refine gF ?_ | refine brS_intro (fun _ => ?_) (fun _ => ?_) | refine gL ?_ | refine gX ?_ | refine gO ?_ | refine gN ?_ | refine gM ?_ | refine gY ?_ | refine call31 k31 (addL (1265000 + R) 60) (by rfl) (nM1) ?_ | refine call_pureL k32 (addL (1264000 + R) 60) (nM1) ?_ | intro _)
  rename_i v0 v1 v2 aP aR bx bz
  conv => whnf
  refine loS_i (fun jj f mm R' ni => ∃ j : Nat, j ≤ k ∧ jj = k - j + 1 ∧ f = [(7, .sl 710 aP n n), (8, .sl 760 aR k k), (10, .ptr 3 bx 0), (11, .ptr 4 bz 0), (12, .int .i64 (Int.ofNat (onN RS x1 y1 x2 y2 j))), (13, .int .i64 (Int.ofNat (alN RS x1 y1 x2 y2 j))), (39, .sl 760 aR k k), (40, .int .i64 (Int.ofNat k)), (41, .int .i64 (Int.ofNat j))] ∧ mm = [(710, .gr aP n 3 1 (pf P)), (760, .gr aR k 24 2 (rf RS)), (3, .own bx 24 [.int .i64 x1, .int .i64 y1]), (4, .own bz 24 [.int .i64 x2, .int .i64 y2])] ∧ R' = addL (300 * (k - j) + (1260000 + R)) 200 ∧ ni = 900) (k + 1) (by omega)
    ⟨[(7, .sl 710 aP n n), (8, .sl 760 aR k k), (10, .ptr 3 bx 0), (11, .ptr 4 bz 0), (12, .int .i64 (Int.ofNat (onN RS x1 y1 x2 y2 0))), (13, .int .i64 (Int.ofNat (alN RS x1 y1 x2 y2 0))), (39, .sl 760 aR k k), (40, .int .i64 (Int.ofNat k)), (41, .int .i64 (Int.ofNat 0))], [(710, .gr aP n 3 1 (pf P)), (760, .gr aR k 24 2 (rf RS)), (3, .own bx 24 [.int .i64 x1, .int .i64 y1]), (4, .own bz 24 [.int .i64 x2, .int .i64 y2])], addL (300 * (k - 0) + (1260000 + R)) 200, 900, ⟨eqF_rfl _, eqF_rfl _, eqF_rfl _, eqF_rfl _, eqF_rfl _, eqF_rfl _, eqF_rfl _, eqF_rfl _, eqF_rfl _, trivial⟩, WG, nM1, 0, by omega, by omega, rfl, rfl, rfl, rfl⟩ ?_
  rintro _ _ _ _ _ ⟨j, hj, rfl, rfl, rfl, rfl, rfl⟩
  have hal := alN_le (RS := RS) (x1 := x1) (y1 := y1) (x2 := x2) (y2 := y2) j
  have hon := onN_le (RS := RS) (x1 := x1) (y1 := y1) (x2 := x2) (y2 := y2) j
  by_cases hlt : j < k
  · have d1 := iLt_t hlt
    rcases Bool.eq_false_or_eq_true (iLt (wr .i64 (Int.mul x1 (RS.getD j (0, 0)).2)) (wr .i64 (Int.mul (RS.getD j (0, 0)).1 y1))) with h1 | h1
    rotate_left
    · have e0 : inB RS x1 y1 x2 y2 j = false := by unfold inB; rw [h1]; rfl
      have e13 : Int.ofNat (alN RS x1 y1 x2 y2 j) = Int.ofNat (alN RS x1 y1 x2 y2 (j + 1)) := by rw [alN_s (j := j), e0]; exact rfl
      have e12 : Int.ofNat (onN RS x1 y1 x2 y2 j) = Int.ofNat (onN RS x1 y1 x2 y2 (j + 1)) := by rw [onN_s (j := j), e0]; exact rfl
      repeat' ((conv => whnf); first | refine eqS_rfl ?_ | refine eqA_rfl ?_ | refine eqA_of (by assumption) ?_ | refine eqS_of (by rfl) ?_ | refine eqL_rfl ?_ | refine eqJ_rfl ?_ | refine gE ?_ | refine seS_rfl ?_ | refine lsS_of hup ?_ | refine lsS_rfl ?_ | refine brS_tt ?_ | refine brS_ff ?_ | refine brS_not ?_ | refine gI ?_ | refine gT ?_ | refine gF ?_ | refine brS_intro (fun _ => ?_) (fun _ => ?_) | refine gL ?_ | refine gX ?_ | refine gO ?_ | refine gN ?_ | refine gM ?_ | refine gY ?_ | refine call_pure (c33 F _ _ _ _ _) ?_ | intro _)
      conv => whnf
      exact ⟨k - (j + 1) + 1, [(7, .sl 710 aP n n), (8, .sl 760 aR k k), (10, .ptr 3 bx 0), (11, .ptr 4 bz 0), (12, .int .i64 (Int.ofNat (onN RS x1 y1 x2 y2 (j + 1)))), (13, .int .i64 (Int.ofNat (alN RS x1 y1 x2 y2 (j + 1)))), (39, .sl 760 aR k k), (40, .int .i64 (Int.ofNat k)), (41, .int .i64 (Int.ofNat (j + 1)))], [(710, .gr aP n 3 1 (pf P)), (760, .gr aR k 24 2 (rf RS)), (3, .own bx 24 [.int .i64 x1, .int .i64 y1]), (4, .own bz 24 [.int .i64 x2, .int .i64 y2])], addL (300 * (k - (j + 1)) + (1260000 + R)) 200, 900, by omega, ⟨eqF_rfl _, eqF_rfl _, eqF_rfl _, eqF_rfl _, ⟨congrArg (Value.int .i64) e12, rfl⟩, ⟨congrArg (Value.int .i64) e13, rfl⟩, eqF_rfl _, eqF_rfl _, ⟨congrArg (Value.int .i64) (smn (i := j + 1) (by omega)), rfl⟩, trivial⟩, WG, nM1, j + 1, by omega, rfl, rfl, rfl, rfl, rfl⟩
    rcases Bool.eq_false_or_eq_true (iLt (wr .i64 (Int.mul x2 (RS.getD j (0, 0)).2)) (wr .i64 (Int.mul (RS.getD j (0, 0)).1 y2))) with h2 | h2
    · have e0 : inB RS x1 y1 x2 y2 j = false := by unfold inB; rw [h1, h2]; rfl
      have e13 : Int.ofNat (alN RS x1 y1 x2 y2 j) = Int.ofNat (alN RS x1 y1 x2 y2 (j + 1)) := by rw [alN_s (j := j), e0]; exact rfl
      have e12 : Int.ofNat (onN RS x1 y1 x2 y2 j) = Int.ofNat (onN RS x1 y1 x2 y2 (j + 1)) := by rw [onN_s (j := j), e0]; exact rfl
      repeat' ((conv => whnf); first | refine eqS_rfl ?_ | refine eqA_rfl ?_ | refine eqA_of (by assumption) ?_ | refine eqS_of (by rfl) ?_ | refine eqL_rfl ?_ | refine eqJ_rfl ?_ | refine gE ?_ | refine seS_rfl ?_ | refine lsS_of hup ?_ | refine lsS_rfl ?_ | refine brS_tt ?_ | refine brS_ff ?_ | refine brS_not ?_ | refine gI ?_ | refine gT ?_ | refine gF ?_ | refine brS_intro (fun _ => ?_) (fun _ => ?_) | refine gL ?_ | refine gX ?_ | refine gO ?_ | refine gN ?_ | refine gM ?_ | refine gY ?_ | refine call_pure (c33 F _ _ _ _ _) ?_ | intro _)
      conv => whnf
      exact ⟨k - (j + 1) + 1, [(7, .sl 710 aP n n), (8, .sl 760 aR k k), (10, .ptr 3 bx 0), (11, .ptr 4 bz 0), (12, .int .i64 (Int.ofNat (onN RS x1 y1 x2 y2 (j + 1)))), (13, .int .i64 (Int.ofNat (alN RS x1 y1 x2 y2 (j + 1)))), (39, .sl 760 aR k k), (40, .int .i64 (Int.ofNat k)), (41, .int .i64 (Int.ofNat (j + 1)))], [(710, .gr aP n 3 1 (pf P)), (760, .gr aR k 24 2 (rf RS)), (3, .own bx 24 [.int .i64 x1, .int .i64 y1]), (4, .own bz 24 [.int .i64 x2, .int .i64 y2])], addL (300 * (k - (j + 1)) + (1260000 + R)) 200, 900, by omega, ⟨eqF_rfl _, eqF_rfl _, eqF_rfl _, eqF_rfl _, ⟨congrArg (Value.int .i64) e12, rfl⟩, ⟨congrArg (Value.int .i64) e13, rfl⟩, eqF_rfl _, eqF_rfl _, ⟨congrArg (Value.int .i64) (smn (i := j + 1) (by omega)), rfl⟩, trivial⟩, WG, nM1, j + 1, by omega, rfl, rfl, rfl, rfl, rfl⟩
    rcases j with _ | q
    · have hn : nwB RS 0 = true := rfl
      have e0 : inB RS x1 y1 x2 y2 0 = true := by unfold inB; rw [h1, h2]; rfl
      have e13 : wr .i64 (Int.add (Int.ofNat (alN RS x1 y1 x2 y2 0)) 1) = Int.ofNat (alN RS x1 y1 x2 y2 (0 + 1)) := by rw [alN_s (j := 0), e0]; exact smn (i := alN RS x1 y1 x2 y2 0 + 1) (by omega)
      have e12 : wr .i64 (Int.add (Int.ofNat (onN RS x1 y1 x2 y2 0)) 1) = Int.ofNat (onN RS x1 y1 x2 y2 (0 + 1)) := by rw [onN_s (j := 0), e0, hn]; exact smn (i := onN RS x1 y1 x2 y2 0 + 1) (by omega)
      repeat' ((conv => whnf); first | refine eqS_rfl ?_ | refine eqA_rfl ?_ | refine eqA_of (by assumption) ?_ | refine eqS_of (by rfl) ?_ | refine eqL_rfl ?_ | refine eqJ_rfl ?_ | refine gE ?_ | refine seS_rfl ?_ | refine lsS_of hup ?_ | refine lsS_rfl ?_ | refine brS_tt ?_ | refine brS_ff ?_ | refine brS_not ?_ | refine gI ?_ | refine gT ?_ | refine gF ?_ | refine brS_intro (fun _ => ?_) (fun _ => ?_) | refine gL ?_ | refine gX ?_ | refine gO ?_ | refine gN ?_ | refine gM ?_ | refine gY ?_ | refine call_pure (c33 F _ _ _ _ _) ?_ | intro _)
      conv => whnf
      exact ⟨k - (0 + 1) + 1, [(7, .sl 710 aP n n), (8, .sl 760 aR k k), (10, .ptr 3 bx 0), (11, .ptr 4 bz 0), (12, .int .i64 (Int.ofNat (onN RS x1 y1 x2 y2 (0 + 1)))), (13, .int .i64 (Int.ofNat (alN RS x1 y1 x2 y2 (0 + 1)))), (39, .sl 760 aR k k), (40, .int .i64 (Int.ofNat k)), (41, .int .i64 (Int.ofNat (0 + 1)))], [(710, .gr aP n 3 1 (pf P)), (760, .gr aR k 24 2 (rf RS)), (3, .own bx 24 [.int .i64 x1, .int .i64 y1]), (4, .own bz 24 [.int .i64 x2, .int .i64 y2])], addL (300 * (k - (0 + 1)) + (1260000 + R)) 200, 900, by omega, ⟨eqF_rfl _, eqF_rfl _, eqF_rfl _, eqF_rfl _, ⟨congrArg (Value.int .i64) e12, rfl⟩, ⟨congrArg (Value.int .i64) e13, rfl⟩, eqF_rfl _, eqF_rfl _, ⟨congrArg (Value.int .i64) (smn (i := 0 + 1) (by omega)), rfl⟩, trivial⟩, WG, nM1, 0 + 1, by omega, rfl, rfl, rfl, rfl, rfl⟩
    rcases Bool.eq_false_or_eq_true (iLt (wr .i64 (Int.mul (RS.getD q (0, 0)).1 (RS.getD (q + 1) (0, 0)).2)) (wr .i64 (Int.mul (RS.getD (q + 1) (0, 0)).1 (RS.getD q (0, 0)).2))) with h3 | h3
    · have hn : nwB RS (q + 1) = true := h3
      have dq : iEq (Int.ofNat (q + 1)) 0 = false := (iEq_n (b := 0)).trans (decide_eq_false (by omega))
      have sq : wr .i64 (Int.sub (Int.ofNat (q + 1)) 1) = Int.ofNat q := (sm (n := ((q + 1 : Nat) : Int) - 1) (by omega)).trans (by show ((q + 1 : Nat) : Int) - 1 = (q : Int); omega)
      have e0 : inB RS x1 y1 x2 y2 (q + 1) = true := by unfold inB; rw [h1, h2]; rfl
      have e13 : wr .i64 (Int.add (Int.ofNat (alN RS x1 y1 x2 y2 (q + 1))) 1) = Int.ofNat (alN RS x1 y1 x2 y2 (q + 1 + 1)) := by rw [alN_s (j := q + 1), e0]; exact smn (i := alN RS x1 y1 x2 y2 (q + 1) + 1) (by omega)
      have e12 : wr .i64 (Int.add (Int.ofNat (onN RS x1 y1 x2 y2 (q + 1))) 1) = Int.ofNat (onN RS x1 y1 x2 y2 (q + 1 + 1)) := by rw [onN_s (j := q + 1), e0, hn]; exact smn (i := onN RS x1 y1 x2 y2 (q + 1) + 1) (by omega)
      repeat' ((conv => whnf); first | refine eqS_rfl ?_ | refine eqA_rfl ?_ | refine eqA_of (by assumption) ?_ | refine eqS_of (by rfl) ?_ | refine eqL_rfl ?_ | refine eqJ_rfl ?_ | refine gE ?_ | refine seS_rfl ?_ | refine lsS_of hup ?_ | refine lsS_rfl ?_ | refine brS_tt ?_ | refine brS_ff ?_ | refine brS_not ?_ | refine gI ?_ | refine gT ?_ | refine gF ?_ | refine brS_intro (fun _ => ?_) (fun _ => ?_) | refine gL ?_ | refine gX ?_ | refine gO ?_ | refine gN ?_ | refine gM ?_ | refine gY ?_ | refine call_pure (c33 F _ _ _ _ _) ?_ | refine ixS_of sq (show q < k by omega) ?_ | intro _)
      conv => whnf
      exact ⟨k - (q + 1 + 1) + 1, [(7, .sl 710 aP n n), (8, .sl 760 aR k k), (10, .ptr 3 bx 0), (11, .ptr 4 bz 0), (12, .int .i64 (Int.ofNat (onN RS x1 y1 x2 y2 (q + 1 + 1)))), (13, .int .i64 (Int.ofNat (alN RS x1 y1 x2 y2 (q + 1 + 1)))), (39, .sl 760 aR k k), (40, .int .i64 (Int.ofNat k)), (41, .int .i64 (Int.ofNat (q + 1 + 1)))], [(710, .gr aP n 3 1 (pf P)), (760, .gr aR k 24 2 (rf RS)), (3, .own bx 24 [.int .i64 x1, .int .i64 y1]), (4, .own bz 24 [.int .i64 x2, .int .i64 y2])], addL (300 * (k - (q + 1 + 1)) + (1260000 + R)) 200, 900, by omega, ⟨eqF_rfl _, eqF_rfl _, eqF_rfl _, eqF_rfl _, ⟨congrArg (Value.int .i64) e12, rfl⟩, ⟨congrArg (Value.int .i64) e13, rfl⟩, eqF_rfl _, eqF_rfl _, ⟨congrArg (Value.int .i64) (smn (i := (q + 1) + 1) (by omega)), rfl⟩, trivial⟩, WG, nM1, (q + 1) + 1, by omega, rfl, rfl, rfl, rfl, rfl⟩
    · have hn : nwB RS (q + 1) = false := h3
      have dq : iEq (Int.ofNat (q + 1)) 0 = false := (iEq_n (b := 0)).trans (decide_eq_false (by omega))
      have sq : wr .i64 (Int.sub (Int.ofNat (q + 1)) 1) = Int.ofNat q := (sm (n := ((q + 1 : Nat) : Int) - 1) (by omega)).trans (by show ((q + 1 : Nat) : Int) - 1 = (q : Int); omega)
      have e0 : inB RS x1 y1 x2 y2 (q + 1) = true := by unfold inB; rw [h1, h2]; rfl
      have e13 : wr .i64 (Int.add (Int.ofNat (alN RS x1 y1 x2 y2 (q + 1))) 1) = Int.ofNat (alN RS x1 y1 x2 y2 (q + 1 + 1)) := by rw [alN_s (j := q + 1), e0]; exact smn (i := alN RS x1 y1 x2 y2 (q + 1) + 1) (by omega)
      have e12 : Int.ofNat (onN RS x1 y1 x2 y2 (q + 1)) = Int.ofNat (onN RS x1 y1 x2 y2 (q + 1 + 1)) := by rw [onN_s (j := q + 1), e0, hn]; exact rfl
      repeat' ((conv => whnf); first | refine eqS_rfl ?_ | refine eqA_rfl ?_ | refine eqA_of (by assumption) ?_ | refine eqS_of (by rfl) ?_ | refine eqL_rfl ?_ | refine eqJ_rfl ?_ | refine gE ?_ | refine seS_rfl ?_ | refine lsS_of hup ?_ | refine lsS_rfl ?_ | refine brS_tt ?_ | refine brS_ff ?_ | refine brS_not ?_ | refine gI ?_ | refine gT ?_ | refine gF ?_ | refine brS_intro (fun _ => ?_) (fun _ => ?_) | refine gL ?_ | refine gX ?_ | refine gO ?_ | refine gN ?_ | refine gM ?_ | refine gY ?_ | refine call_pure (c33 F _ _ _ _ _) ?_ | refine ixS_of sq (show q < k by omega) ?_ | intro _)
      conv => whnf
      exact ⟨k - (q + 1 + 1) + 1, [(7, .sl 710 aP n n), (8, .sl 760 aR k k), (10, .ptr 3 bx 0), (11, .ptr 4 bz 0), (12, .int .i64 (Int.ofNat (onN RS x1 y1 x2 y2 (q + 1 + 1)))), (13, .int .i64 (Int.ofNat (alN RS x1 y1 x2 y2 (q + 1 + 1)))), (39, .sl 760 aR k k), (40, .int .i64 (Int.ofNat k)), (41, .int .i64 (Int.ofNat (q + 1 + 1)))], [(710, .gr aP n 3 1 (pf P)), (760, .gr aR k 24 2 (rf RS)), (3, .own bx 24 [.int .i64 x1, .int .i64 y1]), (4, .own bz 24 [.int .i64 x2, .int .i64 y2])], addL (300 * (k - (q + 1 + 1)) + (1260000 + R)) 200, 900, by omega, ⟨eqF_rfl _, eqF_rfl _, eqF_rfl _, eqF_rfl _, ⟨congrArg (Value.int .i64) e12, rfl⟩, ⟨congrArg (Value.int .i64) e13, rfl⟩, eqF_rfl _, eqF_rfl _, ⟨congrArg (Value.int .i64) (smn (i := (q + 1) + 1) (by omega)), rfl⟩, trivial⟩, WG, nM1, (q + 1) + 1, by omega, rfl, rfl, rfl, rfl, rfl⟩
  · have e3 : k = j := by omega
    subst e3
    have d1 := iLt_f (Nat.le_refl k)
    repeat' ((conv => whnf); first | refine eqS_rfl ?_ | refine eqA_rfl ?_ | refine eqA_of (by assumption) ?_ | refine eqS_of (by rfl) ?_ | refine eqL_rfl ?_ | refine eqJ_rfl ?_ | refine gE ?_ | refine seS_rfl ?_ | refine lsS_of hup ?_ | refine lsS_rfl ?_ | refine brS_tt ?_ | refine brS_ff ?_ | refine brS_not ?_ | refine gI ?_ | refine gT ?_ | refine gF ?_ | refine brS_intro (fun _ => ?_) (fun _ => ?_) | refine gL ?_ | refine gX ?_ | refine gO ?_ | refine gN ?_ | refine gM ?_ | refine gY ?_ | refine call_readL (k25 _ _) (addL (840000 + R) 60) (by rfl) (by exact SeesM.cons 1000 (sees_gr (i := 710) (by rfl)) (SeesM.nil _) (fun _ _ _ _ _ _ x hx => by cases hx)) (nM1) ?_ | refine call_readL (k27 _ _) (addL (805000 + R) 60) (by rfl) (by exact SeesM.cons 1000 (sees_gr (i := 710) (by rfl)) (SeesM.nil _) (fun _ _ _ _ _ _ x hx => by cases hx)) (nM1) ?_ | refine call_readL (k23a _ _) (addL (403000 + R) 60) (by rfl) (by exact SeesM.cons 1000 (sees_gr (i := 710) (by rfl)) (SeesM.nil _) (fun _ _ _ _ _ _ x hx => by cases hx)) (nM1) ?_ | refine call_readL (k23b _ _) (addL R 60) (by rfl) (by exact SeesM.cons 1000 (sees_gr (i := 710) (by rfl)) (SeesM.nil _) (fun _ _ _ _ _ _ x hx => by cases hx)) (nM1) ?_ | refine call_w (by rfl) ?_ | intro _)
    conv => whnf
    exact ⟨rfl, nM1⟩
end Go.Proofs.Ytpncjgiojoehkaa
namespace Go.Proofs.Ytpncjgiojoehkaa
open Go.Ab
set_option maxRecDepth 100000
set_option linter.unusedSimpArgs false
/-- a value, from the last coefficient on -/
def hsR (x y : Int) : List Int → Int → Int → Int
  | [], v, _ => v
  | c :: t, v, w => hsR x y t (wr .i64 (Int.add (wr .i64 (Int.mul v x)) (wr .i64 (Int.mul c w)))) (wr .i64 (Int.mul w y))
theorem hsR_k (l : List Int) (x y : Int) : ∀ k, k ≤ l.length → hsR x y (l.reverse.drop k) (hsN l x y k).1 (hsN l x y k).2 = hsR x y l.reverse 0 1
  | 0, _ => by rw [List.drop_zero]; rfl
  | k + 1, h => by
    rw [← hsR_k l x y k (by omega)]
    have hk : k < l.reverse.length := by rw [List.length_reverse]; omega
    rw [List.drop_eq_getElem_cons hk]
    have e : l.reverse[k] = l.getD (l.length - 1 - k) 0 := by
      rw [List.getElem_reverse, List.getD_eq_getElem?_getD, List.getElem?_eq_getElem (by omega)]; rfl
    rw [e]; rfl
theorem sgR_eq (l : List Int) (x y : Int) : sgP l x y = sgI (hsR x y l.reverse 0 1) := by
  rw [← hsR_k l x y l.length (Nat.le_refl _), List.drop_eq_nil_of_le (by rw [List.length_reverse]; exact Nat.le_refl _)]
  rfl
/-- last sign, changes -/
def chR (x y : Int) : List (List Int) → Nat → Nat → Nat
  | [], _, n => n
  | l :: t, s, n => match hsR x y l 0 1 with
    | .ofNat 0 => chR x y t s n
    | .ofNat _ => chR x y t 1 (bif Nat.beq s 2 then n + 1 else n)
    | .negSucc _ => chR x y t 2 (bif Nat.beq s 1 then n + 1 else n)
def cdS : Nat → Int
  | 0 => 0
  | 1 => 1
  | _ => -1
theorem chN_s (sg : Nat → Int) (k : Nat) : chN sg (k + 1) = if sg k = 0 then ((chN sg k).1, (chN sg k).2) else (sg k, if (chN sg k).1 ≠ 0 ∧ sg k ≠ (chN sg k).1 then (chN sg k).2 + 1 else (chN sg k).2) := rfl
theorem chR_k (C : List (List Int)) (x y : Int) : ∀ (m k s n : Nat), C.length = k + m → s ≤ 2 → chN (fun k => sgP (C.getD k []) x y) k = (cdS s, n) → (chN (fun k => sgP (C.getD k []) x y) C.length).2 = chR x y ((C.drop k).map List.reverse) s n
  | 0, k, s, n, hl, hs, hc => by
    have hl : C.length = k := hl
    rw [List.drop_eq_nil_of_le (by omega), hl, hc]; rfl
  | m + 1, k, s, n, hl, hs, hc => by
    have hk : k < C.length := by omega
    rw [List.drop_eq_getElem_cons hk]
    have eg : C.getD k [] = C[k] := by rw [List.getD_eq_getElem?_getD, List.getElem?_eq_getElem hk]; rfl
    have e1 := chN_s (fun k => sgP (C.getD k []) x y) k
    rw [hc] at e1
    have e2 : sgP (C.getD k []) x y = sgI (hsR x y C[k].reverse 0 1) := by rw [eg]; exact sgR_eq _ x y
    have e1 : chN (fun k => sgP (C.getD k []) x y) (k + 1) = if sgP (C.getD k []) x y = 0 then (cdS s, n) else (sgP (C.getD k []) x y, if cdS s ≠ 0 ∧ sgP (C.getD k []) x y ≠ cdS s then n + 1 else n) := e1
    rw [e2] at e1
    show _ = chR x y (C[k].reverse :: (C.drop (k + 1)).map List.reverse) s n
    unfold chR
    revert e1
    cases hsR x y C[k].reverse 0 1 with
    | ofNat a =>
      cases a with
      | zero => exact fun e1 => chR_k C x y m (k + 1) s n (by omega) hs (e1.trans (if_pos rfl))
      | succ a =>
        intro e1
        have es : sgI (Int.ofNat (a + 1)) = 1 := by unfold sgI; rw [show Int.ofNat (a + 1) = ((a + 1 : Nat) : Int) from rfl, if_neg (by omega), if_pos (by omega)]
        rw [es, if_neg (by decide)] at e1
        refine chR_k C x y m (k + 1) 1 _ (by omega) (by decide) (e1.trans ?_)
        match s, hs with
        | 0, _ => rfl
        | 1, _ => rfl
        | 2, _ => rfl
    | negSucc a =>
      intro e1
      have es : sgI (Int.negSucc a) = -1 := by unfold sgI; rw [if_pos (by omega)]
      rw [es, if_neg (by decide)] at e1
      refine chR_k C x y m (k + 1) 2 _ (by omega) (by decide) (e1.trans ?_)
      match s, hs with
      | 0, _ => rfl
      | 1, _ => rfl
      | 2, _ => rfl
theorem cnV_eq (C : List (List Int)) (x y : Int) : cnV C x y = chR x y (C.map List.reverse) 0 0 := by
  have h := chR_k C x y C.length 0 0 0 (by omega) (by decide) rfl
  rwa [List.drop_zero] at h
/-- of a sorted list of points in groups: the first number stays, the second falls by even steps -/
def chG {α : Type} (a g : α → Nat) (c : Nat) : List (List α) → Nat → Bool
  | [], _ => true
  | [] :: t, p => chG a g c t p
  | (z :: q) :: t, p => Nat.beq (a z) c && (Nat.ble (g z) p && (Nat.beq ((p - g z) % 2) 0 && (q.all (fun z' => Nat.beq (a z') c && Nat.beq (g z') (g z)) && chG a g c t (g z))))
theorem chG_all {α : Type} {a g : α → Nat} {c : Nat} : ∀ {L : List (List α)} {p : Nat}, chG a g c L p = true → ∀ G ∈ L, ∀ z ∈ G, a z = c ∧ g z ≤ p ∧ (p - g z) % 2 = 0
  | [], _, _, G, hG, _, _ => by cases hG
  | [] :: t, p, h, G, hG, z, hz => by
    rcases List.mem_cons.1 hG with rfl | hG
    · cases hz
    · exact chG_all (L := t) h G hG z hz
  | (z0 :: q) :: t, p, h, G, hG, z, hz => by
    unfold chG at h
    simp only [Bool.and_eq_true, Nat.beq_eq, Nat.ble_eq, List.all_eq_true] at h
    obtain ⟨h1, h2, h3, h4, h5⟩ := h
    rcases List.mem_cons.1 hG with rfl | hG
    · rcases List.mem_cons.1 hz with rfl | hz
      · exact ⟨h1, h2, h3⟩
      · obtain ⟨h6, h7⟩ := h4 z hz
        rw [h7]; exact ⟨h6, h2, h3⟩
    · obtain ⟨h6, h7, h8⟩ := chG_all (L := t) h5 G hG z hz
      exact ⟨h6, by omega, by omega⟩
theorem chG_two {α : Type} {a g : α → Nat} {c : Nat} : ∀ {L : List (List α)} {p : Nat}, chG a g c L p = true → ∀ i j, i ≤ j → ∀ z ∈ L.getD i [], ∀ z' ∈ L.getD j [], a z = c ∧ a z' = c ∧ g z' ≤ g z ∧ (g z - g z') % 2 = 0
  | [], _, _, i, _, _, z, hz, _, _ => by simp at hz
  | [] :: t, p, h, 0, j, _, z, hz, _, _ => by simp at hz
  | [] :: t, p, h, i + 1, 0, hij, _, _, _, _ => by omega
  | [] :: t, p, h, i + 1, j + 1, hij, z, hz, z', hz' => chG_two (L := t) h i j (by omega) z hz z' hz'
  | (z0 :: q) :: t, p, h, i + 1, 0, hij, _, _, _, _ => by omega
  | (z0 :: q) :: t, p, h, i + 1, j + 1, hij, z, hz, z', hz' => by
    unfold chG at h
    simp only [Bool.and_eq_true] at h
    exact chG_two (L := t) h.2.2.2.2 i j (by omega) z hz z' hz'
  | (z0 :: q) :: t, p, h, 0, j, hij, z, hz, z', hz' => by
    unfold chG at h
    simp only [Bool.and_eq_true, Nat.beq_eq, Nat.ble_eq, List.all_eq_true] at h
    obtain ⟨h1, h2, h3, h4, h5⟩ := h
    have hh : ∀ y ∈ z0 :: q, a y = c ∧ g y = g z0 := fun y hy => by
      rcases List.mem_cons.1 hy with rfl | hy
      · exact ⟨h1, rfl⟩
      · exact h4 y hy
    have hz : z ∈ z0 :: q := hz
    obtain ⟨e1, e2⟩ := hh z hz
    cases j with
    | zero =>
      have hz' : z' ∈ z0 :: q := hz'
      obtain ⟨e3, e4⟩ := hh z' hz'
      exact ⟨e1, e3, by omega, by omega⟩
    | succ j =>
      have hz' : z' ∈ t.getD j [] := hz'
      have hm : t.getD j [] ∈ t := by
        rw [List.getD_eq_getElem?_getD] at hz' ⊢
        cases hq : t[j]? with
        | none => rw [hq] at hz'; simp at hz'
        | some G => exact List.mem_of_getElem? hq
      obtain ⟨e3, e4, e5⟩ := chG_all h5 _ hm z' hz'
      exact ⟨e1, e3, by omega, by omega⟩
/-- a root is at most a point -/
def atR (RS : List (Int × Int)) (j : Nat) (z : Int × Int) : Bool := !iLt (wr .i64 (Int.mul z.1 (RS.getD j (0, 0)).2)) (wr .i64 (Int.mul (RS.getD j (0, 0)).1 z.2))
def eN (RS : List (Int × Int)) (z : Int × Int) : Nat → Nat
  | 0 => 0
  | j + 1 => bif atR RS j z then eN RS z j + 1 else eN RS z j
def dN (RS : List (Int × Int)) (z : Int × Int) : Nat → Nat
  | 0 => 0
  | j + 1 => bif atR RS j z && nwB RS j then dN RS z j + 1 else dN RS z j
theorem onN_dN {RS x1 y1 x2 y2} : ∀ k, (∀ j, j < k → atR RS j (x1, y1) = true → atR RS j (x2, y2) = true) → onN RS x1 y1 x2 y2 k + dN RS (x1, y1) k = dN RS (x2, y2) k
  | 0, _ => rfl
  | k + 1, h => by
    have ih := onN_dN (RS := RS) (x1 := x1) (y1 := y1) (x2 := x2) (y2 := y2) k fun j hj => h j (by omega)
    have hk := h k (by omega)
    have e : inB RS x1 y1 x2 y2 k = (!atR RS k (x1, y1) && atR RS k (x2, y2)) := by unfold inB atR; rw [Bool.not_not]
    rw [onN_s, e]
    unfold dN
    revert hk
    cases atR RS k (x1, y1) <;> cases atR RS k (x2, y2) <;> cases nwB RS k <;> intro hk <;> simp only [Bool.not_true, Bool.not_false, Bool.true_and, Bool.false_and, Bool.and_true, Bool.and_false, cond_true, cond_false] <;> first | omega | exact absurd (hk rfl) (by decide)
theorem alN_eN {RS x1 y1 x2 y2} : ∀ k, (∀ j, j < k → atR RS j (x1, y1) = true → atR RS j (x2, y2) = true) → alN RS x1 y1 x2 y2 k + eN RS (x1, y1) k = eN RS (x2, y2) k
  | 0, _ => rfl
  | k + 1, h => by
    have ih := alN_eN (RS := RS) (x1 := x1) (y1 := y1) (x2 := x2) (y2 := y2) k fun j hj => h j (by omega)
    have hk := h k (by omega)
    have e : inB RS x1 y1 x2 y2 k = (!atR RS k (x1, y1) && atR RS k (x2, y2)) := by unfold inB atR; rw [Bool.not_not]
    rw [alN_s, e]
    unfold eN
    revert hk
    cases atR RS k (x1, y1) <;> cases atR RS k (x2, y2) <;> intro hk <;> simp only [Bool.not_true, Bool.not_false, Bool.true_and, Bool.false_and, Bool.and_true, Bool.and_false, cond_true, cond_false] <;> first | omega | exact absurd (hk rfl) (by decide)
end Go.Proofs.Ytpncjgiojoehkaa
namespace Go.Proofs.Ytpncjgiojoehkaa
open Go.Ab
set_option maxRecDepth 100000
/-- a value without wrapping -/
def hsZ (x y : Int) : List Int → Int → Int → Int
  | [], v, _ => v
  | c :: t, v, w => hsZ x y t (v * x + c * w) (w * y)
theorem hsR_Z (x y : Int) (hx : Bd x 32) (hy : Bd y 4) : ∀ (l : List Int) (m : Nat), l.length = m → m ≤ 4 → (∀ c ∈ l, Bd c 1073741824) → ∀ v w, Bd v (2 ^ (56 - 6 * m)) → Bd w (4 ^ (4 - m)) → hsR x y l v w = hsZ x y l v w
  | [], _, _, _, _, _, _, _, _ => rfl
  | c :: t, m, hm, h4, hl, v, w, hv, hw => by
    have hc := hl c (List.mem_cons_self ..)
    have ht : ∀ c ∈ t, Bd c 1073741824 := fun c hc => hl c (List.mem_cons_of_mem _ hc)
    have hlen : t.length = m - 1 := by rw [← hm]; rfl
    unfold hsR hsZ
    have key : ∀ (V W : Nat), Bd v V → Bd w W → V * 32 < 9223372036854775808 → 1073741824 * W < 9223372036854775808 → V * 32 + 1073741824 * W < 9223372036854775808 → W * 4 < 9223372036854775808 → V * 32 + 1073741824 * W ≤ 2 ^ (56 - 6 * (m - 1)) → W * 4 ≤ 4 ^ (4 - (m - 1)) → hsR x y t (wr .i64 (Int.add (wr .i64 (Int.mul v x)) (wr .i64 (Int.mul c w)))) (wr .i64 (Int.mul w y)) = hsZ x y t (v * x + c * w) (w * y) := fun V W hV hW l1 l2 l3 l4 l5 l6 => by
      have e1 : wr .i64 (Int.mul v x) = v * x := wr_mul rfl rfl hV hx l1
      have e2 : wr .i64 (Int.mul c w) = c * w := wr_mul rfl rfl hc hW l2
      have e3 : wr .i64 (Int.add (wr .i64 (Int.mul v x)) (wr .i64 (Int.mul c w))) = v * x + c * w := wr_add e1 e2 (hV.mul hx) (hc.mul hW) l3
      have e4 : wr .i64 (Int.mul w y) = w * y := wr_mul rfl rfl hW hy l4
      rw [e3, e4]
      exact hsR_Z x y hx hy t (m - 1) hlen (by omega) ht _ _ (((hV.mul hx).add (hc.mul hW)).mono l5) ((hW.mul hy).mono l6)
    match m, h4 with
    | 0, _ => cases hm
    | 1, _ => exact key _ _ hv hw (by decide) (by decide) (by decide) (by decide) (by decide) (by decide)
    | 2, _ => exact key _ _ hv hw (by decide) (by decide) (by decide) (by decide) (by decide) (by decide)
    | 3, _ => exact key _ _ hv hw (by decide) (by decide) (by decide) (by decide) (by decide) (by decide)
    | 4, _ => exact key _ _ hv hw (by decide) (by decide) (by decide) (by decide) (by decide) (by decide)
/-- a sign's number -/
def scI : Int → Nat
  | .ofNat 0 => 0
  | .ofNat _ => 1
  | .negSucc _ => 2
/-- a sign by natural numbers: what is added and what is taken off -/
def hsP (s : Bool) (a y : Nat) : List Int → Nat → Nat → Nat → Nat
  | [], P, N, _ => bif Nat.beq P N then 0 else bif Nat.ble N P then 1 else 2
  | .ofNat n :: t, P, N, w => bif s then hsP s a y t (Nat.add (Nat.mul N a) (Nat.mul n w)) (Nat.mul P a) (Nat.mul w y) else hsP s a y t (Nat.add (Nat.mul P a) (Nat.mul n w)) (Nat.mul N a) (Nat.mul w y)
  | .negSucc n :: t, P, N, w => bif s then hsP s a y t (Nat.mul N a) (Nat.add (Nat.mul P a) (Nat.mul (n + 1) w)) (Nat.mul w y) else hsP s a y t (Nat.mul P a) (Nat.add (Nat.mul N a) (Nat.mul (n + 1) w)) (Nat.mul w y)
def sxI (s : Bool) (a : Nat) : Int := bif s then -(a : Int) else (a : Int)
theorem hsP_Z (s : Bool) (a y : Nat) : ∀ (l : List Int) (P N w : Nat), hsP s a y l P N w = scI (hsZ (sxI s a) y l ((P : Int) - N) w)
  | [], P, N, _ => by
    unfold hsP hsZ
    by_cases h : P = N
    · subst h
      rw [show Nat.beq P P = true from Nat.beq_refl P, show ((P : Int) - P) = 0 by omega]; rfl
    · have h1 : Nat.beq P N = false := by
        cases e : Nat.beq P N with
        | true => exact absurd (Nat.eq_of_beq_eq_true e) h
        | false => rfl
      rw [h1]
      by_cases h2 : N ≤ P
      · rw [show Nat.ble N P = true from Nat.ble_eq_true_of_le h2]
        obtain ⟨k, hk⟩ : ∃ k, P = N + k + 1 := ⟨P - N - 1, by omega⟩
        rw [show ((P : Int) - N) = Int.ofNat (k + 1) by rw [hk]; show ((N + k + 1 : Nat) : Int) - N = ((k + 1 : Nat) : Int); omega]; rfl
      · rw [show Nat.ble N P = false by cases e : Nat.ble N P with | true => exact absurd (Nat.le_of_ble_eq_true e) h2 | false => rfl]
        obtain ⟨k, hk⟩ : ∃ k, N = P + k + 1 := ⟨N - P - 1, by omega⟩
        rw [show ((P : Int) - N) = Int.negSucc k by rw [hk]; omega]; rfl
  | .ofNat n :: t, P, N, w => by
    unfold hsP hsZ
    cases s
    · rw [cond_false, hsP_Z false a y t]
      show scI (hsZ (a : Int) y t _ _) = scI (hsZ (a : Int) y t _ _)
      congr 2
      show ((P * a + n * w : Nat) : Int) - ((N * a : Nat) : Int) = ((P : Int) - N) * (a : Int) + (n : Int) * (w : Int)
      rw [Int.sub_mul]; simp only [Int.natCast_add, Int.natCast_mul]; omega
    · rw [cond_true, hsP_Z true a y t]
      show scI (hsZ (-(a : Int)) y t _ _) = scI (hsZ (-(a : Int)) y t _ _)
      congr 2
      show ((N * a + n * w : Nat) : Int) - ((P * a : Nat) : Int) = ((P : Int) - N) * (-(a : Int)) + (n : Int) * (w : Int)
      rw [Int.mul_neg, Int.sub_mul]; simp only [Int.natCast_add, Int.natCast_mul]; omega
  | .negSucc n :: t, P, N, w => by
    have en : Int.negSucc n = -((n : Int) + 1) := Int.negSucc_eq n
    unfold hsP hsZ
    cases s
    · rw [cond_false, hsP_Z false a y t]
      show scI (hsZ (a : Int) y t _ _) = scI (hsZ (a : Int) y t _ _)
      congr 2
      show ((P * a : Nat) : Int) - ((N * a + (n + 1) * w : Nat) : Int) = ((P : Int) - N) * (a : Int) + (Int.negSucc n) * (w : Int)
      rw [en, Int.sub_mul, Int.neg_mul]; simp only [Int.natCast_add, Int.natCast_mul, Int.natCast_one]; omega
    · rw [cond_true, hsP_Z true a y t]
      show scI (hsZ (-(a : Int)) y t _ _) = scI (hsZ (-(a : Int)) y t _ _)
      congr 2
      show ((N * a : Nat) : Int) - ((P * a + (n + 1) * w : Nat) : Int) = ((P : Int) - N) * (-(a : Int)) + (Int.negSucc n) * (w : Int)
      rw [en, Int.mul_neg, Int.sub_mul, Int.neg_mul]; simp only [Int.natCast_add, Int.natCast_mul, Int.natCast_one]; omega
/-- last sign, changes, by natural numbers -/
def chS (s : Bool) (a y : Nat) : List (List Int) → Nat → Nat → Nat
  | [], _, n => n
  | l :: t, u, n => match hsP s a y l 0 0 1 with
    | 0 => chS s a y t u n
    | 1 => chS s a y t 1 (bif Nat.beq u 2 then n + 1 else n)
    | _ => chS s a y t 2 (bif Nat.beq u 1 then n + 1 else n)
theorem chS_eq (s : Bool) (a y : Nat) (ha : a ≤ 32) (hy : y ≤ 4) : ∀ (C : List (List Int)) (u n : Nat), (∀ l ∈ C, l.length ≤ 4 ∧ ∀ c ∈ l, Bd c 1073741824) → chS s a y C u n = chR (sxI s a) y C u n
  | [], _, _, _ => rfl
  | l :: t, u, n, h => by
    obtain ⟨h4, hc⟩ := h l (List.mem_cons_self ..)
    have ht : ∀ l ∈ t, l.length ≤ 4 ∧ ∀ c ∈ l, Bd c 1073741824 := fun l hl => h l (List.mem_cons_of_mem _ hl)
    have hx : Bd (sxI s a) 32 := by unfold sxI Bd; cases s <;> simp only [cond_true, cond_false] <;> omega
    have hy' : Bd (y : Int) 4 := by unfold Bd; omega
    have e := hsP_Z s a y l 0 0 1
    have e2 := hsR_Z (sxI s a) y hx hy' l l.length rfl h4 hc 0 1 (by unfold Bd; exact Nat.zero_le _) (by unfold Bd; exact Nat.one_le_pow _ _ (by decide))
    rw [show ((0 : Nat) : Int) - (0 : Nat) = 0 from rfl, show ((1 : Nat) : Int) = 1 from rfl, ← e2] at e
    unfold chS chR
    rw [e]
    cases hsR (sxI s a) y l 0 1 with
    | ofNat k => cases k with
      | zero => exact chS_eq s a y ha hy t _ _ ht
      | succ k => exact chS_eq s a y ha hy t _ _ ht
    | negSucc k => exact chS_eq s a y ha hy t _ _ ht
/-- the same by recursors -/
noncomputable def hsPr (s : Bool) (a y : Nat) (l : List Int) : Nat → Nat → Nat → Nat :=
  List.rec (motive := fun _ => Nat → Nat → Nat → Nat) (fun P N _ => Bool.rec (motive := fun _ => Nat) (Bool.rec (motive := fun _ => Nat) 2 1 (Nat.ble N P)) 0 (Nat.beq P N))
    (fun c _ ih P N w => Int.rec (motive := fun _ => Nat)
      (fun n => Bool.rec (motive := fun _ => Nat) (ih (Nat.add (Nat.mul P a) (Nat.mul n w)) (Nat.mul N a) (Nat.mul w y)) (ih (Nat.add (Nat.mul N a) (Nat.mul n w)) (Nat.mul P a) (Nat.mul w y)) s)
      (fun n => Bool.rec (motive := fun _ => Nat) (ih (Nat.mul P a) (Nat.add (Nat.mul N a) (Nat.mul (Nat.succ n) w)) (Nat.mul w y)) (ih (Nat.mul N a) (Nat.add (Nat.mul P a) (Nat.mul (Nat.succ n) w)) (Nat.mul w y)) s) c) l
theorem hsPr_eq (s : Bool) (a y : Nat) : ∀ (l : List Int) (P N w : Nat), hsP s a y l P N w = hsPr s a y l P N w
  | [], P, N, w => by
    show (bif Nat.beq P N then 0 else bif Nat.ble N P then 1 else 2) = Bool.rec (motive := fun _ => Nat) (Bool.rec (motive := fun _ => Nat) 2 1 (Nat.ble N P)) 0 (Nat.beq P N)
    cases Nat.beq P N <;> cases Nat.ble N P <;> rfl
  | .ofNat n :: t, P, N, w => by
    cases s
    · exact hsPr_eq false a y t _ _ _
    · exact hsPr_eq true a y t _ _ _
  | .negSucc n :: t, P, N, w => by
    cases s
    · exact hsPr_eq false a y t _ _ _
    · exact hsPr_eq true a y t _ _ _
noncomputable def chSr (s : Bool) (a y : Nat) (C : List (List Int)) : Nat → Nat → Nat :=
  List.rec (motive := fun _ => Nat → Nat → Nat) (fun _ n => n)
    (fun l _ ih u n => Nat.rec (motive := fun _ => Nat) (ih u n) (fun q _ => Nat.rec (motive := fun _ => Nat) (ih 1 (Bool.rec (motive := fun _ => Nat) n (Nat.succ n) (Nat.beq u 2))) (fun _ _ => ih 2 (Bool.rec (motive := fun _ => Nat) n (Nat.succ n) (Nat.beq u 1))) q) (hsPr s a y l 0 0 1)) C
theorem chSr_eq (s : Bool) (a y : Nat) : ∀ (C : List (List Int)) (u n : Nat), chS s a y C u n = chSr s a y C u n
  | [], _, _ => rfl
  | l :: t, u, n => by
    have e : chSr s a y (l :: t) u n = Nat.rec (motive := fun _ => Nat) (chSr s a y t u n) (fun q _ => Nat.rec (motive := fun _ => Nat) (chSr s a y t 1 (Bool.rec (motive := fun _ => Nat) n (Nat.succ n) (Nat.beq u 2))) (fun _ _ => chSr s a y t 2 (Bool.rec (motive := fun _ => Nat) n (Nat.succ n) (Nat.beq u 1))) q) (hsPr s a y l 0 0 1) := rfl
    rw [e]
    unfold chS
    rw [hsPr_eq]
    match hsPr s a y l 0 0 1 with
    | 0 => exact chSr_eq s a y t u n
    | 1 =>
      refine (chSr_eq s a y t 1 _).trans ?_
      cases Nat.beq u 2 <;> rfl
    | k + 2 =>
      refine (chSr_eq s a y t 2 _).trans ?_
      cases Nat.beq u 1 <;> rfl
/-- by quarters -/
def eQ (Q : List Nat) (v : Nat) : Nat → Nat
  | 0 => 0
  | j + 1 => bif Nat.ble (Q.getD j 0) v then eQ Q v j + 1 else eQ Q v j
def nwQ (Q : List Nat) : Nat → Bool
  | 0 => true
  | j + 1 => Nat.blt (Q.getD j 0) (Q.getD (j + 1) 0)
def dQ (Q : List Nat) (v : Nat) : Nat → Nat
  | 0 => 0
  | j + 1 => bif Nat.ble (Q.getD j 0) v && nwQ Q j then dQ Q v j + 1 else dQ Q v j
/-- all points, in groups of one value each, in ascending order: the value's number, below nothing, without its sign, its denominator -/
def GR : List (List (Nat × Bool × Nat × Nat)) := [[(0, true, 32, 2)], [], [(2, true, 31, 2)], [], [(4, true, 30, 2)], [], [(6, true, 29, 2)], [], [(8, true, 28, 2)], [], [(10, true, 27, 2)], [], [(12, true, 26, 2)], [], [(14, true, 25, 2)], [], [(16, true, 24, 2)], [], [(18, true, 23, 2)], [], [(20, true, 22, 2)], [], [(22, true, 21, 2)], [], [(24, true, 20, 2)], [], [(26, true, 19, 2)], [], [(28, true, 18, 2)], [], [(30, true, 17, 2)], [], [(32, true, 16, 2), (32, true, 32, 4)], [(33, true, 31, 4)], [(34, true, 15, 2), (34, true, 30, 4)], [(35, true, 29, 4)], [(36, true, 14, 2), (36, true, 28, 4)], [(37, true, 27, 4)], [(38, true, 13, 2), (38, true, 26, 4)], [(39, true, 25, 4)], [(40, true, 12, 2), (40, true, 24, 4)], [(41, true, 23, 4)], [(42, true, 11, 2), (42, true, 22, 4)], [(43, true, 21, 4)], [(44, true, 10, 2), (44, true, 20, 4)], [(45, true, 19, 4)], [(46, true, 9, 2), (46, true, 18, 4)], [(47, true, 17, 4)], [(48, true, 8, 2), (48, true, 16, 4)], [(49, true, 15, 4)], [(50, true, 7, 2), (50, true, 14, 4)], [(51, true, 13, 4)], [(52, true, 6, 2), (52, true, 12, 4)], [(53, true, 11, 4)], [(54, true, 5, 2), (54, true, 10, 4)], [(55, true, 9, 4)], [(56, true, 4, 2), (56, true, 8, 4)], [(57, true, 7, 4)], [(58, true, 3, 2), (58, true, 6, 4)], [(59, true, 5, 4)], [(60, true, 2, 2), (60, true, 4, 4)], [(61, true, 3, 4)], [(62, true, 1, 2), (62, true, 2, 4)], [(63, true, 1, 4)], [(64, false, 0, 2), (64, false, 0, 4)], [(65, false, 1, 4)], [(66, false, 1, 2), (66, false, 2, 4)], [(67, false, 3, 4)], [(68, false, 2, 2), (68, false, 4, 4)], [(69, false, 5, 4)], [(70, false, 3, 2), (70, false, 6, 4)], [(71, false, 7, 4)], [(72, false, 4, 2), (72, false, 8, 4)], [(73, false, 9, 4)], [(74, false, 5, 2), (74, false, 10, 4)], [(75, false, 11, 4)], [(76, false, 6, 2), (76, false, 12, 4)], [(77, false, 13, 4)], [(78, false, 7, 2), (78, false, 14, 4)], [(79, false, 15, 4)], [(80, false, 8, 2), (80, false, 16, 4)], [(81, false, 17, 4)], [(82, false, 9, 2), (82, false, 18, 4)], [(83, false, 19, 4)], [(84, false, 10, 2), (84, false, 20, 4)], [(85, false, 21, 4)], [(86, false, 11, 2), (86, false, 22, 4)], [(87, false, 23, 4)], [(88, false, 12, 2), (88, false, 24, 4)], [(89, false, 25, 4)], [(90, false, 13, 2), (90, false, 26, 4)], [(91, false, 27, 4)], [(92, false, 14, 2), (92, false, 28, 4)], [(93, false, 29, 4)], [(94, false, 15, 2), (94, false, 30, 4)], [(95, false, 31, 4)], [(96, false, 16, 2), (96, false, 32, 4)], [], [(98, false, 17, 2)], [], [(100, false, 18, 2)], [], [(102, false, 19, 2)], [], [(104, false, 20, 2)], [], [(106, false, 21, 2)], [], [(108, false, 22, 2)], [], [(110, false, 23, 2)], [], [(112, false, 24, 2)], [], [(114, false, 25, 2)], [], [(116, false, 26, 2)], [], [(118, false, 27, 2)], [], [(120, false, 28, 2)], [], [(122, false, 29, 2)], [], [(124, false, 30, 2)], [], [(126, false, 31, 2)], [], [(128, false, 32, 2)]]
/-- signs' changes at a point -/
noncomputable def chT (C : List (List Int)) (z : Nat × Bool × Nat × Nat) : Nat := chSr z.2.1 z.2.2.1 z.2.2.2 C 0 0
def bdC (C : List (List Int)) : Bool := C.all fun l => Nat.ble l.length 4 && l.all fun c => Nat.ble c.natAbs 1073741824
/-- a polynomial keeps the law at all points -/
noncomputable def chP (P : List Int) (n k : Nat) (Q : List Nat) : Bool := match chO P with
  | none => false
  | some C => bdC C && (bdC (dsO n P) && chG (fun z => chT (C.map List.reverse) z + dQ Q z.1 k) (fun z => chT ((dsO n P).map List.reverse) z + eQ Q z.1 k) (chT (C.map List.reverse) (0, true, 32, 2)) GR (chT ((dsO n P).map List.reverse) (0, true, 32, 2)))
theorem bdC_ok {C : List (List Int)} (h : bdC C = true) : ∀ l ∈ C.map List.reverse, l.length ≤ 4 ∧ ∀ c ∈ l, Bd c 1073741824 := fun l hl => by
  obtain ⟨l0, h0, rfl⟩ := List.mem_map.1 hl
  unfold bdC at h
  have h1 := List.all_eq_true.1 h l0 h0
  rw [Bool.and_eq_true] at h1
  refine ⟨by rw [List.length_reverse]; exact Nat.le_of_ble_eq_true h1.1, fun c hc => ?_⟩
  exact Nat.le_of_ble_eq_true (List.all_eq_true.1 h1.2 c (List.mem_reverse.1 hc))
theorem cnV_T {C : List (List Int)} (h : bdC C = true) {v a b : Nat} {s : Bool} (ha : a ≤ 32) (hb : b ≤ 4) : cnV C (sxI s a) b = chT (C.map List.reverse) (v, s, a, b) := by
  rw [cnV_eq, ← chS_eq s a b ha hb _ 0 0 (bdC_ok h), chSr_eq]
  rfl
theorem eN_Q {RS : List (Int × Int)} {Q : List Nat} {z : Int × Int} {v : Nat} : ∀ k, (∀ j, j < k → atR RS j z = Nat.ble (Q.getD j 0) v) → eN RS z k = eQ Q v k
  | 0, _ => rfl
  | k + 1, h => by unfold eN eQ; rw [h k (by omega), eN_Q k fun j hj => h j (by omega)]
theorem dN_Q {RS : List (Int × Int)} {Q : List Nat} {z : Int × Int} {v : Nat} : ∀ k, (∀ j, j < k → atR RS j z = Nat.ble (Q.getD j 0) v) → (∀ j, j < k → nwB RS j = nwQ Q j) → dN RS z k = dQ Q v k
  | 0, _, _ => rfl
  | k + 1, h, g => by unfold dN dQ; rw [h k (by omega), g k (by omega), dN_Q k (fun j hj => h j (by omega)) fun j hj => g j (by omega)]
theorem dsO_len : ∀ (n : Nat) (l : List Int), (dsO n l).length = n
  | 0, _ => rfl
  | n + 1, l => by show (dsO n (drL l)).length + 1 = n + 1; rw [dsO_len n]
theorem chP_ok {P : List Int} {n k : Nat} {Q : List Nat} {RS : List (Int × Int)} (h : chP P n k Q = true) (hk : k ≤ 3) (hn : n ≤ 4) {v1 a1 b1 v2 a2 b2 : Nat} {s1 s2 : Bool} (m1 : (v1, s1, a1, b1) ∈ GR.getD v1 []) (m2 : (v2, s2, a2, b2) ∈ GR.getD v2 []) (hv : v1 ≤ v2) (ha1 : a1 ≤ 32) (hb1 : b1 ≤ 4) (ha2 : a2 ≤ 32) (hb2 : b2 ≤ 4)
    (t1 : ∀ j, j < k → atR RS j (sxI s1 a1, (b1 : Int)) = Nat.ble (Q.getD j 0) v1) (t2 : ∀ j, j < k → atR RS j (sxI s2 a2, (b2 : Int)) = Nat.ble (Q.getD j 0) v2) (tn : ∀ j, j < k → nwB RS j = nwQ Q j) :
    ∃ C, chO P = some C ∧ OKS C (dsO n P) (sxI s1 a1) b1 (sxI s2 a2) b2 (onN RS (sxI s1 a1) b1 (sxI s2 a2) b2 k) (alN RS (sxI s1 a1) b1 (sxI s2 a2) b2 k) := by
  unfold chP at h
  cases hC : chO P with
  | none => rw [hC] at h; exact (Bool.false_ne_true h).elim
  | some C =>
    rw [hC] at h
    have h : (bdC C && (bdC (dsO n P) && chG (fun z => chT (C.map List.reverse) z + dQ Q z.1 k) (fun z => chT ((dsO n P).map List.reverse) z + eQ Q z.1 k) (chT (C.map List.reverse) (0, true, 32, 2)) GR (chT ((dsO n P).map List.reverse) (0, true, 32, 2)))) = true := h
    rw [Bool.and_eq_true, Bool.and_eq_true] at h
    obtain ⟨hc, hd, hg⟩ := h
    obtain ⟨r1, r2, r3, r4⟩ := chG_two hg v1 v2 hv _ m1 _ m2
    have hm : ∀ j, j < k → atR RS j (sxI s1 a1, (b1 : Int)) = true → atR RS j (sxI s2 a2, (b2 : Int)) = true := fun j hj e => by
      rw [t1 j hj] at e
      rw [t2 j hj]
      exact Nat.ble_eq_true_of_le (Nat.le_trans (Nat.le_of_ble_eq_true e) hv)
    have o1 := onN_dN k hm
    have o2 := alN_eN k hm
    rw [dN_Q k t1 tn, dN_Q k t2 tn] at o1
    rw [eN_Q k t1, eN_Q k t2] at o2
    have ho := onN_le (RS := RS) (x1 := sxI s1 a1) (y1 := b1) (x2 := sxI s2 a2) (y2 := b2) k
    refine ⟨C, rfl, ?_⟩
    unfold OKS
    have l1 : cnV (dsO n P) (sxI s1 a1) b1 ≤ n := by
      have := chN_le (fun k => sgP ((dsO n P).getD k []) (sxI s1 a1) b1) (dsO n P).length
      rw [dsO_len] at this
      unfold cnV; rw [dsO_len]; exact this
    have u1 := cnV_T (v := v1) hc (s := s1) ha1 hb1
    have u2 := cnV_T (v := v2) hc (s := s2) ha2 hb2
    have w1 := cnV_T (v := v1) hd (s := s1) ha1 hb1
    have w2 := cnV_T (v := v2) hd (s := s2) ha2 hb2
    generalize onN RS (sxI s1 a1) b1 (sxI s2 a2) b2 k = o at *
    generalize alN RS (sxI s1 a1) b1 (sxI s2 a2) b2 k = al at *
    generalize hA1 : cnV C (sxI s1 a1) b1 = A1 at *
    generalize hA2 : cnV C (sxI s2 a2) b2 = A2 at *
    generalize hB1 : cnV (dsO n P) (sxI s1 a1) b1 = B1 at *
    generalize hB2 : cnV (dsO n P) (sxI s2 a2) b2 = B2 at *
    have r1 : chT (C.map List.reverse) (v1, s1, a1, b1) + dQ Q v1 k = _ := r1
    have r2 : chT (C.map List.reverse) (v2, s2, a2, b2) + dQ Q v2 k = _ := r2
    have r3 : chT ((dsO n P).map List.reverse) (v2, s2, a2, b2) + eQ Q v2 k ≤ chT ((dsO n P).map List.reverse) (v1, s1, a1, b1) + eQ Q v1 k := r3
    have r4 : ((chT ((dsO n P).map List.reverse) (v1, s1, a1, b1) + eQ Q v1 k) - (chT ((dsO n P).map List.reverse) (v2, s2, a2, b2) + eQ Q v2 k)) % 2 = 0 := r4
    rw [← u1] at r1
    rw [← u2] at r2
    rw [← w1, ← w2] at r3 r4
    have e1 : (A1 : Int) - A2 = Int.ofNat o := by show (A1 : Int) - A2 = (o : Int); omega
    refine ⟨by rw [e1]; exact iEq_self _, ?_, ?_, ?_⟩
    · have e2 : wr .i64 (Int.sub (Int.ofNat A1) (Int.ofNat A2)) = (A1 : Int) - A2 := wr_id (n := (A1 : Int) - A2) (by omega) (by omega)
      rw [e2]; exact iEq_self _
    · rw [iLt_eq]; exact decide_eq_false (by show ¬ ((B1 : Int) - B2 < (al : Int)); omega)
    · have e2 : wr .i64 (Int.sub ((B1 : Int) - B2) (Int.ofNat al)) = (B1 : Int) - B2 - al := wr_id (n := (B1 : Int) - B2 - al) (by omega) (by omega)
      obtain ⟨q, hq⟩ : ∃ q : Nat, (B1 : Int) - B2 - al = Int.ofNat (2 * q) := ⟨(B1 + eQ Q v1 k - (B2 + eQ Q v2 k)) / 2, by show _ = ((2 * ((B1 + eQ Q v1 k - (B2 + eQ Q v2 k)) / 2) : Nat) : Int); omega⟩
      rw [e2, hq, show Int.tmod (Int.ofNat (2 * q)) 2 = Int.ofNat (2 * q % 2) from rfl, show 2 * q % 2 = 0 by omega]
      exact iEq_self _
end Go.Proofs.Ytpncjgiojoehkaa
namespace Go.Proofs.Ytpncjgiojoehkaa
open Go.Ab
set_option maxRecDepth 100000
theorem and_b (m : Int) : andI .i64 m 1 = 0 ∨ andI .i64 m 1 = 1 := by
  have e : (BitVec.ofInt 64 m &&& BitVec.ofInt 64 1).toNat = (BitVec.ofInt 64 m).toNat % 2 := by
    rw [BitVec.toNat_and]; exact Nat.and_one_is_mod _
  show IntKind.i64.wrap ((BitVec.ofInt 64 m &&& BitVec.ofInt 64 1).toNat : Int) = 0 ∨ IntKind.i64.wrap ((BitVec.ofInt 64 m &&& BitVec.ofInt 64 1).toNat : Int) = 1
  rw [e]
  rcases Nat.mod_two_eq_zero_or_one (BitVec.ofInt 64 m).toNat with h | h <;> rw [h]
  · left; decide
  · right; decide
/-- a root by its number -/
def rt (p : Nat) : Int × Int := (Int.sub (Int.ofNat (p / 2)) 3, Int.ofNat (p % 2 + 1))
/-- a root's place among the quarters -/
def qr (p : Nat) : Nat := bif Nat.beq (p % 2) 0 then 4 * (p / 2) + 52 else 2 * (p / 2) + 58
theorem rt_ex (r s : Int) : ∃ p, p < 14 ∧ (xq r, yq s) = rt p := by
  have hx : -3 ≤ xq r ∧ xq r ≤ 3 := by
    have h1 := Int.tmod_lt_of_pos (wr .i64 r) (show (0 : Int) < 4 by decide)
    have h2 := Int.lt_tmod_of_pos (wr .i64 r) (show (0 : Int) < 4 by decide)
    show -3 ≤ Int.tmod (wr .i64 r) 4 ∧ Int.tmod (wr .i64 r) 4 ≤ 3
    omega
  obtain ⟨i, hi, ei⟩ : ∃ i : Nat, i < 7 ∧ xq r = (i : Int) - 3 := ⟨(xq r + 3).toNat, by omega, by omega⟩
  have hy : ∃ b : Nat, b < 2 ∧ yq s = ((b + 1 : Nat) : Int) := by
    rcases and_b (wr .i64 s) with h | h
    · exact ⟨0, by decide, by show wr .i64 (Int.add 1 (andI .i64 (wr .i64 s) 1)) = _; rw [h]; rfl⟩
    · exact ⟨1, by decide, by show wr .i64 (Int.add 1 (andI .i64 (wr .i64 s) 1)) = _; rw [h]; rfl⟩
  obtain ⟨b, hb, eb⟩ := hy
  refine ⟨2 * i + b, by omega, ?_⟩
  rw [ei, eb]
  unfold rt
  rw [show (2 * i + b) / 2 = i by omega, show (2 * i + b) % 2 = b by omega]
  rfl
/-- a point by its number -/
theorem pt_ex (r s : Int) : ∃ (v : Nat) (g : Bool) (a b : Nat), (v, g, a, b) ∈ GR.getD v [] ∧ a ≤ 32 ∧ b ≤ 4 ∧ xt r = sxI g a ∧ yt s = (b : Int) ∧ (b = 2 ∧ (v : Int) = 2 * xt r + 64 ∨ b = 4 ∧ (v : Int) = xt r + 64) := by
  have hx : -32 ≤ xt r ∧ xt r ≤ 32 := by
    have h1 := Int.tmod_lt_of_pos (wr .i64 r) (show (0 : Int) < 33 by decide)
    have h2 := Int.lt_tmod_of_pos (wr .i64 r) (show (0 : Int) < 33 by decide)
    show -32 ≤ Int.tmod (wr .i64 r) 33 ∧ Int.tmod (wr .i64 r) 33 ≤ 32
    omega
  have k1 : ∀ a, a ≤ 32 → (64 + 2 * a, false, a, 2) ∈ GR.getD (64 + 2 * a) [] := by decide
  have k2 : ∀ a, a ≤ 32 → (64 + a, false, a, 4) ∈ GR.getD (64 + a) [] := by decide
  have k3 : ∀ a, a ≤ 31 → (64 - 2 * (a + 1), true, a + 1, 2) ∈ GR.getD (64 - 2 * (a + 1)) [] := by decide
  have k4 : ∀ a, a ≤ 31 → (64 - (a + 1), true, a + 1, 4) ∈ GR.getD (64 - (a + 1)) [] := by decide
  by_cases h0 : 0 ≤ xt r
  · obtain ⟨a, ha, ea⟩ : ∃ a : Nat, a ≤ 32 ∧ xt r = (a : Int) := ⟨(xt r).toNat, by omega, by omega⟩
    have es : xt r = sxI false a := ea
    rcases and_b (wr .i64 s) with h | h
    · exact ⟨64 + 2 * a, false, a, 2, k1 a ha, ha, by decide, es, by show wr .i64 (Int.add 2 (wr .i64 (Int.mul 2 (andI .i64 (wr .i64 s) 1)))) = _; rw [h]; rfl, .inl ⟨rfl, by omega⟩⟩
    · exact ⟨64 + a, false, a, 4, k2 a ha, ha, by decide, es, by show wr .i64 (Int.add 2 (wr .i64 (Int.mul 2 (andI .i64 (wr .i64 s) 1)))) = _; rw [h]; rfl, .inr ⟨rfl, by omega⟩⟩
  · obtain ⟨a, ha, ea⟩ : ∃ a : Nat, a ≤ 31 ∧ xt r = -((a + 1 : Nat) : Int) := ⟨(-xt r - 1).toNat, by omega, by omega⟩
    have es : xt r = sxI true (a + 1) := ea
    rcases and_b (wr .i64 s) with h | h
    · exact ⟨64 - 2 * (a + 1), true, a + 1, 2, k3 a ha, by omega, by decide, es, by show wr .i64 (Int.add 2 (wr .i64 (Int.mul 2 (andI .i64 (wr .i64 s) 1)))) = _; rw [h]; rfl, .inl ⟨rfl, by omega⟩⟩
    · exact ⟨64 - (a + 1), true, a + 1, 4, k4 a ha, by omega, by decide, es, by show wr .i64 (Int.add 2 (wr .i64 (Int.mul 2 (andI .i64 (wr .i64 s) 1)))) = _; rw [h]; rfl, .inr ⟨rfl, by omega⟩⟩
/-- roots against points, roots against roots -/
def atK : Bool := (List.range 14).all fun p => GR.all fun G => G.all fun z => (!iLt (wr .i64 (Int.mul (sxI z.2.1 z.2.2.1) (rt p).2)) (wr .i64 (Int.mul (rt p).1 (Int.ofNat z.2.2.2)))) == Nat.ble (qr p) z.1
def nwK : Bool := (List.range 14).all fun p => (List.range 14).all fun q => iLt (wr .i64 (Int.mul (rt p).1 (rt q).2)) (wr .i64 (Int.mul (rt q).1 (rt p).2)) == Nat.blt (qr p) (qr q)
theorem atK_t : atK = true := by kernel_rfl
theorem nwK_t : nwK = true := by kernel_rfl
def fr (p : Nat) : List Int := [wr .i64 (Int.sub 0 (rt p).1), (rt p).2]
def insP (p : Nat) : List Nat → List Nat
  | [] => [p]
  | q :: t => bif Nat.blt (qr q) (qr p) then q :: insP p t else p :: q :: t
def P3 (p q r : Nat) : List Int := mulL (mulL (mulL [1] (fr p)) (fr q)) (fr r)
def Q3 (p q r : Nat) : List Nat := (insP r (insP q (insP p []))).map qr
/-- a polynomial is fit, and keeps the law, or a coefficient is too great -/
noncomputable def ckL (L : List Int) (n k : Nat) (Q : List Nat) : Bool := !okB L n || (!iEq (L.getD (n - 1) 0) 0 && chP L n k Q)
noncomputable def ck2s (L : List Int) (n k : Nat) (Q : List Nat) : Bool := ckL (ngL false L) n k Q && ckL (ngL true L) n k Q
noncomputable def ck3 (p : Nat) : Bool := (List.range 14).all fun q => (List.range 14).all fun r => !(Nat.ble p q && Nat.ble q r) || ck2s (P3 p q r) 4 3 (Q3 p q r)
noncomputable def ck2 (p : Nat) : Bool := (List.range 14).all fun q => ck2s (mulL (mulL [1] (fr p)) (fr q)) 3 2 ((insP q (insP p [])).map qr)
noncomputable def ck1 (base : List Int) (n : Nat) : Bool := (List.range 14).all fun p => ck2s (mulL base (fr p)) n 1 ((insP p []).map qr)
def so (p q : Nat) : Nat × Nat := bif Nat.ble p q then (p, q) else (q, p)
def pm3 (p : Nat) : Bool := (List.range 14).all fun q => (List.range 14).all fun r =>
  decide (P3 p q r = P3 (so (so p q).1 r).1 (so (so p q).2 (so (so p q).1 r).2).1 (so (so p q).2 (so (so p q).1 r).2).2) && decide (Q3 p q r = Q3 (so (so p q).1 r).1 (so (so p q).2 (so (so p q).1 r).2).1 (so (so p q).2 (so (so p q).1 r).2).2)
end Go.Proofs.Ytpncjgiojoehkaa
namespace Go.Proofs.Ytpncjgiojoehkaa
open Go.Ab
set_option maxRecDepth 100000
set_option linter.unusedVariables false
theorem beq_t {a b : Bool} (h : (a == b) = true) : a = b := eq_of_beq h
theorem nw_eq {p q : Nat} (hp : p < 14) (hq : q < 14) : lsB (rt p) (rt q) = Nat.blt (qr p) (qr q) := by
  have h := nwK_t
  unfold nwK at h
  exact beq_t (List.all_eq_true.1 (List.all_eq_true.1 h p (List.mem_range.2 hp)) q (List.mem_range.2 hq))
theorem at_eq {p v a b : Nat} {g : Bool} (hp : p < 14) (hm : (v, g, a, b) ∈ GR.getD v []) : (!iLt (wr .i64 (Int.mul (sxI g a) (rt p).2)) (wr .i64 (Int.mul (rt p).1 (b : Int)))) = Nat.ble (qr p) v := by
  have h := atK_t
  unfold atK at h
  have hG : GR.getD v [] ∈ GR := by
    rw [List.getD_eq_getElem?_getD] at hm ⊢
    cases hq : GR[v]? with
    | none => rw [hq] at hm; simp at hm
    | some G => exact List.mem_of_getElem? hq
  exact beq_t (List.all_eq_true.1 (List.all_eq_true.1 (List.all_eq_true.1 h p (List.mem_range.2 hp)) _ hG) _ hm)
theorem insP_lt {p : Nat} (hp : p < 14) : ∀ {l : List Nat}, (∀ q ∈ l, q < 14) → ∀ q ∈ insP p l, q < 14
  | [], _, q, hq => by rcases List.mem_singleton.1 hq with rfl; exact hp
  | x :: t, h, q, hq => by
    unfold insP at hq
    cases hb : Nat.blt (qr x) (qr p) with
    | true =>
      rw [hb, cond_true] at hq
      rcases List.mem_cons.1 hq with rfl | hq
      · exact h _ (List.mem_cons_self ..)
      · exact insP_lt hp (fun q hq => h q (List.mem_cons_of_mem _ hq)) q hq
    | false =>
      rw [hb, cond_false] at hq
      rcases List.mem_cons.1 hq with rfl | hq
      · exact hp
      · exact h _ hq
theorem insP_len (p : Nat) : ∀ l : List Nat, (insP p l).length = l.length + 1
  | [] => rfl
  | x :: t => by
    unfold insP
    cases Nat.blt (qr x) (qr p) with
    | true => show (insP p t).length + 1 = t.length + 1 + 1; rw [insP_len p t]
    | false => rfl
theorem insR_map {p : Nat} (hp : p < 14) : ∀ {l : List Nat}, (∀ q ∈ l, q < 14) → insR (rt p) (l.map rt) = (insP p l).map rt
  | [], _ => rfl
  | x :: t, h => by
    have e := nw_eq (h x (List.mem_cons_self ..)) hp
    unfold insP
    show (bif lsB (rt x) (rt p) then rt x :: insR (rt p) (t.map rt) else rt p :: rt x :: t.map rt) = _
    rw [e]
    cases Nat.blt (qr x) (qr p) with
    | true => show rt x :: insR (rt p) (t.map rt) = rt x :: (insP p t).map rt; rw [insR_map hp fun q hq => h q (List.mem_cons_of_mem _ hq)]
    | false => rfl
theorem getD_rt {S : List Nat} {j : Nat} (h : j < S.length) : (S.map rt).getD j (0, 0) = rt (S.getD j 0) := by
  rw [List.getD_eq_getElem?_getD, List.getElem?_map, List.getD_eq_getElem?_getD, List.getElem?_eq_getElem h]; rfl
theorem getD_qr {S : List Nat} {j : Nat} (h : j < S.length) : (S.map qr).getD j 0 = qr (S.getD j 0) := by
  rw [List.getD_eq_getElem?_getD, List.getElem?_map, List.getD_eq_getElem?_getD, List.getElem?_eq_getElem h]; rfl
theorem getD_lt {S : List Nat} {j : Nat} (h : j < S.length) (hS : ∀ p ∈ S, p < 14) : S.getD j 0 < 14 := by
  rw [List.getD_eq_getElem?_getD, List.getElem?_eq_getElem h]; exact hS _ (List.getElem_mem h)
theorem okB_le {L : List Int} : ∀ {n : Nat}, okB L n = true → ∀ j, j < n → -50 ≤ L.getD j 0 ∧ L.getD j 0 ≤ 50
  | 0, _, j, hj => absurd hj (Nat.not_lt_zero j)
  | n + 1, h, j, hj => by
    rw [okB_s, Bool.and_eq_true, Bool.and_eq_true] at h
    by_cases e : j = n
    · subst e
      have h1 := h.2.1
      have h2 := h.2.2
      rw [iLt_eq, Bool.not_eq_true', decide_eq_false_iff_not] at h1 h2
      omega
    · exact okB_le h.1 j (by omega)
theorem ck_pts {L : List Int} {n k : Nat} {S : List Nat} (hS : ∀ p ∈ S, p < 14) (hk : S.length = k) (h3 : k ≤ 3) (hn : 2 ≤ n) (h4 : n ≤ 4) (hl : L.length = n) (h : ckL L n k (S.map qr) = true) {v1 a1 b1 v2 a2 b2 : Nat} {g1 g2 : Bool} (m1 : (v1, g1, a1, b1) ∈ GR.getD v1 []) (m2 : (v2, g2, a2, b2) ∈ GR.getD v2 []) (hv : v1 ≤ v2) (ha1 : a1 ≤ 32) (hb1 : b1 ≤ 4) (ha2 : a2 ≤ 32) (hb2 : b2 ≤ 4) (ho : okB L n = true) :
    Val L n ∧ ∃ C, chO L = some C ∧ OKS C (dsO n L) (sxI g1 a1) b1 (sxI g2 a2) b2 (onN (S.map rt) (sxI g1 a1) b1 (sxI g2 a2) b2 k) (alN (S.map rt) (sxI g1 a1) b1 (sxI g2 a2) b2 k) := by
  unfold ckL at h
  rw [ho, Bool.not_true, Bool.false_or, Bool.and_eq_true] at h
  have hne : L.getD (n - 1) 0 ≠ 0 := fun e => by rw [e, iEq_self] at h; exact absurd h.1 (by decide)
  refine ⟨⟨hl, hn, h4, okB_le ho, hne⟩, chP_ok h.2 h3 h4 m1 m2 hv ha1 hb1 ha2 hb2 (fun j hj => ?_) (fun j hj => ?_) (fun j hj => ?_)⟩
  · rw [getD_qr (by omega), ← at_eq (getD_lt (by omega) hS) m1]
    unfold atR; rw [getD_rt (by omega)]
  · rw [getD_qr (by omega), ← at_eq (getD_lt (by omega) hS) m2]
    unfold atR; rw [getD_rt (by omega)]
  · cases j with
    | zero => rfl
    | succ q =>
      have e := nw_eq (getD_lt (S := S) (j := q) (by omega) hS) (getD_lt (S := S) (j := q + 1) (by omega) hS)
      show lsB ((S.map rt).getD q (0, 0)) ((S.map rt).getD (q + 1) (0, 0)) = Nat.blt ((S.map qr).getD q 0) ((S.map qr).getD (q + 1) 0)
      rw [getD_qr (S := S) (j := q) (by omega), getD_qr (S := S) (j := q + 1) (by omega), ← e, getD_rt (S := S) (j := q) (by omega), getD_rt (S := S) (j := q + 1) (by omega)]
theorem pt_le {x1 x2 : Int} {v1 b1 v2 b2 : Nat} (h1 : b1 = 2 ∧ (v1 : Int) = 2 * x1 + 64 ∨ b1 = 4 ∧ (v1 : Int) = x1 + 64) (h2 : b2 = 2 ∧ (v2 : Int) = 2 * x2 + 64 ∨ b2 = 4 ∧ (v2 : Int) = x2 + 64) : v1 ≤ v2 ↔ x1 * (b2 : Int) ≤ x2 * (b1 : Int) := by
  rcases h1 with ⟨rfl, h1⟩ | ⟨rfl, h1⟩ <;> rcases h2 with ⟨rfl, h2⟩ | ⟨rfl, h2⟩
  · show v1 ≤ v2 ↔ x1 * 2 ≤ x2 * 2; omega
  · show v1 ≤ v2 ↔ x1 * 4 ≤ x2 * 2; omega
  · show v1 ≤ v2 ↔ x1 * 2 ≤ x2 * 4; omega
  · show v1 ≤ v2 ↔ x1 * 4 ≤ x2 * 4; omega
theorem sxI_bd {g : Bool} {a : Nat} (h : a ≤ 32) : -32 ≤ sxI g a ∧ sxI g a ≤ 32 := by
  unfold sxI; cases g <;> simp only [cond_true, cond_false] <;> omega
theorem law_ck (F d : Nat) (hF : 500 < F) (q0 q1 q2 q3 q4 q5 cnt fa : Int) (odd : Bool) (a0 a1 b0 b1 : Int) {L : List Int} {n k : Nat} {S : List Nat} (hS : ∀ p ∈ S, p < 14) (hk : S.length = k) (h3 : k ≤ 3) (hn : 2 ≤ n) (h4 : n ≤ 4) (hl : L.length = n) (h : ckL L n k (S.map qr) = true)
    (k31 : ∀ R, callS (CL F (d + 11)) (.fn 31 [] []) [.agg [.int .i8 q0, .int .i8 q1, .int .i8 q2, .int .i8 q3, .int .i8 q4, .int .i8 q5, .int .u8 cnt, .bool odd, .int .i8 fa]] [] (addL R (30000 + 100)) 0 fun w m' R' _ => (∃ w0 mf, QM 710 760 n k L (S.map rt) w0 mf ∧ den w = den w0 ∧ WkM m' mf) ∧ R ≤ R') :
    ReadC (CL F (d + 12)) 6 [.agg [.int .i8 q0, .int .i8 q1, .int .i8 q2, .int .i8 q3, .int .i8 q4, .int .i8 q5, .int .u8 cnt, .bool odd, .int .i8 fa], .agg [.int .i8 a0, .int .i8 a1], .agg [.int .i8 b0, .int .i8 b1]] [] (1300000 + 100) (.bool true) := by
  obtain ⟨v1, g1, c1, e1, m1, hc1, he1, hx1, hy1, hv1⟩ := pt_ex a0 a1
  obtain ⟨v2, g2, c2, e2, m2, hc2, he2, hx2, hy2, hv2⟩ := pt_ex b0 b1
  have k32 := c32 F (d + 9) a0 a1 b0 b1
  have B1 := sxI_bd (g := g1) hc1
  have B2 := sxI_bd (g := g2) hc2
  have y1 : 1 ≤ (e1 : Int) ∧ (e1 : Int) ≤ 1000 := by rcases hv1 with ⟨rfl, _⟩ | ⟨rfl, _⟩ <;> decide
  have y2 : 1 ≤ (e2 : Int) ∧ (e2 : Int) ≤ 1000 := by rcases hv2 with ⟨rfl, _⟩ | ⟨rfl, _⟩ <;> decide
  rw [hx1] at hv1
  rw [hx2] at hv2
  rw [hx1, hx2, hy1, hy2] at k32
  have p12 := pt_le hv1 hv2
  have p21 := pt_le hv2 hv1
  have bm1 : Bd (sxI g2 c2) 32 := Bd.of (by omega) (by omega)
  have bm2 : Bd (sxI g1 c1) 32 := Bd.of (by omega) (by omega)
  have w1 : wr .i64 (Int.mul (sxI g2 c2) (e1 : Int)) = sxI g2 c2 * (e1 : Int) := wr_mul rfl rfl bm1 (Bd.of (B := 1000) (by omega) (by omega)) (by decide)
  have w2 : wr .i64 (Int.mul (sxI g1 c1) (e2 : Int)) = sxI g1 c1 * (e2 : Int) := wr_mul rfl rfl bm2 (Bd.of (B := 1000) (by omega) (by omega)) (by decide)
  rw [w1, w2, iLt_eq] at k32
  by_cases ht : sxI g2 c2 * (e1 : Int) < sxI g1 c1 * (e2 : Int)
  · rw [decide_eq_true ht, cond_true] at k32
    refine l6 F d hF q0 q1 q2 q3 q4 q5 cnt fa odd a0 a1 b0 b1 n k h3 L (S.map rt) _ _ _ _ k31 k32 fun ho => ?_
    obtain ⟨hV, hC⟩ := ck_pts hS hk h3 hn h4 hl h m2 m1 (p21.2 (by omega)) hc2 he2 hc1 he1 ho
    exact ⟨hV, ⟨by omega, y2⟩, ⟨by omega, y1⟩, by omega, hC⟩
  · rw [decide_eq_false ht, cond_false] at k32
    refine l6 F d hF q0 q1 q2 q3 q4 q5 cnt fa odd a0 a1 b0 b1 n k h3 L (S.map rt) _ _ _ _ k31 k32 fun ho => ?_
    obtain ⟨hV, hC⟩ := ck_pts hS hk h3 hn h4 hl h m1 m2 (p12.2 (by omega)) hc1 he1 hc2 he2 ho
    exact ⟨hV, ⟨by omega, y1⟩, ⟨by omega, y2⟩, by omega, hC⟩
end Go.Proofs.Ytpncjgiojoehkaa
