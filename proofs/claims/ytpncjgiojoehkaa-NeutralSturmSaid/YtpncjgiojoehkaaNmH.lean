/- Neutral: texts Uk Ul. -/
import Derived.Test.YtpncjgiojoehkaaNmF
import Derived.KernelRfl
namespace Go.Proofs.Ytpncjgiojoehkaa
open Go.Ab
attribute [local irreducible] aggOk drwOK
set_option maxRecDepth 100000
set_option maxHeartbeats 4000000
set_option linter.unusedVariables false
set_option linter.unusedSimpArgs false
theorem c31_e3_f_t (F d i j : Nat) (hF : 200 < F) (r00 r01 r10 r11 r20 r21 fa : Int) (cnt : Nat) (hcnt : cnt < 256) (hk1 : 1 + cnt % 3 = 3) (h01 : lsB (xq r00, yq r01) (xq r10, yq r11) = false) (h02 : lsB (xq r00, yq r01) (xq r20, yq r21) = true) (R : Nat) : callS (CL F (d + 2)) (.fn 31 [] []) [.agg [.int .i8 r00, .int .i8 r01, .int .i8 r10, .int .i8 r11, .int .i8 r20, .int .i8 r21, .int .u8 (Int.ofNat cnt), .bool false, .int .i8 fa]] [] (addL R (30000 + 100)) 0 fun w m' R' _ => (∃ w0 mf, QM i j 4 3 (ngL (iLt fa 0) (mulL (mulL (mulL [1] (fq r00 r01)) (fq r10 r11)) (fq r20 r21))) (insR (xq r20, yq r21) (insR (xq r10, yq r11) (insR (xq r00, yq r01) ([] : List (Int × Int))))) w0 mf ∧ den w = den w0 ∧ WkM m' mf) ∧ R ≤ R' := by
  have hc : wr .i64 (Int.add 1 (Int.tmod (wr .i64 (Int.ofNat cnt)) 3)) = Int.ofNat 3 := by
    rw [smn (i := cnt) (by omega), show Int.tmod (Int.ofNat cnt) 3 = Int.ofNat (cnt % 3) from rfl]
    exact (smn (i := 1 + cnt % 3) (by omega)).trans (congrArg Int.ofNat hk1)
  have c0 : iLt 0 (wr .i64 (Int.add 1 (Int.tmod (wr .i64 (Int.ofNat cnt)) 3))) = true := by rw [hc]; rfl
  have c1 : iLt 1 (wr .i64 (Int.add 1 (Int.tmod (wr .i64 (Int.ofNat cnt)) 3))) = true := by rw [hc]; rfl
  have c2 : iLt 2 (wr .i64 (Int.add 1 (Int.tmod (wr .i64 (Int.ofNat cnt)) 3))) = true := by rw [hc]; rfl
  have c3 : iLt 3 (wr .i64 (Int.add 1 (Int.tmod (wr .i64 (Int.ofNat cnt)) 3))) = false := by rw [hc]; rfl
  have k59_0 := fun a c a2 c2 R => c59 F d 710 a 1 c [1] rfl a2 2 c2 (fq r00 r01) rfl (by omega) (by omega) (by omega) (by omega) (by omega) R
  obtain ⟨P1, hP1⟩ : ∃ z, mulL [1] (fq r00 r01) = z := ⟨_, rfl⟩
  rw [hP1] at k59_0 ⊢
  have hl1 : P1.length = 2 := by rw [← hP1, mulL_len]; rfl
  have k59_1 := fun a c a2 c2 R => c59 F d 711 a 2 c P1 hl1 a2 2 c2 (fq r10 r11) rfl (by omega) (by omega) (by omega) (by omega) (by omega) R
  obtain ⟨P2, hP2⟩ : ∃ z, mulL P1 (fq r10 r11) = z := ⟨_, rfl⟩
  rw [hP2] at k59_1 ⊢
  have hl2 : P2.length = 3 := by rw [← hP2, mulL_len, hl1]; rfl
  have k59_2 := fun a c a2 c2 R => c59 F d 712 a 3 c P2 hl2 a2 2 c2 (fq r20 r21) rfl (by omega) (by omega) (by omega) (by omega) (by omega) R
  obtain ⟨P3, hP3⟩ : ∃ z, mulL P2 (fq r20 r21) = z := ⟨_, rfl⟩
  rw [hP3] at k59_2 ⊢
  have hl3 : P3.length = 4 := by rw [← hP3, mulL_len, hl2]; rfl
  obtain ⟨L, hL⟩ : ∃ z, ngL (iLt fa 0) P3 = z := ⟨_, rfl⟩
  obtain ⟨RS, hRS⟩ : ∃ z, (insR (xq r20, yq r21) (insR (xq r10, yq r11) (insR (xq r00, yq r01) ([] : List (Int × Int))))) = z := ⟨_, rfl⟩
  rw [hL, hRS]
  rw [show 30000 + 100 = (30000) + 100 from rfl, addL_eq, ← Nat.add_assoc, ← addL_eq _ 100, Nat.add_comm R (30000)]
  rcases Bool.eq_false_or_eq_true (lsB (xq r10, yq r11) (xq r20, yq r21)) with h12 | h12
  all_goals
    refine call_in (n := 129) Try.func31 rfl rfl rfl rfl rfl rfl rfl ?_
    repeat' ((conv => whnf); first | refine eqS_rfl ?_ | refine eqA_rfl ?_ | refine eqA_of (by assumption) ?_ | refine eqS_of (by rfl) ?_ | refine eqL_rfl ?_ | refine eqJ_rfl ?_ | refine gE ?_ | refine seS_rfl ?_ | refine lsS_of hup ?_ | refine lsS_rfl ?_ | refine brS_tt ?_ | refine brS_ff ?_ | refine brS_not ?_ | refine gI ?_ | refine gT ?_ | refine gF ?_ | refine brS_intro (fun _ => ?_) (fun _ => ?_) | refine gL ?_ | refine gX ?_ | refine gO ?_ | refine gN ?_ | refine gM ?_ | refine gY ?_ | refine call_pure (c35 F _ _ _) ?_ | refine call67 710 (k59_0 _ _ _ _) (addL (24000 + R) 400) (by rfl) S59a (nM1) ?_ | refine call67 711 (k59_1 _ _ _ _) (addL (18000 + R) 400) (by rfl) S59b (nM1) ?_ | refine call67 712 (k59_2 _ _ _ _) (addL (12000 + R) 400) (by rfl) S59c (nM1) ?_ | refine seS_sb (by assumption) (by assumption) ?_ | refine flE_intro (fun j hj => by match j, hj with | 0, _ => rfl | 1, _ => rfl | 2, _ => rfl | j + 3, hj => exact absurd (Nat.lt_of_lt_of_le hj (show _ ≤ 3 by decide)) (Nat.not_lt_of_le (Nat.le_add_left 3 j))) ?_ | refine emS_0 ?_ | refine emS_p oM1 ?_ | refine orS_l oM1 ?_ | refine orS_r oM1 ?_ | refine ltS_intro oM1 ?_ | intro _)
    rename_i bo b1
    conv => whnf
    refine loS_u 4 (by omega) ?_
    repeat' ((conv => whnf); first | refine eqS_rfl ?_ | refine eqA_rfl ?_ | refine eqA_of (by assumption) ?_ | refine eqS_of (by rfl) ?_ | refine eqL_rfl ?_ | refine eqJ_rfl ?_ | refine gE ?_ | refine seS_rfl ?_ | refine lsS_of hup ?_ | refine lsS_rfl ?_ | refine brS_tt ?_ | refine brS_ff ?_ | refine brS_not ?_ | refine gI ?_ | refine gT ?_ | refine gF ?_ | refine brS_intro (fun _ => ?_) (fun _ => ?_) | refine gL ?_ | refine gX ?_ | refine gO ?_ | refine gN ?_ | refine gM ?_ | refine gY ?_ | refine call_pure (c35 F _ _ _) ?_ | refine call67 710 (k59_0 _ _ _ _) (addL (24000 + R) 400) (by rfl) S59a (nM1) ?_ | refine call67 711 (k59_1 _ _ _ _) (addL (18000 + R) 400) (by rfl) S59b (nM1) ?_ | refine call67 712 (k59_2 _ _ _ _) (addL (12000 + R) 400) (by rfl) S59c (nM1) ?_ | refine seS_sb (by assumption) (by assumption) ?_ | refine flE_intro (fun j hj => by match j, hj with | 0, _ => rfl | 1, _ => rfl | 2, _ => rfl | j + 3, hj => exact absurd (Nat.lt_of_lt_of_le hj (show _ ≤ 3 by decide)) (Nat.not_lt_of_le (Nat.le_add_left 3 j))) ?_ | refine emS_0 ?_ | refine emS_p oM1 ?_ | refine orS_l oM1 ?_ | refine orS_r oM1 ?_ | refine ltS_intro oM1 ?_ | intro _)
    conv => whnf
    refine loS_u 4 (by omega) ?_
    repeat' ((conv => whnf); first | refine eqS_rfl ?_ | refine eqA_rfl ?_ | refine eqA_of (by assumption) ?_ | refine eqS_of (by rfl) ?_ | refine eqL_rfl ?_ | refine eqJ_rfl ?_ | refine gE ?_ | refine seS_rfl ?_ | refine lsS_of hup ?_ | refine lsS_rfl ?_ | refine brS_tt ?_ | refine brS_ff ?_ | refine brS_not ?_ | refine gI ?_ | refine gT ?_ | refine gF ?_ | refine brS_intro (fun _ => ?_) (fun _ => ?_) | refine gL ?_ | refine gX ?_ | refine gO ?_ | refine gN ?_ | refine gM ?_ | refine gY ?_ | refine call_pure (c35 F _ _ _) ?_ | refine call67 710 (k59_0 _ _ _ _) (addL (24000 + R) 400) (by rfl) S59a (nM1) ?_ | refine call67 711 (k59_1 _ _ _ _) (addL (18000 + R) 400) (by rfl) S59b (nM1) ?_ | refine call67 712 (k59_2 _ _ _ _) (addL (12000 + R) 400) (by rfl) S59c (nM1) ?_ | refine seS_sb (by assumption) (by assumption) ?_ | refine flE_intro (fun j hj => by match j, hj with | 0, _ => rfl | 1, _ => rfl | 2, _ => rfl | j + 3, hj => exact absurd (Nat.lt_of_lt_of_le hj (show _ ≤ 3 by decide)) (Nat.not_lt_of_le (Nat.le_add_left 3 j))) ?_ | refine emS_0 ?_ | refine emS_p oM1 ?_ | refine orS_l oM1 ?_ | refine orS_r oM1 ?_ | refine ltS_intro oM1 ?_ | intro _)
    conv => whnf
    refine loS_u 4 (by omega) ?_
    repeat' ((conv => whnf); first | refine eqS_rfl ?_ | refine eqA_rfl ?_ | refine eqA_of (by assumption) ?_ | refine eqS_of (by rfl) ?_ | refine eqL_rfl ?_ | refine eqJ_rfl ?_ | refine gE ?_ | refine seS_rfl ?_ | refine lsS_of hup ?_ | refine lsS_rfl ?_ | refine brS_tt ?_ | refine brS_ff ?_ | refine brS_not ?_ | refine gI ?_ | refine gT ?_ | refine gF ?_ | refine brS_intro (fun _ => ?_) (fun _ => ?_) | refine gL ?_ | refine gX ?_ | refine gO ?_ | refine gN ?_ | refine gM ?_ | refine gY ?_ | refine call_pure (c35 F _ _ _) ?_ | refine call67 710 (k59_0 _ _ _ _) (addL (24000 + R) 400) (by rfl) S59a (nM1) ?_ | refine call67 711 (k59_1 _ _ _ _) (addL (18000 + R) 400) (by rfl) S59b (nM1) ?_ | refine call67 712 (k59_2 _ _ _ _) (addL (12000 + R) 400) (by rfl) S59c (nM1) ?_ | refine seS_sb (by assumption) (by assumption) ?_ | refine flE_intro (fun j hj => by match j, hj with | 0, _ => rfl | 1, _ => rfl | 2, _ => rfl | j + 3, hj => exact absurd (Nat.lt_of_lt_of_le hj (show _ ≤ 3 by decide)) (Nat.not_lt_of_le (Nat.le_add_left 3 j))) ?_ | refine emS_0 ?_ | refine emS_p oM1 ?_ | refine orS_l oM1 ?_ | refine orS_r oM1 ?_ | refine ltS_intro oM1 ?_ | intro _)
    conv => whnf
    refine loS_u 4 (by omega) ?_
    repeat' ((conv => whnf); first | refine eqS_rfl ?_ | refine eqA_rfl ?_ | refine eqA_of (by assumption) ?_ | refine eqS_of (by rfl) ?_ | refine eqL_rfl ?_ | refine eqJ_rfl ?_ | refine gE ?_ | refine seS_rfl ?_ | refine lsS_of hup ?_ | refine lsS_rfl ?_ | refine brS_tt ?_ | refine brS_ff ?_ | refine brS_not ?_ | refine gI ?_ | refine gT ?_ | refine gF ?_ | refine brS_intro (fun _ => ?_) (fun _ => ?_) | refine gL ?_ | refine gX ?_ | refine gO ?_ | refine gN ?_ | refine gM ?_ | refine gY ?_ | refine call_pure (c35 F _ _ _) ?_ | refine call67 710 (k59_0 _ _ _ _) (addL (24000 + R) 400) (by rfl) S59a (nM1) ?_ | refine call67 711 (k59_1 _ _ _ _) (addL (18000 + R) 400) (by rfl) S59b (nM1) ?_ | refine call67 712 (k59_2 _ _ _ _) (addL (12000 + R) 400) (by rfl) S59c (nM1) ?_ | refine seS_sb (by assumption) (by assumption) ?_ | refine flE_intro (fun j hj => by match j, hj with | 0, _ => rfl | 1, _ => rfl | 2, _ => rfl | j + 3, hj => exact absurd (Nat.lt_of_lt_of_le hj (show _ ≤ 3 by decide)) (Nat.not_lt_of_le (Nat.le_add_left 3 j))) ?_ | refine emS_0 ?_ | refine emS_p oM1 ?_ | refine orS_l oM1 ?_ | refine orS_r oM1 ?_ | refine ltS_intro oM1 ?_ | intro _)
    simp only [insR, h01, h02, h12, cond_true, cond_false] at hRS
    conv => whnf
    have hN0 : ∀ z, z < 4 → pf P3 z = [SV.int .i64 (njL L P3 0 z)] := fun z _ => by rw [njL_0]
    refine loS_i (fun jj f mm R' ni => ∃ (j : Nat) (aP aR : Option Addr), j ≤ 4 ∧ jj = 4 - j + 1 ∧ f = [(1, .ptr 0 bo 0), (2, .sl 712 aP 4 4), (3, .sl 760 aR 3 3), (4, .bool (okB L j)), (94, .sl 712 aP 4 4), (95, .int .i64 (Int.ofNat 4)), (96, .int .i64 (Int.ofNat j))] ∧ mm = [(760, .gr aR 3 24 2 (rf RS)), (712, .gr aP 4 3 1 (fun z => [.int .i64 (njL L P3 j z)])), (0, .own bo 54 [.int .i8 r00, .int .i8 r01, .int .i8 r10, .int .i8 r11, .int .i8 r20, .int .i8 r21, .int .u8 (Int.ofNat cnt), .bool false, .int .i8 fa])] ∧ R' = addL (60 * (4 - j) + R) 60 ∧ ni = 900) 5 (by omega) ⟨[(1, .ptr 0 bo 0), (2, .sl 712 _ 4 4), (3, .sl 760 _ 3 3), (4, .bool (okB L 0)), (94, .sl 712 _ 4 4), (95, .int .i64 (Int.ofNat 4)), (96, .int .i64 (Int.ofNat 0))], [(760, .gr _ 3 24 2 (rf RS)), (712, .gr _ 4 3 1 (fun z => [.int .i64 (njL L P3 0 z)])), (0, .own bo 54 [.int .i8 r00, .int .i8 r01, .int .i8 r10, .int .i8 r11, .int .i8 r20, .int .i8 r21, .int .u8 (Int.ofNat cnt), .bool false, .int .i8 fa])], addL (60 * (4 - 0) + R) 60, 900, ⟨eqF_rfl _, ⟨rfl, rfl⟩, ⟨rfl, rfl⟩, ⟨rfl, rfl⟩, ⟨rfl, rfl⟩, ⟨rfl, rfl⟩, ⟨rfl, rfl⟩, trivial⟩, (WkM.gr_den (j := 760) (g := rf RS) (by rw [← hRS]; exact fun z hz => by match z, hz with | 0, _ => rfl | 1, _ => rfl | 2, _ => rfl | z + 3, hz => exact absurd (Nat.lt_of_lt_of_le hz (show _ ≤ 3 by decide)) (Nat.not_lt_of_le (Nat.le_add_left 3 z)))).trans WG, nM1, 0, _, _, by omega, by omega, rfl, rfl, rfl, rfl⟩ ?_
    rintro _ _ _ _ _ ⟨j', aP, aR, hj', rfl, rfl, rfl, rfl, rfl⟩
    by_cases hlt : j' < 4
    · have d1 := iLt_t hlt
      have hl' : j' < P3.length := by omega
      rcases Bool.eq_false_or_eq_true (iLt fa 0) with hs | hs <;> rw [hs] at hL
      · have hN := njL_up hl' hL
        have hup : updG j' [.int .i64 (wr .i64 (Int.sub 0 (njL L P3 j' j')))] (fun z => [.int .i64 (njL L P3 j' z)]) j' = [.int .i64 (L.getD j' 0)] := by rw [updG_same, njL_at, njL_t hl', hL]
        have hU : ∀ z, z < 4 → updG j' [.int .i64 (wr .i64 (Int.sub 0 (njL L P3 j' j')))] (fun z => [.int .i64 (njL L P3 j' z)]) z = [.int .i64 (njL L P3 (j' + 1) z)] := fun z _ => hN z
        rcases Bool.eq_false_or_eq_true (okB L j') with ho | ho
        all_goals
          rcases Bool.eq_false_or_eq_true (iLt 50 (L.getD j' 0)) with h5 | h5
          all_goals
            rcases Bool.eq_false_or_eq_true (iLt (L.getD j' 0) (-50)) with h6 | h6
            all_goals
              have e := okB_s (L := L) (j := j')
              rw [ho, h5, h6] at e
              repeat' ((conv => whnf); first | refine eqS_rfl ?_ | refine eqA_rfl ?_ | refine eqA_of (by assumption) ?_ | refine eqS_of (by rfl) ?_ | refine eqL_rfl ?_ | refine eqJ_rfl ?_ | refine gE ?_ | refine seS_rfl ?_ | refine lsS_of hup ?_ | refine lsS_rfl ?_ | refine brS_tt ?_ | refine brS_ff ?_ | refine brS_not ?_ | refine gI ?_ | refine gT ?_ | refine gF ?_ | refine brS_intro (fun _ => ?_) (fun _ => ?_) | refine gL ?_ | refine gX ?_ | refine gO ?_ | refine gN ?_ | refine gM ?_ | refine gY ?_ | rw [hup] | intro _)
              conv => whnf
              exact ⟨4 - (j' + 1) + 1, [(1, .ptr 0 bo 0), (2, .sl 712 aP 4 4), (3, .sl 760 aR 3 3), (4, .bool (okB L (j' + 1))), (94, .sl 712 aP 4 4), (95, .int .i64 (Int.ofNat 4)), (96, .int .i64 (Int.ofNat (j' + 1)))], [(760, .gr aR 3 24 2 (rf RS)), (712, .gr aP 4 3 1 (fun z => [.int .i64 (njL L P3 (j' + 1) z)])), (0, .own bo 54 [.int .i8 r00, .int .i8 r01, .int .i8 r10, .int .i8 r11, .int .i8 r20, .int .i8 r21, .int .u8 (Int.ofNat cnt), .bool false, .int .i8 fa])], addL (60 * (4 - (j' + 1)) + R) 60, 900, by omega, ⟨eqF_rfl _, eqF_rfl _, eqF_rfl _, ⟨by first | exact congrArg (fun b => Value.bool b) e.symm | exact congrArg (fun b => Value.bool b) ((congrArg not h6).trans e.symm), rfl⟩, eqF_rfl _, eqF_rfl _, ⟨congrArg (Value.int .i64) (smn (i := j' + 1) (by omega)), rfl⟩, trivial⟩, WG, nM1, j' + 1, aP, aR, by omega, rfl, rfl, rfl, rfl, rfl⟩
      · have hN := njL_up0 (j := j') hL
        have e9 : L.getD j' 0 = njL L P3 j' j' := by rw [njL_at, ← hL]; rfl
        have hU : ∀ z, z < 4 → [SV.int .i64 (njL L P3 j' z)] = [.int .i64 (njL L P3 (j' + 1) z)] := fun z _ => hN z
        rcases Bool.eq_false_or_eq_true (okB L j') with ho | ho
        all_goals
          rcases Bool.eq_false_or_eq_true (iLt 50 (njL L P3 j' j')) with h5 | h5
          all_goals
            rcases Bool.eq_false_or_eq_true (iLt (njL L P3 j' j') (-50)) with h6 | h6
            all_goals
              have e := okB_s (L := L) (j := j')
              rw [e9, ho, h5, h6] at e
              repeat' ((conv => whnf); first | refine eqS_rfl ?_ | refine eqA_rfl ?_ | refine eqA_of (by assumption) ?_ | refine eqS_of (by rfl) ?_ | refine eqL_rfl ?_ | refine eqJ_rfl ?_ | refine gE ?_ | refine seS_rfl ?_ | refine lsS_of hup ?_ | refine lsS_rfl ?_ | refine brS_tt ?_ | refine brS_ff ?_ | refine brS_not ?_ | refine gI ?_ | refine gT ?_ | refine gF ?_ | refine brS_intro (fun _ => ?_) (fun _ => ?_) | refine gL ?_ | refine gX ?_ | refine gO ?_ | refine gN ?_ | refine gM ?_ | refine gY ?_ | intro _)
              conv => whnf
              exact ⟨4 - (j' + 1) + 1, [(1, .ptr 0 bo 0), (2, .sl 712 aP 4 4), (3, .sl 760 aR 3 3), (4, .bool (okB L (j' + 1))), (94, .sl 712 aP 4 4), (95, .int .i64 (Int.ofNat 4)), (96, .int .i64 (Int.ofNat (j' + 1)))], [(760, .gr aR 3 24 2 (rf RS)), (712, .gr aP 4 3 1 (fun z => [.int .i64 (njL L P3 (j' + 1) z)])), (0, .own bo 54 [.int .i8 r00, .int .i8 r01, .int .i8 r10, .int .i8 r11, .int .i8 r20, .int .i8 r21, .int .u8 (Int.ofNat cnt), .bool false, .int .i8 fa])], addL (60 * (4 - (j' + 1)) + R) 60, 900, by omega, ⟨eqF_rfl _, eqF_rfl _, eqF_rfl _, ⟨by first | exact congrArg (fun b => Value.bool b) e.symm | exact congrArg (fun b => Value.bool b) ((congrArg not h6).trans e.symm), rfl⟩, eqF_rfl _, eqF_rfl _, ⟨congrArg (Value.int .i64) (smn (i := j' + 1) (by omega)), rfl⟩, trivial⟩, WG, nM1, j' + 1, aP, aR, by omega, rfl, rfl, rfl, rfl, rfl⟩
    · have e3 : 4 = j' := by omega
      subst e3
      have d1 := iLt_f (Nat.le_refl 4)
      have hfin : ∀ z, z < 4 → [SV.int .i64 (njL L P3 4 z)] = pf L z := fun z hz => njL_fin hz
      repeat' ((conv => whnf); first | refine eqS_rfl ?_ | refine eqA_rfl ?_ | refine eqA_of (by assumption) ?_ | refine eqS_of (by rfl) ?_ | refine eqL_rfl ?_ | refine eqJ_rfl ?_ | refine gE ?_ | refine seS_rfl ?_ | refine lsS_of hup ?_ | refine lsS_rfl ?_ | refine brS_tt ?_ | refine brS_ff ?_ | refine brS_not ?_ | refine gI ?_ | refine gT ?_ | refine gF ?_ | refine brS_intro (fun _ => ?_) (fun _ => ?_) | refine gL ?_ | refine gX ?_ | refine gO ?_ | refine gN ?_ | refine gM ?_ | refine gY ?_ | intro _)
      conv => whnf
      exact ⟨⟨_, _, ⟨aP, aR, rfl, rfl⟩, rfl, WG⟩, nM1⟩
end Go.Proofs.Ytpncjgiojoehkaa
namespace Go.Proofs.Ytpncjgiojoehkaa
open Go.Ab
attribute [local irreducible] aggOk drwOK
set_option maxRecDepth 100000
set_option maxHeartbeats 4000000
set_option linter.unusedVariables false
set_option linter.unusedSimpArgs false
theorem c31_e3_f_f (F d i j : Nat) (hF : 200 < F) (r00 r01 r10 r11 r20 r21 fa : Int) (cnt : Nat) (hcnt : cnt < 256) (hk1 : 1 + cnt % 3 = 3) (h01 : lsB (xq r00, yq r01) (xq r10, yq r11) = false) (h02 : lsB (xq r00, yq r01) (xq r20, yq r21) = false) (R : Nat) : callS (CL F (d + 2)) (.fn 31 [] []) [.agg [.int .i8 r00, .int .i8 r01, .int .i8 r10, .int .i8 r11, .int .i8 r20, .int .i8 r21, .int .u8 (Int.ofNat cnt), .bool false, .int .i8 fa]] [] (addL R (30000 + 100)) 0 fun w m' R' _ => (∃ w0 mf, QM i j 4 3 (ngL (iLt fa 0) (mulL (mulL (mulL [1] (fq r00 r01)) (fq r10 r11)) (fq r20 r21))) (insR (xq r20, yq r21) (insR (xq r10, yq r11) (insR (xq r00, yq r01) ([] : List (Int × Int))))) w0 mf ∧ den w = den w0 ∧ WkM m' mf) ∧ R ≤ R' := by
  have hc : wr .i64 (Int.add 1 (Int.tmod (wr .i64 (Int.ofNat cnt)) 3)) = Int.ofNat 3 := by
    rw [smn (i := cnt) (by omega), show Int.tmod (Int.ofNat cnt) 3 = Int.ofNat (cnt % 3) from rfl]
    exact (smn (i := 1 + cnt % 3) (by omega)).trans (congrArg Int.ofNat hk1)
  have c0 : iLt 0 (wr .i64 (Int.add 1 (Int.tmod (wr .i64 (Int.ofNat cnt)) 3))) = true := by rw [hc]; rfl
  have c1 : iLt 1 (wr .i64 (Int.add 1 (Int.tmod (wr .i64 (Int.ofNat cnt)) 3))) = true := by rw [hc]; rfl
  have c2 : iLt 2 (wr .i64 (Int.add 1 (Int.tmod (wr .i64 (Int.ofNat cnt)) 3))) = true := by rw [hc]; rfl
  have c3 : iLt 3 (wr .i64 (Int.add 1 (Int.tmod (wr .i64 (Int.ofNat cnt)) 3))) = false := by rw [hc]; rfl
  have k59_0 := fun a c a2 c2 R => c59 F d 710 a 1 c [1] rfl a2 2 c2 (fq r00 r01) rfl (by omega) (by omega) (by omega) (by omega) (by omega) R
  obtain ⟨P1, hP1⟩ : ∃ z, mulL [1] (fq r00 r01) = z := ⟨_, rfl⟩
  rw [hP1] at k59_0 ⊢
  have hl1 : P1.length = 2 := by rw [← hP1, mulL_len]; rfl
  have k59_1 := fun a c a2 c2 R => c59 F d 711 a 2 c P1 hl1 a2 2 c2 (fq r10 r11) rfl (by omega) (by omega) (by omega) (by omega) (by omega) R
  obtain ⟨P2, hP2⟩ : ∃ z, mulL P1 (fq r10 r11) = z := ⟨_, rfl⟩
  rw [hP2] at k59_1 ⊢
  have hl2 : P2.length = 3 := by rw [← hP2, mulL_len, hl1]; rfl
  have k59_2 := fun a c a2 c2 R => c59 F d 712 a 3 c P2 hl2 a2 2 c2 (fq r20 r21) rfl (by omega) (by omega) (by omega) (by omega) (by omega) R
  obtain ⟨P3, hP3⟩ : ∃ z, mulL P2 (fq r20 r21) = z := ⟨_, rfl⟩
  rw [hP3] at k59_2 ⊢
  have hl3 : P3.length = 4 := by rw [← hP3, mulL_len, hl2]; rfl
  obtain ⟨L, hL⟩ : ∃ z, ngL (iLt fa 0) P3 = z := ⟨_, rfl⟩
  obtain ⟨RS, hRS⟩ : ∃ z, (insR (xq r20, yq r21) (insR (xq r10, yq r11) (insR (xq r00, yq r01) ([] : List (Int × Int))))) = z := ⟨_, rfl⟩
  rw [hL, hRS]
  rw [show 30000 + 100 = (30000) + 100 from rfl, addL_eq, ← Nat.add_assoc, ← addL_eq _ 100, Nat.add_comm R (30000)]
  rcases Bool.eq_false_or_eq_true (lsB (xq r10, yq r11) (xq r20, yq r21)) with h12 | h12
  all_goals
    refine call_in (n := 129) Try.func31 rfl rfl rfl rfl rfl rfl rfl ?_
    repeat' ((conv => whnf); first | refine eqS_rfl ?_ | refine eqA_rfl ?_ | refine eqA_of (by assumption) ?_ | refine eqS_of (by rfl) ?_ | refine eqL_rfl ?_ | refine eqJ_rfl ?_ | refine gE ?_ | refine seS_rfl ?_ | refine lsS_of hup ?_ | refine lsS_rfl ?_ | refine brS_tt ?_ | refine brS_ff ?_ | refine brS_not ?_ | refine gI ?_ | refine gT ?_ | refine gF ?_ | refine brS_intro (fun _ => ?_) (fun _ => ?_) | refine gL ?_ | refine gX ?_ | refine gO ?_ | refine gN ?_ | refine gM ?_ | refine gY ?_ | refine call_pure (c35 F _ _ _) ?_ | refine call67 710 (k59_0 _ _ _ _) (addL (24000 + R) 400) (by rfl) S59a (nM1) ?_ | refine call67 711 (k59_1 _ _ _ _) (addL (18000 + R) 400) (by rfl) S59b (nM1) ?_ | refine call67 712 (k59_2 _ _ _ _) (addL (12000 + R) 400) (by rfl) S59c (nM1) ?_ | refine seS_sb (by assumption) (by assumption) ?_ | refine flE_intro (fun j hj => by match j, hj with | 0, _ => rfl | 1, _ => rfl | 2, _ => rfl | j + 3, hj => exact absurd (Nat.lt_of_lt_of_le hj (show _ ≤ 3 by decide)) (Nat.not_lt_of_le (Nat.le_add_left 3 j))) ?_ | refine emS_0 ?_ | refine emS_p oM1 ?_ | refine orS_l oM1 ?_ | refine orS_r oM1 ?_ | refine ltS_intro oM1 ?_ | intro _)
    rename_i bo b1
    conv => whnf
    refine loS_u 4 (by omega) ?_
    repeat' ((conv => whnf); first | refine eqS_rfl ?_ | refine eqA_rfl ?_ | refine eqA_of (by assumption) ?_ | refine eqS_of (by rfl) ?_ | refine eqL_rfl ?_ | refine eqJ_rfl ?_ | refine gE ?_ | refine seS_rfl ?_ | refine lsS_of hup ?_ | refine lsS_rfl ?_ | refine brS_tt ?_ | refine brS_ff ?_ | refine brS_not ?_ | refine gI ?_ | refine gT ?_ | refine gF ?_ | refine brS_intro (fun _ => ?_) (fun _ => ?_) | refine gL ?_ | refine gX ?_ | refine gO ?_ | refine gN ?_ | refine gM ?_ | refine gY ?_ | refine call_pure (c35 F _ _ _) ?_ | refine call67 710 (k59_0 _ _ _ _) (addL (24000 + R) 400) (by rfl) S59a (nM1) ?_ | refine call67 711 (k59_1 _ _ _ _) (addL (18000 + R) 400) (by rfl) S59b (nM1) ?_ | refine call67 712 (k59_2 _ _ _ _) (addL (12000 + R) 400) (by rfl) S59c (nM1) ?_ | refine seS_sb (by assumption) (by assumption) ?_ | refine flE_intro (fun j hj => by match j, hj with | 0, _ => rfl | 1, _ => rfl | 2, _ => rfl | j + 3, hj => exact absurd (Nat.lt_of_lt_of_le hj (show _ ≤ 3 by decide)) (Nat.not_lt_of_le (Nat.le_add_left 3 j))) ?_ | refine emS_0 ?_ | refine emS_p oM1 ?_ | refine orS_l oM1 ?_ | refine orS_r oM1 ?_ | refine ltS_intro oM1 ?_ | intro _)
    conv => whnf
    refine loS_u 4 (by omega) ?_
    repeat' ((conv => whnf); first | refine eqS_rfl ?_ | refine eqA_rfl ?_ | refine eqA_of (by assumption) ?_ | refine eqS_of (by rfl) ?_ | refine eqL_rfl ?_ | refine eqJ_rfl ?_ | refine gE ?_ | refine seS_rfl ?_ | refine lsS_of hup ?_ | refine lsS_rfl ?_ | refine brS_tt ?_ | refine brS_ff ?_ | refine brS_not ?_ | refine gI ?_ | refine gT ?_ | refine gF ?_ | refine brS_intro (fun _ => ?_) (fun _ => ?_) | refine gL ?_ | refine gX ?_ | refine gO ?_ | refine gN ?_ | refine gM ?_ | refine gY ?_ | refine call_pure (c35 F _ _ _) ?_ | refine call67 710 (k59_0 _ _ _ _) (addL (24000 + R) 400) (by rfl) S59a (nM1) ?_ | refine call67 711 (k59_1 _ _ _ _) (addL (18000 + R) 400) (by rfl) S59b (nM1) ?_ | refine call67 712 (k59_2 _ _ _ _) (addL (12000 + R) 400) (by rfl) S59c (nM1) ?_ | refine seS_sb (by assumption) (by assumption) ?_ | refine flE_intro (fun j hj => by match j, hj with | 0, _ => rfl | 1, _ => rfl | 2, _ => rfl | j + 3, hj => exact absurd (Nat.lt_of_lt_of_le hj (show _ ≤ 3 by decide)) (Nat.not_lt_of_le (Nat.le_add_left 3 j))) ?_ | refine emS_0 ?_ | refine emS_p oM1 ?_ | refine orS_l oM1 ?_ | refine orS_r oM1 ?_ | refine ltS_intro oM1 ?_ | intro _)
    conv => whnf
    refine loS_u 4 (by omega) ?_
    repeat' ((conv => whnf); first | refine eqS_rfl ?_ | refine eqA_rfl ?_ | refine eqA_of (by assumption) ?_ | refine eqS_of (by rfl) ?_ | refine eqL_rfl ?_ | refine eqJ_rfl ?_ | refine gE ?_ | refine seS_rfl ?_ | refine lsS_of hup ?_ | refine lsS_rfl ?_ | refine brS_tt ?_ | refine brS_ff ?_ | refine brS_not ?_ | refine gI ?_ | refine gT ?_ | refine gF ?_ | refine brS_intro (fun _ => ?_) (fun _ => ?_) | refine gL ?_ | refine gX ?_ | refine gO ?_ | refine gN ?_ | refine gM ?_ | refine gY ?_ | refine call_pure (c35 F _ _ _) ?_ | refine call67 710 (k59_0 _ _ _ _) (addL (24000 + R) 400) (by rfl) S59a (nM1) ?_ | refine call67 711 (k59_1 _ _ _ _) (addL (18000 + R) 400) (by rfl) S59b (nM1) ?_ | refine call67 712 (k59_2 _ _ _ _) (addL (12000 + R) 400) (by rfl) S59c (nM1) ?_ | refine seS_sb (by assumption) (by assumption) ?_ | refine flE_intro (fun j hj => by match j, hj with | 0, _ => rfl | 1, _ => rfl | 2, _ => rfl | j + 3, hj => exact absurd (Nat.lt_of_lt_of_le hj (show _ ≤ 3 by decide)) (Nat.not_lt_of_le (Nat.le_add_left 3 j))) ?_ | refine emS_0 ?_ | refine emS_p oM1 ?_ | refine orS_l oM1 ?_ | refine orS_r oM1 ?_ | refine ltS_intro oM1 ?_ | intro _)
    conv => whnf
    refine loS_u 4 (by omega) ?_
    repeat' ((conv => whnf); first | refine eqS_rfl ?_ | refine eqA_rfl ?_ | refine eqA_of (by assumption) ?_ | refine eqS_of (by rfl) ?_ | refine eqL_rfl ?_ | refine eqJ_rfl ?_ | refine gE ?_ | refine seS_rfl ?_ | refine lsS_of hup ?_ | refine lsS_rfl ?_ | refine brS_tt ?_ | refine brS_ff ?_ | refine brS_not ?_ | refine gI ?_ | refine gT ?_ | refine gF ?_ | refine brS_intro (fun _ => ?_) (fun _ => ?_) | refine gL ?_ | refine gX ?_ | refine gO ?_ | refine gN ?_ | refine gM ?_ | refine gY ?_ | refine call_pure (c35 F _ _ _) ?_ | refine call67 710 (k59_0 _ _ _ _) (addL (24000 + R) 400) (by rfl) S59a (nM1) ?_ | refine call67 711 (k59_1 _ _ _ _) (addL (18000 + R) 400) (by rfl) S59b (nM1) ?_ | refine call67 712 (k59_2 _ _ _ _) (addL (12000 + R) 400) (by rfl) S59c (nM1) ?_ | refine seS_sb (by assumption) (by assumption) ?_ | refine flE_intro (fun j hj => by match j, hj with | 0, _ => rfl | 1, _ => rfl | 2, _ => rfl | j + 3, hj => exact absurd (Nat.lt_of_lt_of_le hj (show _ ≤ 3 by decide)) (Nat.not_lt_of_le (Nat.le_add_left 3 j))) ?_ | refine emS_0 ?_ | refine emS_p oM1 ?_ | refine orS_l oM1 ?_ | refine orS_r oM1 ?_ | refine ltS_intro oM1 ?_ | intro _)
    simp only [insR, h01, h02, h12, cond_true, cond_false] at hRS
    conv => whnf
    have hN0 : ∀ z, z < 4 → pf P3 z = [SV.int .i64 (njL L P3 0 z)] := fun z _ => by rw [njL_0]
    refine loS_i (fun jj f mm R' ni => ∃ (j : Nat) (aP aR : Option Addr), j ≤ 4 ∧ jj = 4 - j + 1 ∧ f = [(1, .ptr 0 bo 0), (2, .sl 712 aP 4 4), (3, .sl 760 aR 3 3), (4, .bool (okB L j)), (94, .sl 712 aP 4 4), (95, .int .i64 (Int.ofNat 4)), (96, .int .i64 (Int.ofNat j))] ∧ mm = [(760, .gr aR 3 24 2 (rf RS)), (712, .gr aP 4 3 1 (fun z => [.int .i64 (njL L P3 j z)])), (0, .own bo 54 [.int .i8 r00, .int .i8 r01, .int .i8 r10, .int .i8 r11, .int .i8 r20, .int .i8 r21, .int .u8 (Int.ofNat cnt), .bool false, .int .i8 fa])] ∧ R' = addL (60 * (4 - j) + R) 60 ∧ ni = 900) 5 (by omega) ⟨[(1, .ptr 0 bo 0), (2, .sl 712 _ 4 4), (3, .sl 760 _ 3 3), (4, .bool (okB L 0)), (94, .sl 712 _ 4 4), (95, .int .i64 (Int.ofNat 4)), (96, .int .i64 (Int.ofNat 0))], [(760, .gr _ 3 24 2 (rf RS)), (712, .gr _ 4 3 1 (fun z => [.int .i64 (njL L P3 0 z)])), (0, .own bo 54 [.int .i8 r00, .int .i8 r01, .int .i8 r10, .int .i8 r11, .int .i8 r20, .int .i8 r21, .int .u8 (Int.ofNat cnt), .bool false, .int .i8 fa])], addL (60 * (4 - 0) + R) 60, 900, ⟨eqF_rfl _, ⟨rfl, rfl⟩, ⟨rfl, rfl⟩, ⟨rfl, rfl⟩, ⟨rfl, rfl⟩, ⟨rfl, rfl⟩, ⟨rfl, rfl⟩, trivial⟩, (WkM.gr_den (j := 760) (g := rf RS) (by rw [← hRS]; exact fun z hz => by match z, hz with | 0, _ => rfl | 1, _ => rfl | 2, _ => rfl | z + 3, hz => exact absurd (Nat.lt_of_lt_of_le hz (show _ ≤ 3 by decide)) (Nat.not_lt_of_le (Nat.le_add_left 3 z)))).trans WG, nM1, 0, _, _, by omega, by omega, rfl, rfl, rfl, rfl⟩ ?_
    rintro _ _ _ _ _ ⟨j', aP, aR, hj', rfl, rfl, rfl, rfl, rfl⟩
    by_cases hlt : j' < 4
    · have d1 := iLt_t hlt
      have hl' : j' < P3.length := by omega
      rcases Bool.eq_false_or_eq_true (iLt fa 0) with hs | hs <;> rw [hs] at hL
      · have hN := njL_up hl' hL
        have hup : updG j' [.int .i64 (wr .i64 (Int.sub 0 (njL L P3 j' j')))] (fun z => [.int .i64 (njL L P3 j' z)]) j' = [.int .i64 (L.getD j' 0)] := by rw [updG_same, njL_at, njL_t hl', hL]
        have hU : ∀ z, z < 4 → updG j' [.int .i64 (wr .i64 (Int.sub 0 (njL L P3 j' j')))] (fun z => [.int .i64 (njL L P3 j' z)]) z = [.int .i64 (njL L P3 (j' + 1) z)] := fun z _ => hN z
        rcases Bool.eq_false_or_eq_true (okB L j') with ho | ho
        all_goals
          rcases Bool.eq_false_or_eq_true (iLt 50 (L.getD j' 0)) with h5 | h5
          all_goals
            rcases Bool.eq_false_or_eq_true (iLt (L.getD j' 0) (-50)) with h6 | h6
            all_goals
              have e := okB_s (L := L) (j := j')
              rw [ho, h5, h6] at e
              repeat' ((conv => whnf); first | refine eqS_rfl ?_ | refine eqA_rfl ?_ | refine eqA_of (by assumption) ?_ | refine eqS_of (by rfl) ?_ | refine eqL_rfl ?_ | refine eqJ_rfl ?_ | refine gE ?_ | refine seS_rfl ?_ | refine lsS_of hup ?_ | refine lsS_rfl ?_ | refine brS_tt ?_ | refine brS_ff ?_ | refine brS_not ?_ | refine gI ?_ | refine gT ?_ | refine gF ?_ | refine brS_intro (fun _ => ?_) (fun _ => ?_) | refine gL ?_ | refine gX ?_ | refine gO ?_ | refine gN ?_ | refine gM ?_ | refine gY ?_ | rw [hup] | intro _)
              conv => whnf
              exact ⟨4 - (j' + 1) + 1, [(1, .ptr 0 bo 0), (2, .sl 712 aP 4 4), (3, .sl 760 aR 3 3), (4, .bool (okB L (j' + 1))), (94, .sl 712 aP 4 4), (95, .int .i64 (Int.ofNat 4)), (96, .int .i64 (Int.ofNat (j' + 1)))], [(760, .gr aR 3 24 2 (rf RS)), (712, .gr aP 4 3 1 (fun z => [.int .i64 (njL L P3 (j' + 1) z)])), (0, .own bo 54 [.int .i8 r00, .int .i8 r01, .int .i8 r10, .int .i8 r11, .int .i8 r20, .int .i8 r21, .int .u8 (Int.ofNat cnt), .bool false, .int .i8 fa])], addL (60 * (4 - (j' + 1)) + R) 60, 900, by omega, ⟨eqF_rfl _, eqF_rfl _, eqF_rfl _, ⟨by first | exact congrArg (fun b => Value.bool b) e.symm | exact congrArg (fun b => Value.bool b) ((congrArg not h6).trans e.symm), rfl⟩, eqF_rfl _, eqF_rfl _, ⟨congrArg (Value.int .i64) (smn (i := j' + 1) (by omega)), rfl⟩, trivial⟩, WG, nM1, j' + 1, aP, aR, by omega, rfl, rfl, rfl, rfl, rfl⟩
      · have hN := njL_up0 (j := j') hL
        have e9 : L.getD j' 0 = njL L P3 j' j' := by rw [njL_at, ← hL]; rfl
        have hU : ∀ z, z < 4 → [SV.int .i64 (njL L P3 j' z)] = [.int .i64 (njL L P3 (j' + 1) z)] := fun z _ => hN z
        rcases Bool.eq_false_or_eq_true (okB L j') with ho | ho
        all_goals
          rcases Bool.eq_false_or_eq_true (iLt 50 (njL L P3 j' j')) with h5 | h5
          all_goals
            rcases Bool.eq_false_or_eq_true (iLt (njL L P3 j' j') (-50)) with h6 | h6
            all_goals
              have e := okB_s (L := L) (j := j')
              rw [e9, ho, h5, h6] at e
              repeat' ((conv => whnf); first | refine eqS_rfl ?_ | refine eqA_rfl ?_ | refine eqA_of (by assumption) ?_ | refine eqS_of (by rfl) ?_ | refine eqL_rfl ?_ | refine eqJ_rfl ?_ | refine gE ?_ | refine seS_rfl ?_ | refine lsS_of hup ?_ | refine lsS_rfl ?_ | refine brS_tt ?_ | refine brS_ff ?_ | refine brS_not ?_ | refine gI ?_ | refine gT ?_ | refine gF ?_ | refine brS_intro (fun _ => ?_) (fun _ => ?_) | refine gL ?_ | refine gX ?_ | refine gO ?_ | refine gN ?_ | refine gM ?_ | refine gY ?_ | intro _)
              conv => whnf
              exact ⟨4 - (j' + 1) + 1, [(1, .ptr 0 bo 0), (2, .sl 712 aP 4 4), (3, .sl 760 aR 3 3), (4, .bool (okB L (j' + 1))), (94, .sl 712 aP 4 4), (95, .int .i64 (Int.ofNat 4)), (96, .int .i64 (Int.ofNat (j' + 1)))], [(760, .gr aR 3 24 2 (rf RS)), (712, .gr aP 4 3 1 (fun z => [.int .i64 (njL L P3 (j' + 1) z)])), (0, .own bo 54 [.int .i8 r00, .int .i8 r01, .int .i8 r10, .int .i8 r11, .int .i8 r20, .int .i8 r21, .int .u8 (Int.ofNat cnt), .bool false, .int .i8 fa])], addL (60 * (4 - (j' + 1)) + R) 60, 900, by omega, ⟨eqF_rfl _, eqF_rfl _, eqF_rfl _, ⟨by first | exact congrArg (fun b => Value.bool b) e.symm | exact congrArg (fun b => Value.bool b) ((congrArg not h6).trans e.symm), rfl⟩, eqF_rfl _, eqF_rfl _, ⟨congrArg (Value.int .i64) (smn (i := j' + 1) (by omega)), rfl⟩, trivial⟩, WG, nM1, j' + 1, aP, aR, by omega, rfl, rfl, rfl, rfl, rfl⟩
    · have e3 : 4 = j' := by omega
      subst e3
      have d1 := iLt_f (Nat.le_refl 4)
      have hfin : ∀ z, z < 4 → [SV.int .i64 (njL L P3 4 z)] = pf L z := fun z hz => njL_fin hz
      repeat' ((conv => whnf); first | refine eqS_rfl ?_ | refine eqA_rfl ?_ | refine eqA_of (by assumption) ?_ | refine eqS_of (by rfl) ?_ | refine eqL_rfl ?_ | refine eqJ_rfl ?_ | refine gE ?_ | refine seS_rfl ?_ | refine lsS_of hup ?_ | refine lsS_rfl ?_ | refine brS_tt ?_ | refine brS_ff ?_ | refine brS_not ?_ | refine gI ?_ | refine gT ?_ | refine gF ?_ | refine brS_intro (fun _ => ?_) (fun _ => ?_) | refine gL ?_ | refine gX ?_ | refine gO ?_ | refine gN ?_ | refine gM ?_ | refine gY ?_ | intro _)
      conv => whnf
      exact ⟨⟨_, _, ⟨aP, aR, rfl, rfl⟩, rfl, WG⟩, nM1⟩
end Go.Proofs.Ytpncjgiojoehkaa
