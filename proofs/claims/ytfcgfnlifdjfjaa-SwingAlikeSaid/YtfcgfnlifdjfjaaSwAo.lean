/- SwingAlike: each number of marks, the law. -/
import Derived.Test.YtfcgfnlifdjfjaaSwZ
import Derived.KernelRfl
namespace Go.Proofs.Ytfcgfnlifdjfjaa
open Go.Ab
attribute [local irreducible] aggOk drwOK
set_option maxRecDepth 100000
set_option maxHeartbeats 4000000
set_option linter.unusedVariables false
set_option linter.unusedSimpArgs false
theorem c38_1 (F d : Nat) (hF : 600 < F) : ReadC (CL F (d + 2)) 38 [.int .i64 (Int.ofNat 1)] [] (600000 + 1000) (.int .i64 (Int.ofNat (LX (xA 1) 2).length)) := by
  intro R
  rw [show 600000 + 1000 = (600000) + 1000 from rfl, addL_eq, ← Nat.add_assoc, ← addL_eq _ 1000, Nat.add_comm R (600000)]
  have k35 := fun j k (hk : k ≤ 1) => c35 F d (oA 1 j) (by rw [oA_size]; omega) k (by rw [oA_size]; exact hk)
  refine call_in (n := 50) Try.func38 rfl rfl rfl rfl rfl rfl rfl ?_
  repeat' ((conv => whnf); first | refine eqS_rfl ?_ | refine eqA_rfl ?_ | refine eqA_of (by assumption) ?_ | refine eqS_of (by rfl) ?_ | refine eqL_rfl ?_ | refine eqJ_rfl ?_ | refine gE ?_ | refine seS_rfl ?_ | refine lsS_of hup ?_ | refine lsS_rfl ?_ | refine brS_tt ?_ | refine brS_ff ?_ | refine brS_not ?_ | refine gI ?_ | refine gT ?_ | refine gF ?_ | refine brS_intro (fun _ => ?_) (fun _ => ?_) | refine gL ?_ | refine gX ?_ | refine gO ?_ | refine gN ?_ | intro _)
  rename_i bm
  conv => whnf
  refine loS_i (fun jj f mm R' ni => ∃ (j : Nat) (kv : Nat → SV), j ≤ 2 ∧ (j ≠ 0 → kv = kvS) ∧ jj = 2 - j + 1 ∧ f = [(0, .int .i64 (Int.ofNat 1)), (3, .mpv 0 bm), (4, .int .i64 (Int.ofNat j))] ∧ mm = [(0, .mp bm kv (FX (xA 1) j))] ∧ R' = (addL (1000 * (2 - j) + R) 900) ∧ ni = 10) (2 + 1) (by omega)
    ⟨[(0, .int .i64 (Int.ofNat 1)), (3, .mpv 0 bm), (4, .int .i64 (Int.ofNat 0))], [(0, .mp bm jkM noM)], (addL (1000 * (2 - 0) + R) 900), 10, ⟨eqF_rfl _, eqF_rfl _, eqF_rfl _, trivial⟩, WS, nM1, 0, jkM, by omega, fun h => absurd rfl h, by omega, rfl, rfl, rfl, rfl⟩ ?_
  rintro _ _ _ _ _ ⟨j, kv, hj, hkv, rfl, rfl, rfl, rfl, rfl⟩
  by_cases hlt : j < 2
  · have d1 : iLt (Int.ofNat j) (shlV .i64 1 1) = true := iLt_t (b := 2) hlt
    have hb : 1000 * (2 - j) = 1000 * (2 - (j + 1)) + 1000 := by omega
    have hup := FX_upd (xA 1) j
    rcases Nat.eq_zero_or_pos j with rfl | hj0
    · have k35 := k35 0
      repeat' ((conv => whnf); first | refine eqS_rfl ?_ | refine eqA_rfl ?_ | refine eqA_of (by assumption) ?_ | refine eqS_of (by rfl) ?_ | refine eqL_rfl ?_ | refine eqJ_rfl ?_ | refine gE ?_ | refine seS_rfl ?_ | refine lsS_of hup ?_ | refine lsS_rfl ?_ | refine brS_tt ?_ | refine brS_ff ?_ | refine brS_not ?_ | refine gI ?_ | refine gT ?_ | refine gF ?_ | refine brS_intro (fun _ => ?_) (fun _ => ?_) | refine gL ?_ | refine gX ?_ | refine gO ?_ | refine gN ?_ | refine gM ?_ | refine gY ?_ | refine bytG_of (biA 0) (fun i hi => by match i, hi with | 0, _ => rfl) ?_ | refine loS_u 2 (by omega) ?_ | refine kyS_new kvS (en (xA 1 0)) (fun _ => rfl) (keyS _ rfl) (kvS_en _) ?_ | intro _)
      conv => whnf
      have hup0 : updM (fun x => none) (en (xA 1 0)) (.bool true) = FX (xA 1) (0 + 1) := FX_upd (xA 1) 0
      exact ⟨2 - (0 + 1) + 1, [(0, .int .i64 (Int.ofNat 1)), (3, .mpv 0 bm), (4, .int .i64 (Int.ofNat (0 + 1)))], [(0, .mp bm kvS (FX (xA 1) (0 + 1)))], (addL (1000 * (2 - (0 + 1)) + R) 900), 10, by omega, ⟨eqF_rfl _, eqF_rfl _, ⟨congrArg (Value.int .i64) (smn (i := 0 + 1) (by omega)), rfl⟩, trivial⟩, by rw [← hup0]; exact WS, nM1, 0 + 1, kvS, by omega, fun _ => rfl, rfl, rfl, rfl, rfl, rfl⟩
    · have e := hkv (by omega)
      subst e
      have k35 := k35 j
      repeat' ((conv => whnf); first | refine eqS_rfl ?_ | refine eqA_rfl ?_ | refine eqA_of (by assumption) ?_ | refine eqS_of (by rfl) ?_ | refine eqL_rfl ?_ | refine eqJ_rfl ?_ | refine gE ?_ | refine seS_rfl ?_ | refine lsS_of hup ?_ | refine lsS_rfl ?_ | refine brS_tt ?_ | refine brS_ff ?_ | refine brS_not ?_ | refine gI ?_ | refine gT ?_ | refine gF ?_ | refine brS_intro (fun _ => ?_) (fun _ => ?_) | refine gL ?_ | refine gX ?_ | refine gO ?_ | refine gN ?_ | refine gM ?_ | refine gY ?_ | refine bytG_of (biA j) (fun i hi => by match i, hi with | 0, _ => rfl) ?_ | refine loS_u 2 (by omega) ?_ | refine kyS_of (en (xA 1 j)) (keyS _ rfl) (kvS_en _) ?_ | intro _)
      conv => whnf
      exact ⟨2 - (j + 1) + 1, [(0, .int .i64 (Int.ofNat 1)), (3, .mpv 0 bm), (4, .int .i64 (Int.ofNat (j + 1)))], [(0, .mp bm kvS (FX (xA 1) (j + 1)))], (addL (1000 * (2 - (j + 1)) + R) 900), 10, by omega, ⟨eqF_rfl _, eqF_rfl _, ⟨congrArg (Value.int .i64) (smn (i := j + 1) (by omega)), rfl⟩, trivial⟩, by rw [← hup]; exact WS, nM1, j + 1, kvS, by omega, fun _ => rfl, rfl, rfl, rfl, rfl, rfl⟩
  · have e2 : j = 2 := by omega
    subst e2
    have d1 : iLt (Int.ofNat 2) (shlV .i64 1 1) = false := iLt_f (b := 2) (Nat.le_refl _)
    repeat' ((conv => whnf); first | refine eqS_rfl ?_ | refine eqA_rfl ?_ | refine eqA_of (by assumption) ?_ | refine eqS_of (by rfl) ?_ | refine eqL_rfl ?_ | refine eqJ_rfl ?_ | refine gE ?_ | refine seS_rfl ?_ | refine lsS_of hup ?_ | refine lsS_rfl ?_ | refine brS_tt ?_ | refine brS_ff ?_ | refine brS_not ?_ | refine gI ?_ | refine gT ?_ | refine gF ?_ | refine brS_intro (fun _ => ?_) (fun _ => ?_) | refine gL ?_ | refine gX ?_ | refine gO ?_ | refine gN ?_ | refine lnS_of (LX (xA 1) 2).length LX_len ?_ | intro _)
    conv => whnf
    exact ⟨rfl, nM1⟩
end Go.Proofs.Ytfcgfnlifdjfjaa
namespace Go.Proofs.Ytfcgfnlifdjfjaa
open Go.Ab
attribute [local irreducible] aggOk drwOK
set_option maxRecDepth 100000
set_option maxHeartbeats 4000000
set_option linter.unusedVariables false
set_option linter.unusedSimpArgs false
theorem c38_2 (F d : Nat) (hF : 600 < F) : ReadC (CL F (d + 2)) 38 [.int .i64 (Int.ofNat 2)] [] (600000 + 1000) (.int .i64 (Int.ofNat (LX (xA 2) 4).length)) := by
  intro R
  rw [show 600000 + 1000 = (600000) + 1000 from rfl, addL_eq, ← Nat.add_assoc, ← addL_eq _ 1000, Nat.add_comm R (600000)]
  have k35 := fun j k (hk : k ≤ 2) => c35 F d (oA 2 j) (by rw [oA_size]; omega) k (by rw [oA_size]; exact hk)
  refine call_in (n := 50) Try.func38 rfl rfl rfl rfl rfl rfl rfl ?_
  repeat' ((conv => whnf); first | refine eqS_rfl ?_ | refine eqA_rfl ?_ | refine eqA_of (by assumption) ?_ | refine eqS_of (by rfl) ?_ | refine eqL_rfl ?_ | refine eqJ_rfl ?_ | refine gE ?_ | refine seS_rfl ?_ | refine lsS_of hup ?_ | refine lsS_rfl ?_ | refine brS_tt ?_ | refine brS_ff ?_ | refine brS_not ?_ | refine gI ?_ | refine gT ?_ | refine gF ?_ | refine brS_intro (fun _ => ?_) (fun _ => ?_) | refine gL ?_ | refine gX ?_ | refine gO ?_ | refine gN ?_ | intro _)
  rename_i bm
  conv => whnf
  refine loS_i (fun jj f mm R' ni => ∃ (j : Nat) (kv : Nat → SV), j ≤ 4 ∧ (j ≠ 0 → kv = kvS) ∧ jj = 4 - j + 1 ∧ f = [(0, .int .i64 (Int.ofNat 2)), (3, .mpv 0 bm), (4, .int .i64 (Int.ofNat j))] ∧ mm = [(0, .mp bm kv (FX (xA 2) j))] ∧ R' = (addL (1000 * (4 - j) + R) 900) ∧ ni = 10) (4 + 1) (by omega)
    ⟨[(0, .int .i64 (Int.ofNat 2)), (3, .mpv 0 bm), (4, .int .i64 (Int.ofNat 0))], [(0, .mp bm jkM noM)], (addL (1000 * (4 - 0) + R) 900), 10, ⟨eqF_rfl _, eqF_rfl _, eqF_rfl _, trivial⟩, WS, nM1, 0, jkM, by omega, fun h => absurd rfl h, by omega, rfl, rfl, rfl, rfl⟩ ?_
  rintro _ _ _ _ _ ⟨j, kv, hj, hkv, rfl, rfl, rfl, rfl, rfl⟩
  by_cases hlt : j < 4
  · have d1 : iLt (Int.ofNat j) (shlV .i64 1 2) = true := iLt_t (b := 4) hlt
    have hb : 1000 * (4 - j) = 1000 * (4 - (j + 1)) + 1000 := by omega
    have hup := FX_upd (xA 2) j
    rcases Nat.eq_zero_or_pos j with rfl | hj0
    · have k35 := k35 0
      repeat' ((conv => whnf); first | refine eqS_rfl ?_ | refine eqA_rfl ?_ | refine eqA_of (by assumption) ?_ | refine eqS_of (by rfl) ?_ | refine eqL_rfl ?_ | refine eqJ_rfl ?_ | refine gE ?_ | refine seS_rfl ?_ | refine lsS_of hup ?_ | refine lsS_rfl ?_ | refine brS_tt ?_ | refine brS_ff ?_ | refine brS_not ?_ | refine gI ?_ | refine gT ?_ | refine gF ?_ | refine brS_intro (fun _ => ?_) (fun _ => ?_) | refine gL ?_ | refine gX ?_ | refine gO ?_ | refine gN ?_ | refine gM ?_ | refine gY ?_ | refine bytG_of (biA 0) (fun i hi => by match i, hi with | 0, _ => rfl | 1, _ => rfl) ?_ | refine loS_u 3 (by omega) ?_ | refine call_pure (k35 1 (by decide)) ?_ | refine kyS_new kvS (en (xA 2 0)) (fun _ => rfl) (keyS _ rfl) (kvS_en _) ?_ | intro _)
      conv => whnf
      have hup0 : updM (fun x => none) (en (xA 2 0)) (.bool true) = FX (xA 2) (0 + 1) := FX_upd (xA 2) 0
      exact ⟨4 - (0 + 1) + 1, [(0, .int .i64 (Int.ofNat 2)), (3, .mpv 0 bm), (4, .int .i64 (Int.ofNat (0 + 1)))], [(0, .mp bm kvS (FX (xA 2) (0 + 1)))], (addL (1000 * (4 - (0 + 1)) + R) 900), 10, by omega, ⟨eqF_rfl _, eqF_rfl _, ⟨congrArg (Value.int .i64) (smn (i := 0 + 1) (by omega)), rfl⟩, trivial⟩, by rw [← hup0]; exact WS, nM1, 0 + 1, kvS, by omega, fun _ => rfl, rfl, rfl, rfl, rfl, rfl⟩
    · have e := hkv (by omega)
      subst e
      have k35 := k35 j
      repeat' ((conv => whnf); first | refine eqS_rfl ?_ | refine eqA_rfl ?_ | refine eqA_of (by assumption) ?_ | refine eqS_of (by rfl) ?_ | refine eqL_rfl ?_ | refine eqJ_rfl ?_ | refine gE ?_ | refine seS_rfl ?_ | refine lsS_of hup ?_ | refine lsS_rfl ?_ | refine brS_tt ?_ | refine brS_ff ?_ | refine brS_not ?_ | refine gI ?_ | refine gT ?_ | refine gF ?_ | refine brS_intro (fun _ => ?_) (fun _ => ?_) | refine gL ?_ | refine gX ?_ | refine gO ?_ | refine gN ?_ | refine gM ?_ | refine gY ?_ | refine bytG_of (biA j) (fun i hi => by match i, hi with | 0, _ => rfl | 1, _ => rfl) ?_ | refine loS_u 3 (by omega) ?_ | refine call_pure (k35 1 (by decide)) ?_ | refine kyS_of (en (xA 2 j)) (keyS _ rfl) (kvS_en _) ?_ | intro _)
      conv => whnf
      exact ⟨4 - (j + 1) + 1, [(0, .int .i64 (Int.ofNat 2)), (3, .mpv 0 bm), (4, .int .i64 (Int.ofNat (j + 1)))], [(0, .mp bm kvS (FX (xA 2) (j + 1)))], (addL (1000 * (4 - (j + 1)) + R) 900), 10, by omega, ⟨eqF_rfl _, eqF_rfl _, ⟨congrArg (Value.int .i64) (smn (i := j + 1) (by omega)), rfl⟩, trivial⟩, by rw [← hup]; exact WS, nM1, j + 1, kvS, by omega, fun _ => rfl, rfl, rfl, rfl, rfl, rfl⟩
  · have e2 : j = 4 := by omega
    subst e2
    have d1 : iLt (Int.ofNat 4) (shlV .i64 1 2) = false := iLt_f (b := 4) (Nat.le_refl _)
    repeat' ((conv => whnf); first | refine eqS_rfl ?_ | refine eqA_rfl ?_ | refine eqA_of (by assumption) ?_ | refine eqS_of (by rfl) ?_ | refine eqL_rfl ?_ | refine eqJ_rfl ?_ | refine gE ?_ | refine seS_rfl ?_ | refine lsS_of hup ?_ | refine lsS_rfl ?_ | refine brS_tt ?_ | refine brS_ff ?_ | refine brS_not ?_ | refine gI ?_ | refine gT ?_ | refine gF ?_ | refine brS_intro (fun _ => ?_) (fun _ => ?_) | refine gL ?_ | refine gX ?_ | refine gO ?_ | refine gN ?_ | refine lnS_of (LX (xA 2) 4).length LX_len ?_ | intro _)
    conv => whnf
    exact ⟨rfl, nM1⟩
end Go.Proofs.Ytfcgfnlifdjfjaa
namespace Go.Proofs.Ytfcgfnlifdjfjaa
open Go.Ab
attribute [local irreducible] aggOk drwOK
set_option maxRecDepth 100000
set_option maxHeartbeats 4000000
set_option linter.unusedVariables false
set_option linter.unusedSimpArgs false
theorem c38_3 (F d : Nat) (hF : 600 < F) : ReadC (CL F (d + 2)) 38 [.int .i64 (Int.ofNat 3)] [] (600000 + 1000) (.int .i64 (Int.ofNat (LX (xA 3) 8).length)) := by
  intro R
  rw [show 600000 + 1000 = (600000) + 1000 from rfl, addL_eq, ← Nat.add_assoc, ← addL_eq _ 1000, Nat.add_comm R (600000)]
  have k35 := fun j k (hk : k ≤ 3) => c35 F d (oA 3 j) (by rw [oA_size]; omega) k (by rw [oA_size]; exact hk)
  refine call_in (n := 50) Try.func38 rfl rfl rfl rfl rfl rfl rfl ?_
  repeat' ((conv => whnf); first | refine eqS_rfl ?_ | refine eqA_rfl ?_ | refine eqA_of (by assumption) ?_ | refine eqS_of (by rfl) ?_ | refine eqL_rfl ?_ | refine eqJ_rfl ?_ | refine gE ?_ | refine seS_rfl ?_ | refine lsS_of hup ?_ | refine lsS_rfl ?_ | refine brS_tt ?_ | refine brS_ff ?_ | refine brS_not ?_ | refine gI ?_ | refine gT ?_ | refine gF ?_ | refine brS_intro (fun _ => ?_) (fun _ => ?_) | refine gL ?_ | refine gX ?_ | refine gO ?_ | refine gN ?_ | intro _)
  rename_i bm
  conv => whnf
  refine loS_i (fun jj f mm R' ni => ∃ (j : Nat) (kv : Nat → SV), j ≤ 8 ∧ (j ≠ 0 → kv = kvS) ∧ jj = 8 - j + 1 ∧ f = [(0, .int .i64 (Int.ofNat 3)), (3, .mpv 0 bm), (4, .int .i64 (Int.ofNat j))] ∧ mm = [(0, .mp bm kv (FX (xA 3) j))] ∧ R' = (addL (1000 * (8 - j) + R) 900) ∧ ni = 10) (8 + 1) (by omega)
    ⟨[(0, .int .i64 (Int.ofNat 3)), (3, .mpv 0 bm), (4, .int .i64 (Int.ofNat 0))], [(0, .mp bm jkM noM)], (addL (1000 * (8 - 0) + R) 900), 10, ⟨eqF_rfl _, eqF_rfl _, eqF_rfl _, trivial⟩, WS, nM1, 0, jkM, by omega, fun h => absurd rfl h, by omega, rfl, rfl, rfl, rfl⟩ ?_
  rintro _ _ _ _ _ ⟨j, kv, hj, hkv, rfl, rfl, rfl, rfl, rfl⟩
  by_cases hlt : j < 8
  · have d1 : iLt (Int.ofNat j) (shlV .i64 1 3) = true := iLt_t (b := 8) hlt
    have hb : 1000 * (8 - j) = 1000 * (8 - (j + 1)) + 1000 := by omega
    have hup := FX_upd (xA 3) j
    rcases Nat.eq_zero_or_pos j with rfl | hj0
    · have k35 := k35 0
      repeat' ((conv => whnf); first | refine eqS_rfl ?_ | refine eqA_rfl ?_ | refine eqA_of (by assumption) ?_ | refine eqS_of (by rfl) ?_ | refine eqL_rfl ?_ | refine eqJ_rfl ?_ | refine gE ?_ | refine seS_rfl ?_ | refine lsS_of hup ?_ | refine lsS_rfl ?_ | refine brS_tt ?_ | refine brS_ff ?_ | refine brS_not ?_ | refine gI ?_ | refine gT ?_ | refine gF ?_ | refine brS_intro (fun _ => ?_) (fun _ => ?_) | refine gL ?_ | refine gX ?_ | refine gO ?_ | refine gN ?_ | refine gM ?_ | refine gY ?_ | refine bytG_of (biA 0) (fun i hi => by match i, hi with | 0, _ => rfl | 1, _ => rfl | 2, _ => rfl) ?_ | refine loS_u 4 (by omega) ?_ | refine call_pure (k35 1 (by decide)) ?_ | refine call_pure (k35 2 (by decide)) ?_ | refine kyS_new kvS (en (xA 3 0)) (fun _ => rfl) (keyS _ rfl) (kvS_en _) ?_ | intro _)
      conv => whnf
      have hup0 : updM (fun x => none) (en (xA 3 0)) (.bool true) = FX (xA 3) (0 + 1) := FX_upd (xA 3) 0
      exact ⟨8 - (0 + 1) + 1, [(0, .int .i64 (Int.ofNat 3)), (3, .mpv 0 bm), (4, .int .i64 (Int.ofNat (0 + 1)))], [(0, .mp bm kvS (FX (xA 3) (0 + 1)))], (addL (1000 * (8 - (0 + 1)) + R) 900), 10, by omega, ⟨eqF_rfl _, eqF_rfl _, ⟨congrArg (Value.int .i64) (smn (i := 0 + 1) (by omega)), rfl⟩, trivial⟩, by rw [← hup0]; exact WS, nM1, 0 + 1, kvS, by omega, fun _ => rfl, rfl, rfl, rfl, rfl, rfl⟩
    · have e := hkv (by omega)
      subst e
      have k35 := k35 j
      repeat' ((conv => whnf); first | refine eqS_rfl ?_ | refine eqA_rfl ?_ | refine eqA_of (by assumption) ?_ | refine eqS_of (by rfl) ?_ | refine eqL_rfl ?_ | refine eqJ_rfl ?_ | refine gE ?_ | refine seS_rfl ?_ | refine lsS_of hup ?_ | refine lsS_rfl ?_ | refine brS_tt ?_ | refine brS_ff ?_ | refine brS_not ?_ | refine gI ?_ | refine gT ?_ | refine gF ?_ | refine brS_intro (fun _ => ?_) (fun _ => ?_) | refine gL ?_ | refine gX ?_ | refine gO ?_ | refine gN ?_ | refine gM ?_ | refine gY ?_ | refine bytG_of (biA j) (fun i hi => by match i, hi with | 0, _ => rfl | 1, _ => rfl | 2, _ => rfl) ?_ | refine loS_u 4 (by omega) ?_ | refine call_pure (k35 1 (by decide)) ?_ | refine call_pure (k35 2 (by decide)) ?_ | refine kyS_of (en (xA 3 j)) (keyS _ rfl) (kvS_en _) ?_ | intro _)
      conv => whnf
      exact ⟨8 - (j + 1) + 1, [(0, .int .i64 (Int.ofNat 3)), (3, .mpv 0 bm), (4, .int .i64 (Int.ofNat (j + 1)))], [(0, .mp bm kvS (FX (xA 3) (j + 1)))], (addL (1000 * (8 - (j + 1)) + R) 900), 10, by omega, ⟨eqF_rfl _, eqF_rfl _, ⟨congrArg (Value.int .i64) (smn (i := j + 1) (by omega)), rfl⟩, trivial⟩, by rw [← hup]; exact WS, nM1, j + 1, kvS, by omega, fun _ => rfl, rfl, rfl, rfl, rfl, rfl⟩
  · have e2 : j = 8 := by omega
    subst e2
    have d1 : iLt (Int.ofNat 8) (shlV .i64 1 3) = false := iLt_f (b := 8) (Nat.le_refl _)
    repeat' ((conv => whnf); first | refine eqS_rfl ?_ | refine eqA_rfl ?_ | refine eqA_of (by assumption) ?_ | refine eqS_of (by rfl) ?_ | refine eqL_rfl ?_ | refine eqJ_rfl ?_ | refine gE ?_ | refine seS_rfl ?_ | refine lsS_of hup ?_ | refine lsS_rfl ?_ | refine brS_tt ?_ | refine brS_ff ?_ | refine brS_not ?_ | refine gI ?_ | refine gT ?_ | refine gF ?_ | refine brS_intro (fun _ => ?_) (fun _ => ?_) | refine gL ?_ | refine gX ?_ | refine gO ?_ | refine gN ?_ | refine lnS_of (LX (xA 3) 8).length LX_len ?_ | intro _)
    conv => whnf
    exact ⟨rfl, nM1⟩
end Go.Proofs.Ytfcgfnlifdjfjaa
namespace Go.Proofs.Ytfcgfnlifdjfjaa
open Go.Ab
attribute [local irreducible] aggOk drwOK
set_option maxRecDepth 100000
set_option maxHeartbeats 4000000
set_option linter.unusedVariables false
set_option linter.unusedSimpArgs false
theorem c38_4 (F d : Nat) (hF : 600 < F) : ReadC (CL F (d + 2)) 38 [.int .i64 (Int.ofNat 4)] [] (600000 + 1000) (.int .i64 (Int.ofNat (LX (xA 4) 16).length)) := by
  intro R
  rw [show 600000 + 1000 = (600000) + 1000 from rfl, addL_eq, ← Nat.add_assoc, ← addL_eq _ 1000, Nat.add_comm R (600000)]
  have k35 := fun j k (hk : k ≤ 4) => c35 F d (oA 4 j) (by rw [oA_size]; omega) k (by rw [oA_size]; exact hk)
  refine call_in (n := 50) Try.func38 rfl rfl rfl rfl rfl rfl rfl ?_
  repeat' ((conv => whnf); first | refine eqS_rfl ?_ | refine eqA_rfl ?_ | refine eqA_of (by assumption) ?_ | refine eqS_of (by rfl) ?_ | refine eqL_rfl ?_ | refine eqJ_rfl ?_ | refine gE ?_ | refine seS_rfl ?_ | refine lsS_of hup ?_ | refine lsS_rfl ?_ | refine brS_tt ?_ | refine brS_ff ?_ | refine brS_not ?_ | refine gI ?_ | refine gT ?_ | refine gF ?_ | refine brS_intro (fun _ => ?_) (fun _ => ?_) | refine gL ?_ | refine gX ?_ | refine gO ?_ | refine gN ?_ | intro _)
  rename_i bm
  conv => whnf
  refine loS_i (fun jj f mm R' ni => ∃ (j : Nat) (kv : Nat → SV), j ≤ 16 ∧ (j ≠ 0 → kv = kvS) ∧ jj = 16 - j + 1 ∧ f = [(0, .int .i64 (Int.ofNat 4)), (3, .mpv 0 bm), (4, .int .i64 (Int.ofNat j))] ∧ mm = [(0, .mp bm kv (FX (xA 4) j))] ∧ R' = (addL (1000 * (16 - j) + R) 900) ∧ ni = 10) (16 + 1) (by omega)
    ⟨[(0, .int .i64 (Int.ofNat 4)), (3, .mpv 0 bm), (4, .int .i64 (Int.ofNat 0))], [(0, .mp bm jkM noM)], (addL (1000 * (16 - 0) + R) 900), 10, ⟨eqF_rfl _, eqF_rfl _, eqF_rfl _, trivial⟩, WS, nM1, 0, jkM, by omega, fun h => absurd rfl h, by omega, rfl, rfl, rfl, rfl⟩ ?_
  rintro _ _ _ _ _ ⟨j, kv, hj, hkv, rfl, rfl, rfl, rfl, rfl⟩
  by_cases hlt : j < 16
  · have d1 : iLt (Int.ofNat j) (shlV .i64 1 4) = true := iLt_t (b := 16) hlt
    have hb : 1000 * (16 - j) = 1000 * (16 - (j + 1)) + 1000 := by omega
    have hup := FX_upd (xA 4) j
    rcases Nat.eq_zero_or_pos j with rfl | hj0
    · have k35 := k35 0
      repeat' ((conv => whnf); first | refine eqS_rfl ?_ | refine eqA_rfl ?_ | refine eqA_of (by assumption) ?_ | refine eqS_of (by rfl) ?_ | refine eqL_rfl ?_ | refine eqJ_rfl ?_ | refine gE ?_ | refine seS_rfl ?_ | refine lsS_of hup ?_ | refine lsS_rfl ?_ | refine brS_tt ?_ | refine brS_ff ?_ | refine brS_not ?_ | refine gI ?_ | refine gT ?_ | refine gF ?_ | refine brS_intro (fun _ => ?_) (fun _ => ?_) | refine gL ?_ | refine gX ?_ | refine gO ?_ | refine gN ?_ | refine gM ?_ | refine gY ?_ | refine bytG_of (biA 0) (fun i hi => by match i, hi with | 0, _ => rfl | 1, _ => rfl | 2, _ => rfl | 3, _ => rfl) ?_ | refine loS_u 5 (by omega) ?_ | refine call_pure (k35 1 (by decide)) ?_ | refine call_pure (k35 2 (by decide)) ?_ | refine call_pure (k35 3 (by decide)) ?_ | refine kyS_new kvS (en (xA 4 0)) (fun _ => rfl) (keyS _ rfl) (kvS_en _) ?_ | intro _)
      conv => whnf
      have hup0 : updM (fun x => none) (en (xA 4 0)) (.bool true) = FX (xA 4) (0 + 1) := FX_upd (xA 4) 0
      exact ⟨16 - (0 + 1) + 1, [(0, .int .i64 (Int.ofNat 4)), (3, .mpv 0 bm), (4, .int .i64 (Int.ofNat (0 + 1)))], [(0, .mp bm kvS (FX (xA 4) (0 + 1)))], (addL (1000 * (16 - (0 + 1)) + R) 900), 10, by omega, ⟨eqF_rfl _, eqF_rfl _, ⟨congrArg (Value.int .i64) (smn (i := 0 + 1) (by omega)), rfl⟩, trivial⟩, by rw [← hup0]; exact WS, nM1, 0 + 1, kvS, by omega, fun _ => rfl, rfl, rfl, rfl, rfl, rfl⟩
    · have e := hkv (by omega)
      subst e
      have k35 := k35 j
      repeat' ((conv => whnf); first | refine eqS_rfl ?_ | refine eqA_rfl ?_ | refine eqA_of (by assumption) ?_ | refine eqS_of (by rfl) ?_ | refine eqL_rfl ?_ | refine eqJ_rfl ?_ | refine gE ?_ | refine seS_rfl ?_ | refine lsS_of hup ?_ | refine lsS_rfl ?_ | refine brS_tt ?_ | refine brS_ff ?_ | refine brS_not ?_ | refine gI ?_ | refine gT ?_ | refine gF ?_ | refine brS_intro (fun _ => ?_) (fun _ => ?_) | refine gL ?_ | refine gX ?_ | refine gO ?_ | refine gN ?_ | refine gM ?_ | refine gY ?_ | refine bytG_of (biA j) (fun i hi => by match i, hi with | 0, _ => rfl | 1, _ => rfl | 2, _ => rfl | 3, _ => rfl) ?_ | refine loS_u 5 (by omega) ?_ | refine call_pure (k35 1 (by decide)) ?_ | refine call_pure (k35 2 (by decide)) ?_ | refine call_pure (k35 3 (by decide)) ?_ | refine kyS_of (en (xA 4 j)) (keyS _ rfl) (kvS_en _) ?_ | intro _)
      conv => whnf
      exact ⟨16 - (j + 1) + 1, [(0, .int .i64 (Int.ofNat 4)), (3, .mpv 0 bm), (4, .int .i64 (Int.ofNat (j + 1)))], [(0, .mp bm kvS (FX (xA 4) (j + 1)))], (addL (1000 * (16 - (j + 1)) + R) 900), 10, by omega, ⟨eqF_rfl _, eqF_rfl _, ⟨congrArg (Value.int .i64) (smn (i := j + 1) (by omega)), rfl⟩, trivial⟩, by rw [← hup]; exact WS, nM1, j + 1, kvS, by omega, fun _ => rfl, rfl, rfl, rfl, rfl, rfl⟩
  · have e2 : j = 16 := by omega
    subst e2
    have d1 : iLt (Int.ofNat 16) (shlV .i64 1 4) = false := iLt_f (b := 16) (Nat.le_refl _)
    repeat' ((conv => whnf); first | refine eqS_rfl ?_ | refine eqA_rfl ?_ | refine eqA_of (by assumption) ?_ | refine eqS_of (by rfl) ?_ | refine eqL_rfl ?_ | refine eqJ_rfl ?_ | refine gE ?_ | refine seS_rfl ?_ | refine lsS_of hup ?_ | refine lsS_rfl ?_ | refine brS_tt ?_ | refine brS_ff ?_ | refine brS_not ?_ | refine gI ?_ | refine gT ?_ | refine gF ?_ | refine brS_intro (fun _ => ?_) (fun _ => ?_) | refine gL ?_ | refine gX ?_ | refine gO ?_ | refine gN ?_ | refine lnS_of (LX (xA 4) 16).length LX_len ?_ | intro _)
    conv => whnf
    exact ⟨rfl, nM1⟩
end Go.Proofs.Ytfcgfnlifdjfjaa
namespace Go.Proofs.Ytfcgfnlifdjfjaa
open Go.Ab
attribute [local irreducible] aggOk drwOK
set_option maxRecDepth 100000
set_option maxHeartbeats 4000000
set_option linter.unusedVariables false
set_option linter.unusedSimpArgs false
theorem c38_5 (F d : Nat) (hF : 600 < F) : ReadC (CL F (d + 2)) 38 [.int .i64 (Int.ofNat 5)] [] (600000 + 1000) (.int .i64 (Int.ofNat (LX (xA 5) 32).length)) := by
  intro R
  rw [show 600000 + 1000 = (600000) + 1000 from rfl, addL_eq, ← Nat.add_assoc, ← addL_eq _ 1000, Nat.add_comm R (600000)]
  have k35 := fun j k (hk : k ≤ 5) => c35 F d (oA 5 j) (by rw [oA_size]; omega) k (by rw [oA_size]; exact hk)
  refine call_in (n := 50) Try.func38 rfl rfl rfl rfl rfl rfl rfl ?_
  repeat' ((conv => whnf); first | refine eqS_rfl ?_ | refine eqA_rfl ?_ | refine eqA_of (by assumption) ?_ | refine eqS_of (by rfl) ?_ | refine eqL_rfl ?_ | refine eqJ_rfl ?_ | refine gE ?_ | refine seS_rfl ?_ | refine lsS_of hup ?_ | refine lsS_rfl ?_ | refine brS_tt ?_ | refine brS_ff ?_ | refine brS_not ?_ | refine gI ?_ | refine gT ?_ | refine gF ?_ | refine brS_intro (fun _ => ?_) (fun _ => ?_) | refine gL ?_ | refine gX ?_ | refine gO ?_ | refine gN ?_ | intro _)
  rename_i bm
  conv => whnf
  refine loS_i (fun jj f mm R' ni => ∃ (j : Nat) (kv : Nat → SV), j ≤ 32 ∧ (j ≠ 0 → kv = kvS) ∧ jj = 32 - j + 1 ∧ f = [(0, .int .i64 (Int.ofNat 5)), (3, .mpv 0 bm), (4, .int .i64 (Int.ofNat j))] ∧ mm = [(0, .mp bm kv (FX (xA 5) j))] ∧ R' = (addL (1000 * (32 - j) + R) 900) ∧ ni = 10) (32 + 1) (by omega)
    ⟨[(0, .int .i64 (Int.ofNat 5)), (3, .mpv 0 bm), (4, .int .i64 (Int.ofNat 0))], [(0, .mp bm jkM noM)], (addL (1000 * (32 - 0) + R) 900), 10, ⟨eqF_rfl _, eqF_rfl _, eqF_rfl _, trivial⟩, WS, nM1, 0, jkM, by omega, fun h => absurd rfl h, by omega, rfl, rfl, rfl, rfl⟩ ?_
  rintro _ _ _ _ _ ⟨j, kv, hj, hkv, rfl, rfl, rfl, rfl, rfl⟩
  by_cases hlt : j < 32
  · have d1 : iLt (Int.ofNat j) (shlV .i64 1 5) = true := iLt_t (b := 32) hlt
    have hb : 1000 * (32 - j) = 1000 * (32 - (j + 1)) + 1000 := by omega
    have hup := FX_upd (xA 5) j
    rcases Nat.eq_zero_or_pos j with rfl | hj0
    · have k35 := k35 0
      repeat' ((conv => whnf); first | refine eqS_rfl ?_ | refine eqA_rfl ?_ | refine eqA_of (by assumption) ?_ | refine eqS_of (by rfl) ?_ | refine eqL_rfl ?_ | refine eqJ_rfl ?_ | refine gE ?_ | refine seS_rfl ?_ | refine lsS_of hup ?_ | refine lsS_rfl ?_ | refine brS_tt ?_ | refine brS_ff ?_ | refine brS_not ?_ | refine gI ?_ | refine gT ?_ | refine gF ?_ | refine brS_intro (fun _ => ?_) (fun _ => ?_) | refine gL ?_ | refine gX ?_ | refine gO ?_ | refine gN ?_ | refine gM ?_ | refine gY ?_ | refine bytG_of (biA 0) (fun i hi => by match i, hi with | 0, _ => rfl | 1, _ => rfl | 2, _ => rfl | 3, _ => rfl | 4, _ => rfl) ?_ | refine loS_u 6 (by omega) ?_ | refine call_pure (k35 1 (by decide)) ?_ | refine call_pure (k35 2 (by decide)) ?_ | refine call_pure (k35 3 (by decide)) ?_ | refine call_pure (k35 4 (by decide)) ?_ | refine kyS_new kvS (en (xA 5 0)) (fun _ => rfl) (keyS _ rfl) (kvS_en _) ?_ | intro _)
      conv => whnf
      have hup0 : updM (fun x => none) (en (xA 5 0)) (.bool true) = FX (xA 5) (0 + 1) := FX_upd (xA 5) 0
      exact ⟨32 - (0 + 1) + 1, [(0, .int .i64 (Int.ofNat 5)), (3, .mpv 0 bm), (4, .int .i64 (Int.ofNat (0 + 1)))], [(0, .mp bm kvS (FX (xA 5) (0 + 1)))], (addL (1000 * (32 - (0 + 1)) + R) 900), 10, by omega, ⟨eqF_rfl _, eqF_rfl _, ⟨congrArg (Value.int .i64) (smn (i := 0 + 1) (by omega)), rfl⟩, trivial⟩, by rw [← hup0]; exact WS, nM1, 0 + 1, kvS, by omega, fun _ => rfl, rfl, rfl, rfl, rfl, rfl⟩
    · have e := hkv (by omega)
      subst e
      have k35 := k35 j
      repeat' ((conv => whnf); first | refine eqS_rfl ?_ | refine eqA_rfl ?_ | refine eqA_of (by assumption) ?_ | refine eqS_of (by rfl) ?_ | refine eqL_rfl ?_ | refine eqJ_rfl ?_ | refine gE ?_ | refine seS_rfl ?_ | refine lsS_of hup ?_ | refine lsS_rfl ?_ | refine brS_tt ?_ | refine brS_ff ?_ | refine brS_not ?_ | refine gI ?_ | refine gT ?_ | refine gF ?_ | refine brS_intro (fun _ => ?_) (fun _ => ?_) | refine gL ?_ | refine gX ?_ | refine gO ?_ | refine gN ?_ | refine gM ?_ | refine gY ?_ | refine bytG_of (biA j) (fun i hi => by match i, hi with | 0, _ => rfl | 1, _ => rfl | 2, _ => rfl | 3, _ => rfl | 4, _ => rfl) ?_ | refine loS_u 6 (by omega) ?_ | refine call_pure (k35 1 (by decide)) ?_ | refine call_pure (k35 2 (by decide)) ?_ | refine call_pure (k35 3 (by decide)) ?_ | refine call_pure (k35 4 (by decide)) ?_ | refine kyS_of (en (xA 5 j)) (keyS _ rfl) (kvS_en _) ?_ | intro _)
      conv => whnf
      exact ⟨32 - (j + 1) + 1, [(0, .int .i64 (Int.ofNat 5)), (3, .mpv 0 bm), (4, .int .i64 (Int.ofNat (j + 1)))], [(0, .mp bm kvS (FX (xA 5) (j + 1)))], (addL (1000 * (32 - (j + 1)) + R) 900), 10, by omega, ⟨eqF_rfl _, eqF_rfl _, ⟨congrArg (Value.int .i64) (smn (i := j + 1) (by omega)), rfl⟩, trivial⟩, by rw [← hup]; exact WS, nM1, j + 1, kvS, by omega, fun _ => rfl, rfl, rfl, rfl, rfl, rfl⟩
  · have e2 : j = 32 := by omega
    subst e2
    have d1 : iLt (Int.ofNat 32) (shlV .i64 1 5) = false := iLt_f (b := 32) (Nat.le_refl _)
    repeat' ((conv => whnf); first | refine eqS_rfl ?_ | refine eqA_rfl ?_ | refine eqA_of (by assumption) ?_ | refine eqS_of (by rfl) ?_ | refine eqL_rfl ?_ | refine eqJ_rfl ?_ | refine gE ?_ | refine seS_rfl ?_ | refine lsS_of hup ?_ | refine lsS_rfl ?_ | refine brS_tt ?_ | refine brS_ff ?_ | refine brS_not ?_ | refine gI ?_ | refine gT ?_ | refine gF ?_ | refine brS_intro (fun _ => ?_) (fun _ => ?_) | refine gL ?_ | refine gX ?_ | refine gO ?_ | refine gN ?_ | refine lnS_of (LX (xA 5) 32).length LX_len ?_ | intro _)
    conv => whnf
    exact ⟨rfl, nM1⟩
end Go.Proofs.Ytfcgfnlifdjfjaa
namespace Go.Proofs.Ytfcgfnlifdjfjaa
open Go.Ab
attribute [local irreducible] aggOk drwOK
set_option maxRecDepth 100000
set_option maxHeartbeats 4000000
set_option linter.unusedVariables false
set_option linter.unusedSimpArgs false
theorem c38_6 (F d : Nat) (hF : 600 < F) : ReadC (CL F (d + 2)) 38 [.int .i64 (Int.ofNat 6)] [] (600000 + 1000) (.int .i64 (Int.ofNat (LX (xA 6) 64).length)) := by
  intro R
  rw [show 600000 + 1000 = (600000) + 1000 from rfl, addL_eq, ← Nat.add_assoc, ← addL_eq _ 1000, Nat.add_comm R (600000)]
  have k35 := fun j k (hk : k ≤ 6) => c35 F d (oA 6 j) (by rw [oA_size]; omega) k (by rw [oA_size]; exact hk)
  refine call_in (n := 50) Try.func38 rfl rfl rfl rfl rfl rfl rfl ?_
  repeat' ((conv => whnf); first | refine eqS_rfl ?_ | refine eqA_rfl ?_ | refine eqA_of (by assumption) ?_ | refine eqS_of (by rfl) ?_ | refine eqL_rfl ?_ | refine eqJ_rfl ?_ | refine gE ?_ | refine seS_rfl ?_ | refine lsS_of hup ?_ | refine lsS_rfl ?_ | refine brS_tt ?_ | refine brS_ff ?_ | refine brS_not ?_ | refine gI ?_ | refine gT ?_ | refine gF ?_ | refine brS_intro (fun _ => ?_) (fun _ => ?_) | refine gL ?_ | refine gX ?_ | refine gO ?_ | refine gN ?_ | intro _)
  rename_i bm
  conv => whnf
  refine loS_i (fun jj f mm R' ni => ∃ (j : Nat) (kv : Nat → SV), j ≤ 64 ∧ (j ≠ 0 → kv = kvS) ∧ jj = 64 - j + 1 ∧ f = [(0, .int .i64 (Int.ofNat 6)), (3, .mpv 0 bm), (4, .int .i64 (Int.ofNat j))] ∧ mm = [(0, .mp bm kv (FX (xA 6) j))] ∧ R' = (addL (1000 * (64 - j) + R) 900) ∧ ni = 10) (64 + 1) (by omega)
    ⟨[(0, .int .i64 (Int.ofNat 6)), (3, .mpv 0 bm), (4, .int .i64 (Int.ofNat 0))], [(0, .mp bm jkM noM)], (addL (1000 * (64 - 0) + R) 900), 10, ⟨eqF_rfl _, eqF_rfl _, eqF_rfl _, trivial⟩, WS, nM1, 0, jkM, by omega, fun h => absurd rfl h, by omega, rfl, rfl, rfl, rfl⟩ ?_
  rintro _ _ _ _ _ ⟨j, kv, hj, hkv, rfl, rfl, rfl, rfl, rfl⟩
  by_cases hlt : j < 64
  · have d1 : iLt (Int.ofNat j) (shlV .i64 1 6) = true := iLt_t (b := 64) hlt
    have hb : 1000 * (64 - j) = 1000 * (64 - (j + 1)) + 1000 := by omega
    have hup := FX_upd (xA 6) j
    rcases Nat.eq_zero_or_pos j with rfl | hj0
    · have k35 := k35 0
      repeat' ((conv => whnf); first | refine eqS_rfl ?_ | refine eqA_rfl ?_ | refine eqA_of (by assumption) ?_ | refine eqS_of (by rfl) ?_ | refine eqL_rfl ?_ | refine eqJ_rfl ?_ | refine gE ?_ | refine seS_rfl ?_ | refine lsS_of hup ?_ | refine lsS_rfl ?_ | refine brS_tt ?_ | refine brS_ff ?_ | refine brS_not ?_ | refine gI ?_ | refine gT ?_ | refine gF ?_ | refine brS_intro (fun _ => ?_) (fun _ => ?_) | refine gL ?_ | refine gX ?_ | refine gO ?_ | refine gN ?_ | refine gM ?_ | refine gY ?_ | refine bytG_of (biA 0) (fun i hi => by match i, hi with | 0, _ => rfl | 1, _ => rfl | 2, _ => rfl | 3, _ => rfl | 4, _ => rfl | 5, _ => rfl) ?_ | refine loS_u 7 (by omega) ?_ | refine call_pure (k35 1 (by decide)) ?_ | refine call_pure (k35 2 (by decide)) ?_ | refine call_pure (k35 3 (by decide)) ?_ | refine call_pure (k35 4 (by decide)) ?_ | refine call_pure (k35 5 (by decide)) ?_ | refine kyS_new kvS (en (xA 6 0)) (fun _ => rfl) (keyS _ rfl) (kvS_en _) ?_ | intro _)
      conv => whnf
      have hup0 : updM (fun x => none) (en (xA 6 0)) (.bool true) = FX (xA 6) (0 + 1) := FX_upd (xA 6) 0
      exact ⟨64 - (0 + 1) + 1, [(0, .int .i64 (Int.ofNat 6)), (3, .mpv 0 bm), (4, .int .i64 (Int.ofNat (0 + 1)))], [(0, .mp bm kvS (FX (xA 6) (0 + 1)))], (addL (1000 * (64 - (0 + 1)) + R) 900), 10, by omega, ⟨eqF_rfl _, eqF_rfl _, ⟨congrArg (Value.int .i64) (smn (i := 0 + 1) (by omega)), rfl⟩, trivial⟩, by rw [← hup0]; exact WS, nM1, 0 + 1, kvS, by omega, fun _ => rfl, rfl, rfl, rfl, rfl, rfl⟩
    · have e := hkv (by omega)
      subst e
      have k35 := k35 j
      repeat' ((conv => whnf); first | refine eqS_rfl ?_ | refine eqA_rfl ?_ | refine eqA_of (by assumption) ?_ | refine eqS_of (by rfl) ?_ | refine eqL_rfl ?_ | refine eqJ_rfl ?_ | refine gE ?_ | refine seS_rfl ?_ | refine lsS_of hup ?_ | refine lsS_rfl ?_ | refine brS_tt ?_ | refine brS_ff ?_ | refine brS_not ?_ | refine gI ?_ | refine gT ?_ | refine gF ?_ | refine brS_intro (fun _ => ?_) (fun _ => ?_) | refine gL ?_ | refine gX ?_ | refine gO ?_ | refine gN ?_ | refine gM ?_ | refine gY ?_ | refine bytG_of (biA j) (fun i hi => by match i, hi with | 0, _ => rfl | 1, _ => rfl | 2, _ => rfl | 3, _ => rfl | 4, _ => rfl | 5, _ => rfl) ?_ | refine loS_u 7 (by omega) ?_ | refine call_pure (k35 1 (by decide)) ?_ | refine call_pure (k35 2 (by decide)) ?_ | refine call_pure (k35 3 (by decide)) ?_ | refine call_pure (k35 4 (by decide)) ?_ | refine call_pure (k35 5 (by decide)) ?_ | refine kyS_of (en (xA 6 j)) (keyS _ rfl) (kvS_en _) ?_ | intro _)
      conv => whnf
      exact ⟨64 - (j + 1) + 1, [(0, .int .i64 (Int.ofNat 6)), (3, .mpv 0 bm), (4, .int .i64 (Int.ofNat (j + 1)))], [(0, .mp bm kvS (FX (xA 6) (j + 1)))], (addL (1000 * (64 - (j + 1)) + R) 900), 10, by omega, ⟨eqF_rfl _, eqF_rfl _, ⟨congrArg (Value.int .i64) (smn (i := j + 1) (by omega)), rfl⟩, trivial⟩, by rw [← hup]; exact WS, nM1, j + 1, kvS, by omega, fun _ => rfl, rfl, rfl, rfl, rfl, rfl⟩
  · have e2 : j = 64 := by omega
    subst e2
    have d1 : iLt (Int.ofNat 64) (shlV .i64 1 6) = false := iLt_f (b := 64) (Nat.le_refl _)
    repeat' ((conv => whnf); first | refine eqS_rfl ?_ | refine eqA_rfl ?_ | refine eqA_of (by assumption) ?_ | refine eqS_of (by rfl) ?_ | refine eqL_rfl ?_ | refine eqJ_rfl ?_ | refine gE ?_ | refine seS_rfl ?_ | refine lsS_of hup ?_ | refine lsS_rfl ?_ | refine brS_tt ?_ | refine brS_ff ?_ | refine brS_not ?_ | refine gI ?_ | refine gT ?_ | refine gF ?_ | refine brS_intro (fun _ => ?_) (fun _ => ?_) | refine gL ?_ | refine gX ?_ | refine gO ?_ | refine gN ?_ | refine lnS_of (LX (xA 6) 64).length LX_len ?_ | intro _)
    conv => whnf
    exact ⟨rfl, nM1⟩
end Go.Proofs.Ytfcgfnlifdjfjaa
namespace Go.Proofs.Ytfcgfnlifdjfjaa
open Go.Ab
attribute [local irreducible] aggOk drwOK
set_option maxRecDepth 100000
set_option maxHeartbeats 4000000
set_option linter.unusedVariables false
set_option linter.unusedSimpArgs false
theorem c38_7 (F d : Nat) (hF : 600 < F) : ReadC (CL F (d + 2)) 38 [.int .i64 (Int.ofNat 7)] [] (600000 + 1000) (.int .i64 (Int.ofNat (LX (xA 7) 128).length)) := by
  intro R
  rw [show 600000 + 1000 = (600000) + 1000 from rfl, addL_eq, ← Nat.add_assoc, ← addL_eq _ 1000, Nat.add_comm R (600000)]
  have k35 := fun j k (hk : k ≤ 7) => c35 F d (oA 7 j) (by rw [oA_size]; omega) k (by rw [oA_size]; exact hk)
  refine call_in (n := 50) Try.func38 rfl rfl rfl rfl rfl rfl rfl ?_
  repeat' ((conv => whnf); first | refine eqS_rfl ?_ | refine eqA_rfl ?_ | refine eqA_of (by assumption) ?_ | refine eqS_of (by rfl) ?_ | refine eqL_rfl ?_ | refine eqJ_rfl ?_ | refine gE ?_ | refine seS_rfl ?_ | refine lsS_of hup ?_ | refine lsS_rfl ?_ | refine brS_tt ?_ | refine brS_ff ?_ | refine brS_not ?_ | refine gI ?_ | refine gT ?_ | refine gF ?_ | refine brS_intro (fun _ => ?_) (fun _ => ?_) | refine gL ?_ | refine gX ?_ | refine gO ?_ | refine gN ?_ | intro _)
  rename_i bm
  conv => whnf
  refine loS_i (fun jj f mm R' ni => ∃ (j : Nat) (kv : Nat → SV), j ≤ 128 ∧ (j ≠ 0 → kv = kvS) ∧ jj = 128 - j + 1 ∧ f = [(0, .int .i64 (Int.ofNat 7)), (3, .mpv 0 bm), (4, .int .i64 (Int.ofNat j))] ∧ mm = [(0, .mp bm kv (FX (xA 7) j))] ∧ R' = (addL (1000 * (128 - j) + R) 900) ∧ ni = 10) (128 + 1) (by omega)
    ⟨[(0, .int .i64 (Int.ofNat 7)), (3, .mpv 0 bm), (4, .int .i64 (Int.ofNat 0))], [(0, .mp bm jkM noM)], (addL (1000 * (128 - 0) + R) 900), 10, ⟨eqF_rfl _, eqF_rfl _, eqF_rfl _, trivial⟩, WS, nM1, 0, jkM, by omega, fun h => absurd rfl h, by omega, rfl, rfl, rfl, rfl⟩ ?_
  rintro _ _ _ _ _ ⟨j, kv, hj, hkv, rfl, rfl, rfl, rfl, rfl⟩
  by_cases hlt : j < 128
  · have d1 : iLt (Int.ofNat j) (shlV .i64 1 7) = true := iLt_t (b := 128) hlt
    have hb : 1000 * (128 - j) = 1000 * (128 - (j + 1)) + 1000 := by omega
    have hup := FX_upd (xA 7) j
    rcases Nat.eq_zero_or_pos j with rfl | hj0
    · have k35 := k35 0
      repeat' ((conv => whnf); first | refine eqS_rfl ?_ | refine eqA_rfl ?_ | refine eqA_of (by assumption) ?_ | refine eqS_of (by rfl) ?_ | refine eqL_rfl ?_ | refine eqJ_rfl ?_ | refine gE ?_ | refine seS_rfl ?_ | refine lsS_of hup ?_ | refine lsS_rfl ?_ | refine brS_tt ?_ | refine brS_ff ?_ | refine brS_not ?_ | refine gI ?_ | refine gT ?_ | refine gF ?_ | refine brS_intro (fun _ => ?_) (fun _ => ?_) | refine gL ?_ | refine gX ?_ | refine gO ?_ | refine gN ?_ | refine gM ?_ | refine gY ?_ | refine bytG_of (biA 0) (fun i hi => by match i, hi with | 0, _ => rfl | 1, _ => rfl | 2, _ => rfl | 3, _ => rfl | 4, _ => rfl | 5, _ => rfl | 6, _ => rfl) ?_ | refine loS_u 8 (by omega) ?_ | refine call_pure (k35 1 (by decide)) ?_ | refine call_pure (k35 2 (by decide)) ?_ | refine call_pure (k35 3 (by decide)) ?_ | refine call_pure (k35 4 (by decide)) ?_ | refine call_pure (k35 5 (by decide)) ?_ | refine call_pure (k35 6 (by decide)) ?_ | refine kyS_new kvS (en (xA 7 0)) (fun _ => rfl) (keyS _ rfl) (kvS_en _) ?_ | intro _)
      conv => whnf
      have hup0 : updM (fun x => none) (en (xA 7 0)) (.bool true) = FX (xA 7) (0 + 1) := FX_upd (xA 7) 0
      exact ⟨128 - (0 + 1) + 1, [(0, .int .i64 (Int.ofNat 7)), (3, .mpv 0 bm), (4, .int .i64 (Int.ofNat (0 + 1)))], [(0, .mp bm kvS (FX (xA 7) (0 + 1)))], (addL (1000 * (128 - (0 + 1)) + R) 900), 10, by omega, ⟨eqF_rfl _, eqF_rfl _, ⟨congrArg (Value.int .i64) (smn (i := 0 + 1) (by omega)), rfl⟩, trivial⟩, by rw [← hup0]; exact WS, nM1, 0 + 1, kvS, by omega, fun _ => rfl, rfl, rfl, rfl, rfl, rfl⟩
    · have e := hkv (by omega)
      subst e
      have k35 := k35 j
      repeat' ((conv => whnf); first | refine eqS_rfl ?_ | refine eqA_rfl ?_ | refine eqA_of (by assumption) ?_ | refine eqS_of (by rfl) ?_ | refine eqL_rfl ?_ | refine eqJ_rfl ?_ | refine gE ?_ | refine seS_rfl ?_ | refine lsS_of hup ?_ | refine lsS_rfl ?_ | refine brS_tt ?_ | refine brS_ff ?_ | refine brS_not ?_ | refine gI ?_ | refine gT ?_ | refine gF ?_ | refine brS_intro (fun _ => ?_) (fun _ => ?_) | refine gL ?_ | refine gX ?_ | refine gO ?_ | refine gN ?_ | refine gM ?_ | refine gY ?_ | refine bytG_of (biA j) (fun i hi => by match i, hi with | 0, _ => rfl | 1, _ => rfl | 2, _ => rfl | 3, _ => rfl | 4, _ => rfl | 5, _ => rfl | 6, _ => rfl) ?_ | refine loS_u 8 (by omega) ?_ | refine call_pure (k35 1 (by decide)) ?_ | refine call_pure (k35 2 (by decide)) ?_ | refine call_pure (k35 3 (by decide)) ?_ | refine call_pure (k35 4 (by decide)) ?_ | refine call_pure (k35 5 (by decide)) ?_ | refine call_pure (k35 6 (by decide)) ?_ | refine kyS_of (en (xA 7 j)) (keyS _ rfl) (kvS_en _) ?_ | intro _)
      conv => whnf
      exact ⟨128 - (j + 1) + 1, [(0, .int .i64 (Int.ofNat 7)), (3, .mpv 0 bm), (4, .int .i64 (Int.ofNat (j + 1)))], [(0, .mp bm kvS (FX (xA 7) (j + 1)))], (addL (1000 * (128 - (j + 1)) + R) 900), 10, by omega, ⟨eqF_rfl _, eqF_rfl _, ⟨congrArg (Value.int .i64) (smn (i := j + 1) (by omega)), rfl⟩, trivial⟩, by rw [← hup]; exact WS, nM1, j + 1, kvS, by omega, fun _ => rfl, rfl, rfl, rfl, rfl, rfl⟩
  · have e2 : j = 128 := by omega
    subst e2
    have d1 : iLt (Int.ofNat 128) (shlV .i64 1 7) = false := iLt_f (b := 128) (Nat.le_refl _)
    repeat' ((conv => whnf); first | refine eqS_rfl ?_ | refine eqA_rfl ?_ | refine eqA_of (by assumption) ?_ | refine eqS_of (by rfl) ?_ | refine eqL_rfl ?_ | refine eqJ_rfl ?_ | refine gE ?_ | refine seS_rfl ?_ | refine lsS_of hup ?_ | refine lsS_rfl ?_ | refine brS_tt ?_ | refine brS_ff ?_ | refine brS_not ?_ | refine gI ?_ | refine gT ?_ | refine gF ?_ | refine brS_intro (fun _ => ?_) (fun _ => ?_) | refine gL ?_ | refine gX ?_ | refine gO ?_ | refine gN ?_ | refine lnS_of (LX (xA 7) 128).length LX_len ?_ | intro _)
    conv => whnf
    exact ⟨rfl, nM1⟩
end Go.Proofs.Ytfcgfnlifdjfjaa
namespace Go.Proofs.Ytfcgfnlifdjfjaa
open Go.Ab
attribute [local irreducible] aggOk drwOK
set_option maxRecDepth 100000
set_option maxHeartbeats 4000000
set_option linter.unusedVariables false
set_option linter.unusedSimpArgs false
theorem c38_8 (F d : Nat) (hF : 600 < F) : ReadC (CL F (d + 2)) 38 [.int .i64 (Int.ofNat 8)] [] (600000 + 1000) (.int .i64 (Int.ofNat (LX (xA 8) 256).length)) := by
  intro R
  rw [show 600000 + 1000 = (600000) + 1000 from rfl, addL_eq, ← Nat.add_assoc, ← addL_eq _ 1000, Nat.add_comm R (600000)]
  have k35 := fun j k (hk : k ≤ 8) => c35 F d (oA 8 j) (by rw [oA_size]; omega) k (by rw [oA_size]; exact hk)
  refine call_in (n := 50) Try.func38 rfl rfl rfl rfl rfl rfl rfl ?_
  repeat' ((conv => whnf); first | refine eqS_rfl ?_ | refine eqA_rfl ?_ | refine eqA_of (by assumption) ?_ | refine eqS_of (by rfl) ?_ | refine eqL_rfl ?_ | refine eqJ_rfl ?_ | refine gE ?_ | refine seS_rfl ?_ | refine lsS_of hup ?_ | refine lsS_rfl ?_ | refine brS_tt ?_ | refine brS_ff ?_ | refine brS_not ?_ | refine gI ?_ | refine gT ?_ | refine gF ?_ | refine brS_intro (fun _ => ?_) (fun _ => ?_) | refine gL ?_ | refine gX ?_ | refine gO ?_ | refine gN ?_ | intro _)
  rename_i bm
  conv => whnf
  refine loS_i (fun jj f mm R' ni => ∃ (j : Nat) (kv : Nat → SV), j ≤ 256 ∧ (j ≠ 0 → kv = kvS) ∧ jj = 256 - j + 1 ∧ f = [(0, .int .i64 (Int.ofNat 8)), (3, .mpv 0 bm), (4, .int .i64 (Int.ofNat j))] ∧ mm = [(0, .mp bm kv (FX (xA 8) j))] ∧ R' = (addL (1000 * (256 - j) + R) 900) ∧ ni = 10) (256 + 1) (by omega)
    ⟨[(0, .int .i64 (Int.ofNat 8)), (3, .mpv 0 bm), (4, .int .i64 (Int.ofNat 0))], [(0, .mp bm jkM noM)], (addL (1000 * (256 - 0) + R) 900), 10, ⟨eqF_rfl _, eqF_rfl _, eqF_rfl _, trivial⟩, WS, nM1, 0, jkM, by omega, fun h => absurd rfl h, by omega, rfl, rfl, rfl, rfl⟩ ?_
  rintro _ _ _ _ _ ⟨j, kv, hj, hkv, rfl, rfl, rfl, rfl, rfl⟩
  by_cases hlt : j < 256
  · have d1 : iLt (Int.ofNat j) (shlV .i64 1 8) = true := iLt_t (b := 256) hlt
    have hb : 1000 * (256 - j) = 1000 * (256 - (j + 1)) + 1000 := by omega
    have hup := FX_upd (xA 8) j
    rcases Nat.eq_zero_or_pos j with rfl | hj0
    · have k35 := k35 0
      repeat' ((conv => whnf); first | refine eqS_rfl ?_ | refine eqA_rfl ?_ | refine eqA_of (by assumption) ?_ | refine eqS_of (by rfl) ?_ | refine eqL_rfl ?_ | refine eqJ_rfl ?_ | refine gE ?_ | refine seS_rfl ?_ | refine lsS_of hup ?_ | refine lsS_rfl ?_ | refine brS_tt ?_ | refine brS_ff ?_ | refine brS_not ?_ | refine gI ?_ | refine gT ?_ | refine gF ?_ | refine brS_intro (fun _ => ?_) (fun _ => ?_) | refine gL ?_ | refine gX ?_ | refine gO ?_ | refine gN ?_ | refine gM ?_ | refine gY ?_ | refine bytG_of (biA 0) (fun i hi => by match i, hi with | 0, _ => rfl | 1, _ => rfl | 2, _ => rfl | 3, _ => rfl | 4, _ => rfl | 5, _ => rfl | 6, _ => rfl | 7, _ => rfl) ?_ | refine loS_u 9 (by omega) ?_ | refine call_pure (k35 1 (by decide)) ?_ | refine call_pure (k35 2 (by decide)) ?_ | refine call_pure (k35 3 (by decide)) ?_ | refine call_pure (k35 4 (by decide)) ?_ | refine call_pure (k35 5 (by decide)) ?_ | refine call_pure (k35 6 (by decide)) ?_ | refine call_pure (k35 7 (by decide)) ?_ | refine kyS_new kvS (en (xA 8 0)) (fun _ => rfl) (keyS _ rfl) (kvS_en _) ?_ | intro _)
      conv => whnf
      have hup0 : updM (fun x => none) (en (xA 8 0)) (.bool true) = FX (xA 8) (0 + 1) := FX_upd (xA 8) 0
      exact ⟨256 - (0 + 1) + 1, [(0, .int .i64 (Int.ofNat 8)), (3, .mpv 0 bm), (4, .int .i64 (Int.ofNat (0 + 1)))], [(0, .mp bm kvS (FX (xA 8) (0 + 1)))], (addL (1000 * (256 - (0 + 1)) + R) 900), 10, by omega, ⟨eqF_rfl _, eqF_rfl _, ⟨congrArg (Value.int .i64) (smn (i := 0 + 1) (by omega)), rfl⟩, trivial⟩, by rw [← hup0]; exact WS, nM1, 0 + 1, kvS, by omega, fun _ => rfl, rfl, rfl, rfl, rfl, rfl⟩
    · have e := hkv (by omega)
      subst e
      have k35 := k35 j
      repeat' ((conv => whnf); first | refine eqS_rfl ?_ | refine eqA_rfl ?_ | refine eqA_of (by assumption) ?_ | refine eqS_of (by rfl) ?_ | refine eqL_rfl ?_ | refine eqJ_rfl ?_ | refine gE ?_ | refine seS_rfl ?_ | refine lsS_of hup ?_ | refine lsS_rfl ?_ | refine brS_tt ?_ | refine brS_ff ?_ | refine brS_not ?_ | refine gI ?_ | refine gT ?_ | refine gF ?_ | refine brS_intro (fun _ => ?_) (fun _ => ?_) | refine gL ?_ | refine gX ?_ | refine gO ?_ | refine gN ?_ | refine gM ?_ | refine gY ?_ | refine bytG_of (biA j) (fun i hi => by match i, hi with | 0, _ => rfl | 1, _ => rfl | 2, _ => rfl | 3, _ => rfl | 4, _ => rfl | 5, _ => rfl | 6, _ => rfl | 7, _ => rfl) ?_ | refine loS_u 9 (by omega) ?_ | refine call_pure (k35 1 (by decide)) ?_ | refine call_pure (k35 2 (by decide)) ?_ | refine call_pure (k35 3 (by decide)) ?_ | refine call_pure (k35 4 (by decide)) ?_ | refine call_pure (k35 5 (by decide)) ?_ | refine call_pure (k35 6 (by decide)) ?_ | refine call_pure (k35 7 (by decide)) ?_ | refine kyS_of (en (xA 8 j)) (keyS _ rfl) (kvS_en _) ?_ | intro _)
      conv => whnf
      exact ⟨256 - (j + 1) + 1, [(0, .int .i64 (Int.ofNat 8)), (3, .mpv 0 bm), (4, .int .i64 (Int.ofNat (j + 1)))], [(0, .mp bm kvS (FX (xA 8) (j + 1)))], (addL (1000 * (256 - (j + 1)) + R) 900), 10, by omega, ⟨eqF_rfl _, eqF_rfl _, ⟨congrArg (Value.int .i64) (smn (i := j + 1) (by omega)), rfl⟩, trivial⟩, by rw [← hup]; exact WS, nM1, j + 1, kvS, by omega, fun _ => rfl, rfl, rfl, rfl, rfl, rfl⟩
  · have e2 : j = 256 := by omega
    subst e2
    have d1 : iLt (Int.ofNat 256) (shlV .i64 1 8) = false := iLt_f (b := 256) (Nat.le_refl _)
    repeat' ((conv => whnf); first | refine eqS_rfl ?_ | refine eqA_rfl ?_ | refine eqA_of (by assumption) ?_ | refine eqS_of (by rfl) ?_ | refine eqL_rfl ?_ | refine eqJ_rfl ?_ | refine gE ?_ | refine seS_rfl ?_ | refine lsS_of hup ?_ | refine lsS_rfl ?_ | refine brS_tt ?_ | refine brS_ff ?_ | refine brS_not ?_ | refine gI ?_ | refine gT ?_ | refine gF ?_ | refine brS_intro (fun _ => ?_) (fun _ => ?_) | refine gL ?_ | refine gX ?_ | refine gO ?_ | refine gN ?_ | refine lnS_of (LX (xA 8) 256).length LX_len ?_ | intro _)
    conv => whnf
    exact ⟨rfl, nM1⟩
end Go.Proofs.Ytfcgfnlifdjfjaa
namespace Go.Proofs.Ytfcgfnlifdjfjaa
open Go.Ab
attribute [local irreducible] aggOk drwOK
set_option maxRecDepth 100000
set_option maxHeartbeats 4000000
set_option linter.unusedVariables false
set_option linter.unusedSimpArgs false
theorem c38_9 (F d : Nat) (hF : 600 < F) : ReadC (CL F (d + 2)) 38 [.int .i64 (Int.ofNat 9)] [] (600000 + 1000) (.int .i64 (Int.ofNat (LX (xA 9) 512).length)) := by
  intro R
  rw [show 600000 + 1000 = (600000) + 1000 from rfl, addL_eq, ← Nat.add_assoc, ← addL_eq _ 1000, Nat.add_comm R (600000)]
  have k35 := fun j k (hk : k ≤ 9) => c35 F d (oA 9 j) (by rw [oA_size]; omega) k (by rw [oA_size]; exact hk)
  refine call_in (n := 50) Try.func38 rfl rfl rfl rfl rfl rfl rfl ?_
  repeat' ((conv => whnf); first | refine eqS_rfl ?_ | refine eqA_rfl ?_ | refine eqA_of (by assumption) ?_ | refine eqS_of (by rfl) ?_ | refine eqL_rfl ?_ | refine eqJ_rfl ?_ | refine gE ?_ | refine seS_rfl ?_ | refine lsS_of hup ?_ | refine lsS_rfl ?_ | refine brS_tt ?_ | refine brS_ff ?_ | refine brS_not ?_ | refine gI ?_ | refine gT ?_ | refine gF ?_ | refine brS_intro (fun _ => ?_) (fun _ => ?_) | refine gL ?_ | refine gX ?_ | refine gO ?_ | refine gN ?_ | intro _)
  rename_i bm
  conv => whnf
  refine loS_i (fun jj f mm R' ni => ∃ (j : Nat) (kv : Nat → SV), j ≤ 512 ∧ (j ≠ 0 → kv = kvS) ∧ jj = 512 - j + 1 ∧ f = [(0, .int .i64 (Int.ofNat 9)), (3, .mpv 0 bm), (4, .int .i64 (Int.ofNat j))] ∧ mm = [(0, .mp bm kv (FX (xA 9) j))] ∧ R' = (addL (1000 * (512 - j) + R) 900) ∧ ni = 10) (512 + 1) (by omega)
    ⟨[(0, .int .i64 (Int.ofNat 9)), (3, .mpv 0 bm), (4, .int .i64 (Int.ofNat 0))], [(0, .mp bm jkM noM)], (addL (1000 * (512 - 0) + R) 900), 10, ⟨eqF_rfl _, eqF_rfl _, eqF_rfl _, trivial⟩, WS, nM1, 0, jkM, by omega, fun h => absurd rfl h, by omega, rfl, rfl, rfl, rfl⟩ ?_
  rintro _ _ _ _ _ ⟨j, kv, hj, hkv, rfl, rfl, rfl, rfl, rfl⟩
  by_cases hlt : j < 512
  · have d1 : iLt (Int.ofNat j) (shlV .i64 1 9) = true := iLt_t (b := 512) hlt
    have hb : 1000 * (512 - j) = 1000 * (512 - (j + 1)) + 1000 := by omega
    have hup := FX_upd (xA 9) j
    rcases Nat.eq_zero_or_pos j with rfl | hj0
    · have k35 := k35 0
      repeat' ((conv => whnf); first | refine eqS_rfl ?_ | refine eqA_rfl ?_ | refine eqA_of (by assumption) ?_ | refine eqS_of (by rfl) ?_ | refine eqL_rfl ?_ | refine eqJ_rfl ?_ | refine gE ?_ | refine seS_rfl ?_ | refine lsS_of hup ?_ | refine lsS_rfl ?_ | refine brS_tt ?_ | refine brS_ff ?_ | refine brS_not ?_ | refine gI ?_ | refine gT ?_ | refine gF ?_ | refine brS_intro (fun _ => ?_) (fun _ => ?_) | refine gL ?_ | refine gX ?_ | refine gO ?_ | refine gN ?_ | refine gM ?_ | refine gY ?_ | refine bytG_of (biA 0) (fun i hi => by match i, hi with | 0, _ => rfl | 1, _ => rfl | 2, _ => rfl | 3, _ => rfl | 4, _ => rfl | 5, _ => rfl | 6, _ => rfl | 7, _ => rfl | 8, _ => rfl) ?_ | refine loS_u 10 (by omega) ?_ | refine call_pure (k35 1 (by decide)) ?_ | refine call_pure (k35 2 (by decide)) ?_ | refine call_pure (k35 3 (by decide)) ?_ | refine call_pure (k35 4 (by decide)) ?_ | refine call_pure (k35 5 (by decide)) ?_ | refine call_pure (k35 6 (by decide)) ?_ | refine call_pure (k35 7 (by decide)) ?_ | refine call_pure (k35 8 (by decide)) ?_ | refine kyS_new kvS (en (xA 9 0)) (fun _ => rfl) (keyS _ rfl) (kvS_en _) ?_ | intro _)
      conv => whnf
      have hup0 : updM (fun x => none) (en (xA 9 0)) (.bool true) = FX (xA 9) (0 + 1) := FX_upd (xA 9) 0
      exact ⟨512 - (0 + 1) + 1, [(0, .int .i64 (Int.ofNat 9)), (3, .mpv 0 bm), (4, .int .i64 (Int.ofNat (0 + 1)))], [(0, .mp bm kvS (FX (xA 9) (0 + 1)))], (addL (1000 * (512 - (0 + 1)) + R) 900), 10, by omega, ⟨eqF_rfl _, eqF_rfl _, ⟨congrArg (Value.int .i64) (smn (i := 0 + 1) (by omega)), rfl⟩, trivial⟩, by rw [← hup0]; exact WS, nM1, 0 + 1, kvS, by omega, fun _ => rfl, rfl, rfl, rfl, rfl, rfl⟩
    · have e := hkv (by omega)
      subst e
      have k35 := k35 j
      repeat' ((conv => whnf); first | refine eqS_rfl ?_ | refine eqA_rfl ?_ | refine eqA_of (by assumption) ?_ | refine eqS_of (by rfl) ?_ | refine eqL_rfl ?_ | refine eqJ_rfl ?_ | refine gE ?_ | refine seS_rfl ?_ | refine lsS_of hup ?_ | refine lsS_rfl ?_ | refine brS_tt ?_ | refine brS_ff ?_ | refine brS_not ?_ | refine gI ?_ | refine gT ?_ | refine gF ?_ | refine brS_intro (fun _ => ?_) (fun _ => ?_) | refine gL ?_ | refine gX ?_ | refine gO ?_ | refine gN ?_ | refine gM ?_ | refine gY ?_ | refine bytG_of (biA j) (fun i hi => by match i, hi with | 0, _ => rfl | 1, _ => rfl | 2, _ => rfl | 3, _ => rfl | 4, _ => rfl | 5, _ => rfl | 6, _ => rfl | 7, _ => rfl | 8, _ => rfl) ?_ | refine loS_u 10 (by omega) ?_ | refine call_pure (k35 1 (by decide)) ?_ | refine call_pure (k35 2 (by decide)) ?_ | refine call_pure (k35 3 (by decide)) ?_ | refine call_pure (k35 4 (by decide)) ?_ | refine call_pure (k35 5 (by decide)) ?_ | refine call_pure (k35 6 (by decide)) ?_ | refine call_pure (k35 7 (by decide)) ?_ | refine call_pure (k35 8 (by decide)) ?_ | refine kyS_of (en (xA 9 j)) (keyS _ rfl) (kvS_en _) ?_ | intro _)
      conv => whnf
      exact ⟨512 - (j + 1) + 1, [(0, .int .i64 (Int.ofNat 9)), (3, .mpv 0 bm), (4, .int .i64 (Int.ofNat (j + 1)))], [(0, .mp bm kvS (FX (xA 9) (j + 1)))], (addL (1000 * (512 - (j + 1)) + R) 900), 10, by omega, ⟨eqF_rfl _, eqF_rfl _, ⟨congrArg (Value.int .i64) (smn (i := j + 1) (by omega)), rfl⟩, trivial⟩, by rw [← hup]; exact WS, nM1, j + 1, kvS, by omega, fun _ => rfl, rfl, rfl, rfl, rfl, rfl⟩
  · have e2 : j = 512 := by omega
    subst e2
    have d1 : iLt (Int.ofNat 512) (shlV .i64 1 9) = false := iLt_f (b := 512) (Nat.le_refl _)
    repeat' ((conv => whnf); first | refine eqS_rfl ?_ | refine eqA_rfl ?_ | refine eqA_of (by assumption) ?_ | refine eqS_of (by rfl) ?_ | refine eqL_rfl ?_ | refine eqJ_rfl ?_ | refine gE ?_ | refine seS_rfl ?_ | refine lsS_of hup ?_ | refine lsS_rfl ?_ | refine brS_tt ?_ | refine brS_ff ?_ | refine brS_not ?_ | refine gI ?_ | refine gT ?_ | refine gF ?_ | refine brS_intro (fun _ => ?_) (fun _ => ?_) | refine gL ?_ | refine gX ?_ | refine gO ?_ | refine gN ?_ | refine lnS_of (LX (xA 9) 512).length LX_len ?_ | intro _)
    conv => whnf
    exact ⟨rfl, nM1⟩
end Go.Proofs.Ytfcgfnlifdjfjaa
namespace Go.Proofs.Ytfcgfnlifdjfjaa
open Go.Ab
attribute [local irreducible] aggOk drwOK
set_option maxRecDepth 100000
set_option maxHeartbeats 4000000
set_option linter.unusedVariables false
set_option linter.unusedSimpArgs false
theorem l11_1 (F d : Nat) (hF : 600 < F) (q : Nat) (hq : q < 256) (hr : q % 9 = 0) : ReadC (CL F (d + 3)) 11 [.int .u8 (Int.ofNat q)] [] (605000 + 2000) (.bool true) := by
  intro R
  rw [show 605000 + 2000 = (605000) + 2000 from rfl, addL_eq, ← Nat.add_assoc, ← addL_eq _ 2000, Nat.add_comm R (605000)]
  have harg : dens [.int .i64 (wr .i64 (Int.add 1 (Int.tmod (wr .i64 (Int.ofNat q)) 9)))] = dens [.int .i64 (Int.ofNat 1)] := by
    rw [smn (i := q) (by omega), show Int.tmod (Int.ofNat q) 9 = Int.ofNat (q % 9) from rfl, hr]
    rfl
  have k38 := c38_1 F d hF
  rw [cnt_1] at k38
  refine call_in (n := 26) Try.func11 rfl rfl rfl rfl rfl rfl rfl ?_
  repeat' ((conv => whnf); first | refine eqS_rfl ?_ | refine eqA_rfl ?_ | refine eqA_of (by assumption) ?_ | refine eqS_of (by rfl) ?_ | refine eqL_rfl ?_ | refine eqJ_rfl ?_ | refine gE ?_ | refine seS_rfl ?_ | refine lsS_of hup ?_ | refine lsS_rfl ?_ | refine brS_tt ?_ | refine brS_ff ?_ | refine brS_not ?_ | refine gI ?_ | refine gT ?_ | refine gF ?_ | refine brS_intro (fun _ => ?_) (fun _ => ?_) | refine gL ?_ | refine gX ?_ | refine gO ?_ | refine gN ?_ | refine callS.cast (fv' := .fn 31 [] []) (args' := [.int .i64 (Int.ofNat 1)]) rfl harg (call_pure (c31_1 F d hF) ?_) | refine callS.cast (fv' := .fn 38 [] []) (args' := [.int .i64 (Int.ofNat 1)]) rfl harg (call_readL k38 (addL R 300) (by rfl) (SeesM.nil _) (nM1) ?_) | refine call_w rfl ?_ | intro _)
  conv => whnf
  exact ⟨rfl, nM1⟩

theorem l11_2 (F d : Nat) (hF : 600 < F) (q : Nat) (hq : q < 256) (hr : q % 9 = 1) : ReadC (CL F (d + 3)) 11 [.int .u8 (Int.ofNat q)] [] (605000 + 2000) (.bool true) := by
  intro R
  rw [show 605000 + 2000 = (605000) + 2000 from rfl, addL_eq, ← Nat.add_assoc, ← addL_eq _ 2000, Nat.add_comm R (605000)]
  have harg : dens [.int .i64 (wr .i64 (Int.add 1 (Int.tmod (wr .i64 (Int.ofNat q)) 9)))] = dens [.int .i64 (Int.ofNat 2)] := by
    rw [smn (i := q) (by omega), show Int.tmod (Int.ofNat q) 9 = Int.ofNat (q % 9) from rfl, hr]
    rfl
  have k38 := c38_2 F d hF
  rw [cnt_2] at k38
  refine call_in (n := 26) Try.func11 rfl rfl rfl rfl rfl rfl rfl ?_
  repeat' ((conv => whnf); first | refine eqS_rfl ?_ | refine eqA_rfl ?_ | refine eqA_of (by assumption) ?_ | refine eqS_of (by rfl) ?_ | refine eqL_rfl ?_ | refine eqJ_rfl ?_ | refine gE ?_ | refine seS_rfl ?_ | refine lsS_of hup ?_ | refine lsS_rfl ?_ | refine brS_tt ?_ | refine brS_ff ?_ | refine brS_not ?_ | refine gI ?_ | refine gT ?_ | refine gF ?_ | refine brS_intro (fun _ => ?_) (fun _ => ?_) | refine gL ?_ | refine gX ?_ | refine gO ?_ | refine gN ?_ | refine callS.cast (fv' := .fn 31 [] []) (args' := [.int .i64 (Int.ofNat 2)]) rfl harg (call_pure (c31_2 F d hF) ?_) | refine callS.cast (fv' := .fn 38 [] []) (args' := [.int .i64 (Int.ofNat 2)]) rfl harg (call_readL k38 (addL R 300) (by rfl) (SeesM.nil _) (nM1) ?_) | refine call_w rfl ?_ | intro _)
  conv => whnf
  exact ⟨rfl, nM1⟩

theorem l11_3 (F d : Nat) (hF : 600 < F) (q : Nat) (hq : q < 256) (hr : q % 9 = 2) : ReadC (CL F (d + 3)) 11 [.int .u8 (Int.ofNat q)] [] (605000 + 2000) (.bool true) := by
  intro R
  rw [show 605000 + 2000 = (605000) + 2000 from rfl, addL_eq, ← Nat.add_assoc, ← addL_eq _ 2000, Nat.add_comm R (605000)]
  have harg : dens [.int .i64 (wr .i64 (Int.add 1 (Int.tmod (wr .i64 (Int.ofNat q)) 9)))] = dens [.int .i64 (Int.ofNat 3)] := by
    rw [smn (i := q) (by omega), show Int.tmod (Int.ofNat q) 9 = Int.ofNat (q % 9) from rfl, hr]
    rfl
  have k38 := c38_3 F d hF
  rw [cnt_3] at k38
  refine call_in (n := 26) Try.func11 rfl rfl rfl rfl rfl rfl rfl ?_
  repeat' ((conv => whnf); first | refine eqS_rfl ?_ | refine eqA_rfl ?_ | refine eqA_of (by assumption) ?_ | refine eqS_of (by rfl) ?_ | refine eqL_rfl ?_ | refine eqJ_rfl ?_ | refine gE ?_ | refine seS_rfl ?_ | refine lsS_of hup ?_ | refine lsS_rfl ?_ | refine brS_tt ?_ | refine brS_ff ?_ | refine brS_not ?_ | refine gI ?_ | refine gT ?_ | refine gF ?_ | refine brS_intro (fun _ => ?_) (fun _ => ?_) | refine gL ?_ | refine gX ?_ | refine gO ?_ | refine gN ?_ | refine callS.cast (fv' := .fn 31 [] []) (args' := [.int .i64 (Int.ofNat 3)]) rfl harg (call_pure (c31_3 F d hF) ?_) | refine callS.cast (fv' := .fn 38 [] []) (args' := [.int .i64 (Int.ofNat 3)]) rfl harg (call_readL k38 (addL R 300) (by rfl) (SeesM.nil _) (nM1) ?_) | refine call_w rfl ?_ | intro _)
  conv => whnf
  exact ⟨rfl, nM1⟩

theorem l11_4 (F d : Nat) (hF : 600 < F) (q : Nat) (hq : q < 256) (hr : q % 9 = 3) : ReadC (CL F (d + 3)) 11 [.int .u8 (Int.ofNat q)] [] (605000 + 2000) (.bool true) := by
  intro R
  rw [show 605000 + 2000 = (605000) + 2000 from rfl, addL_eq, ← Nat.add_assoc, ← addL_eq _ 2000, Nat.add_comm R (605000)]
  have harg : dens [.int .i64 (wr .i64 (Int.add 1 (Int.tmod (wr .i64 (Int.ofNat q)) 9)))] = dens [.int .i64 (Int.ofNat 4)] := by
    rw [smn (i := q) (by omega), show Int.tmod (Int.ofNat q) 9 = Int.ofNat (q % 9) from rfl, hr]
    rfl
  have k38 := c38_4 F d hF
  rw [cnt_4] at k38
  refine call_in (n := 26) Try.func11 rfl rfl rfl rfl rfl rfl rfl ?_
  repeat' ((conv => whnf); first | refine eqS_rfl ?_ | refine eqA_rfl ?_ | refine eqA_of (by assumption) ?_ | refine eqS_of (by rfl) ?_ | refine eqL_rfl ?_ | refine eqJ_rfl ?_ | refine gE ?_ | refine seS_rfl ?_ | refine lsS_of hup ?_ | refine lsS_rfl ?_ | refine brS_tt ?_ | refine brS_ff ?_ | refine brS_not ?_ | refine gI ?_ | refine gT ?_ | refine gF ?_ | refine brS_intro (fun _ => ?_) (fun _ => ?_) | refine gL ?_ | refine gX ?_ | refine gO ?_ | refine gN ?_ | refine callS.cast (fv' := .fn 31 [] []) (args' := [.int .i64 (Int.ofNat 4)]) rfl harg (call_pure (c31_4 F d hF) ?_) | refine callS.cast (fv' := .fn 38 [] []) (args' := [.int .i64 (Int.ofNat 4)]) rfl harg (call_readL k38 (addL R 300) (by rfl) (SeesM.nil _) (nM1) ?_) | refine call_w rfl ?_ | intro _)
  conv => whnf
  exact ⟨rfl, nM1⟩

theorem l11_5 (F d : Nat) (hF : 600 < F) (q : Nat) (hq : q < 256) (hr : q % 9 = 4) : ReadC (CL F (d + 3)) 11 [.int .u8 (Int.ofNat q)] [] (605000 + 2000) (.bool true) := by
  intro R
  rw [show 605000 + 2000 = (605000) + 2000 from rfl, addL_eq, ← Nat.add_assoc, ← addL_eq _ 2000, Nat.add_comm R (605000)]
  have harg : dens [.int .i64 (wr .i64 (Int.add 1 (Int.tmod (wr .i64 (Int.ofNat q)) 9)))] = dens [.int .i64 (Int.ofNat 5)] := by
    rw [smn (i := q) (by omega), show Int.tmod (Int.ofNat q) 9 = Int.ofNat (q % 9) from rfl, hr]
    rfl
  have k38 := c38_5 F d hF
  rw [cnt_5] at k38
  refine call_in (n := 26) Try.func11 rfl rfl rfl rfl rfl rfl rfl ?_
  repeat' ((conv => whnf); first | refine eqS_rfl ?_ | refine eqA_rfl ?_ | refine eqA_of (by assumption) ?_ | refine eqS_of (by rfl) ?_ | refine eqL_rfl ?_ | refine eqJ_rfl ?_ | refine gE ?_ | refine seS_rfl ?_ | refine lsS_of hup ?_ | refine lsS_rfl ?_ | refine brS_tt ?_ | refine brS_ff ?_ | refine brS_not ?_ | refine gI ?_ | refine gT ?_ | refine gF ?_ | refine brS_intro (fun _ => ?_) (fun _ => ?_) | refine gL ?_ | refine gX ?_ | refine gO ?_ | refine gN ?_ | refine callS.cast (fv' := .fn 31 [] []) (args' := [.int .i64 (Int.ofNat 5)]) rfl harg (call_pure (c31_5 F d hF) ?_) | refine callS.cast (fv' := .fn 38 [] []) (args' := [.int .i64 (Int.ofNat 5)]) rfl harg (call_readL k38 (addL R 300) (by rfl) (SeesM.nil _) (nM1) ?_) | refine call_w rfl ?_ | intro _)
  conv => whnf
  exact ⟨rfl, nM1⟩

theorem l11_6 (F d : Nat) (hF : 600 < F) (q : Nat) (hq : q < 256) (hr : q % 9 = 5) : ReadC (CL F (d + 3)) 11 [.int .u8 (Int.ofNat q)] [] (605000 + 2000) (.bool true) := by
  intro R
  rw [show 605000 + 2000 = (605000) + 2000 from rfl, addL_eq, ← Nat.add_assoc, ← addL_eq _ 2000, Nat.add_comm R (605000)]
  have harg : dens [.int .i64 (wr .i64 (Int.add 1 (Int.tmod (wr .i64 (Int.ofNat q)) 9)))] = dens [.int .i64 (Int.ofNat 6)] := by
    rw [smn (i := q) (by omega), show Int.tmod (Int.ofNat q) 9 = Int.ofNat (q % 9) from rfl, hr]
    rfl
  have k38 := c38_6 F d hF
  rw [cnt_6] at k38
  refine call_in (n := 26) Try.func11 rfl rfl rfl rfl rfl rfl rfl ?_
  repeat' ((conv => whnf); first | refine eqS_rfl ?_ | refine eqA_rfl ?_ | refine eqA_of (by assumption) ?_ | refine eqS_of (by rfl) ?_ | refine eqL_rfl ?_ | refine eqJ_rfl ?_ | refine gE ?_ | refine seS_rfl ?_ | refine lsS_of hup ?_ | refine lsS_rfl ?_ | refine brS_tt ?_ | refine brS_ff ?_ | refine brS_not ?_ | refine gI ?_ | refine gT ?_ | refine gF ?_ | refine brS_intro (fun _ => ?_) (fun _ => ?_) | refine gL ?_ | refine gX ?_ | refine gO ?_ | refine gN ?_ | refine callS.cast (fv' := .fn 31 [] []) (args' := [.int .i64 (Int.ofNat 6)]) rfl harg (call_pure (c31_6 F d hF) ?_) | refine callS.cast (fv' := .fn 38 [] []) (args' := [.int .i64 (Int.ofNat 6)]) rfl harg (call_readL k38 (addL R 300) (by rfl) (SeesM.nil _) (nM1) ?_) | refine call_w rfl ?_ | intro _)
  conv => whnf
  exact ⟨rfl, nM1⟩

theorem l11_7 (F d : Nat) (hF : 600 < F) (q : Nat) (hq : q < 256) (hr : q % 9 = 6) : ReadC (CL F (d + 3)) 11 [.int .u8 (Int.ofNat q)] [] (605000 + 2000) (.bool true) := by
  intro R
  rw [show 605000 + 2000 = (605000) + 2000 from rfl, addL_eq, ← Nat.add_assoc, ← addL_eq _ 2000, Nat.add_comm R (605000)]
  have harg : dens [.int .i64 (wr .i64 (Int.add 1 (Int.tmod (wr .i64 (Int.ofNat q)) 9)))] = dens [.int .i64 (Int.ofNat 7)] := by
    rw [smn (i := q) (by omega), show Int.tmod (Int.ofNat q) 9 = Int.ofNat (q % 9) from rfl, hr]
    rfl
  have k38 := c38_7 F d hF
  rw [cnt_7] at k38
  refine call_in (n := 26) Try.func11 rfl rfl rfl rfl rfl rfl rfl ?_
  repeat' ((conv => whnf); first | refine eqS_rfl ?_ | refine eqA_rfl ?_ | refine eqA_of (by assumption) ?_ | refine eqS_of (by rfl) ?_ | refine eqL_rfl ?_ | refine eqJ_rfl ?_ | refine gE ?_ | refine seS_rfl ?_ | refine lsS_of hup ?_ | refine lsS_rfl ?_ | refine brS_tt ?_ | refine brS_ff ?_ | refine brS_not ?_ | refine gI ?_ | refine gT ?_ | refine gF ?_ | refine brS_intro (fun _ => ?_) (fun _ => ?_) | refine gL ?_ | refine gX ?_ | refine gO ?_ | refine gN ?_ | refine callS.cast (fv' := .fn 31 [] []) (args' := [.int .i64 (Int.ofNat 7)]) rfl harg (call_pure (c31_7 F d hF) ?_) | refine callS.cast (fv' := .fn 38 [] []) (args' := [.int .i64 (Int.ofNat 7)]) rfl harg (call_readL k38 (addL R 300) (by rfl) (SeesM.nil _) (nM1) ?_) | refine call_w rfl ?_ | intro _)
  conv => whnf
  exact ⟨rfl, nM1⟩

theorem l11_8 (F d : Nat) (hF : 600 < F) (q : Nat) (hq : q < 256) (hr : q % 9 = 7) : ReadC (CL F (d + 3)) 11 [.int .u8 (Int.ofNat q)] [] (605000 + 2000) (.bool true) := by
  intro R
  rw [show 605000 + 2000 = (605000) + 2000 from rfl, addL_eq, ← Nat.add_assoc, ← addL_eq _ 2000, Nat.add_comm R (605000)]
  have harg : dens [.int .i64 (wr .i64 (Int.add 1 (Int.tmod (wr .i64 (Int.ofNat q)) 9)))] = dens [.int .i64 (Int.ofNat 8)] := by
    rw [smn (i := q) (by omega), show Int.tmod (Int.ofNat q) 9 = Int.ofNat (q % 9) from rfl, hr]
    rfl
  have k38 := c38_8 F d hF
  rw [cnt_8] at k38
  refine call_in (n := 26) Try.func11 rfl rfl rfl rfl rfl rfl rfl ?_
  repeat' ((conv => whnf); first | refine eqS_rfl ?_ | refine eqA_rfl ?_ | refine eqA_of (by assumption) ?_ | refine eqS_of (by rfl) ?_ | refine eqL_rfl ?_ | refine eqJ_rfl ?_ | refine gE ?_ | refine seS_rfl ?_ | refine lsS_of hup ?_ | refine lsS_rfl ?_ | refine brS_tt ?_ | refine brS_ff ?_ | refine brS_not ?_ | refine gI ?_ | refine gT ?_ | refine gF ?_ | refine brS_intro (fun _ => ?_) (fun _ => ?_) | refine gL ?_ | refine gX ?_ | refine gO ?_ | refine gN ?_ | refine callS.cast (fv' := .fn 31 [] []) (args' := [.int .i64 (Int.ofNat 8)]) rfl harg (call_pure (c31_8 F d hF) ?_) | refine callS.cast (fv' := .fn 38 [] []) (args' := [.int .i64 (Int.ofNat 8)]) rfl harg (call_readL k38 (addL R 300) (by rfl) (SeesM.nil _) (nM1) ?_) | refine call_w rfl ?_ | intro _)
  conv => whnf
  exact ⟨rfl, nM1⟩

theorem l11_9 (F d : Nat) (hF : 600 < F) (q : Nat) (hq : q < 256) (hr : q % 9 = 8) : ReadC (CL F (d + 3)) 11 [.int .u8 (Int.ofNat q)] [] (605000 + 2000) (.bool true) := by
  intro R
  rw [show 605000 + 2000 = (605000) + 2000 from rfl, addL_eq, ← Nat.add_assoc, ← addL_eq _ 2000, Nat.add_comm R (605000)]
  have harg : dens [.int .i64 (wr .i64 (Int.add 1 (Int.tmod (wr .i64 (Int.ofNat q)) 9)))] = dens [.int .i64 (Int.ofNat 9)] := by
    rw [smn (i := q) (by omega), show Int.tmod (Int.ofNat q) 9 = Int.ofNat (q % 9) from rfl, hr]
    rfl
  have k38 := c38_9 F d hF
  rw [cnt_9] at k38
  refine call_in (n := 26) Try.func11 rfl rfl rfl rfl rfl rfl rfl ?_
  repeat' ((conv => whnf); first | refine eqS_rfl ?_ | refine eqA_rfl ?_ | refine eqA_of (by assumption) ?_ | refine eqS_of (by rfl) ?_ | refine eqL_rfl ?_ | refine eqJ_rfl ?_ | refine gE ?_ | refine seS_rfl ?_ | refine lsS_of hup ?_ | refine lsS_rfl ?_ | refine brS_tt ?_ | refine brS_ff ?_ | refine brS_not ?_ | refine gI ?_ | refine gT ?_ | refine gF ?_ | refine brS_intro (fun _ => ?_) (fun _ => ?_) | refine gL ?_ | refine gX ?_ | refine gO ?_ | refine gN ?_ | refine callS.cast (fv' := .fn 31 [] []) (args' := [.int .i64 (Int.ofNat 9)]) rfl harg (call_pure (c31_9 F d hF) ?_) | refine callS.cast (fv' := .fn 38 [] []) (args' := [.int .i64 (Int.ofNat 9)]) rfl harg (call_readL k38 (addL R 300) (by rfl) (SeesM.nil _) (nM1) ?_) | refine call_w rfl ?_ | intro _)
  conv => whnf
  exact ⟨rfl, nM1⟩

theorem l11 (F d : Nat) (hF : 600 < F) (q : Nat) (hq : q < 256) : ReadC (CL F (d + 3)) 11 [.int .u8 (Int.ofNat q)] [] (605000 + 2000) (.bool true) := by
  have hr : q % 9 < 9 := Nat.mod_lt _ (by decide)
  generalize h : q % 9 = r at hr
  match r, hr with
  | 0, _ => exact l11_1 F d hF q hq h
  | 1, _ => exact l11_2 F d hF q hq h
  | 2, _ => exact l11_3 F d hF q hq h
  | 3, _ => exact l11_4 F d hF q hq h
  | 4, _ => exact l11_5 F d hF q hq h
  | 5, _ => exact l11_6 F d hF q hq h
  | 6, _ => exact l11_7 F d hF q hq h
  | 7, _ => exact l11_8 F d hF q hq h
  | 8, _ => exact l11_9 F d hF q hq h
attribute [local irreducible] callF cFun
theorem alike_calls (q : Nat) (hq : q < 256) (W : World) : Calls Try.prog 11 ⟨[.int .u8 (Int.ofNat q)]⟩ W fun e W' => e = .returned (.bool true) ∧ Go.RowKit.Below W.heap.size W W' := by
  have hs : (stOf W []).nx + (605000 + 2000) ≤ 4398046511104 := by rw [stOf_nx]; decide
  have h1 := (l11 1000 0 (by decide) q hq).runs (d := 2) rfl rfl hs (stOf_fl W []) (fun x hx => by cases hx) (fun x hx => by cases hx)
  exact calls_open (F := 1000) (D := 2) (ext := extX libS 14) (f := 11) (args := [.int .u8 (Int.ofNat q)]) (W := W) (Bs := []) draws name_ok extS_ok List.nodup_nil (Nat.zero_le _) h1
end Go.Proofs.Ytfcgfnlifdjfjaa
