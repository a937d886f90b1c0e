/- Rank: Ranks. -/
import Derived.Test.YtefnljdfgjjpjaaRaV
import Derived.KernelRfl
namespace Go.Proofs.Ytefnljdfgjjpjaa
open Go.Ab
attribute [local irreducible] aggOk drwOK
set_option maxRecDepth 100000
set_option maxHeartbeats 4000000
set_option linter.unusedVariables false
set_option linter.unusedSimpArgs false
theorem c85 (F k : Nat) (am : Option Addr) (n em cm : Nat) (lo hi : Nat → Nat) (hlh : ∀ j, j < n → lo j ≤ hi j ∧ hi j ≤ 100000) (i j : Nat) (hi' : i < n) (hj : j < n) : ReadC (CL F (k + 2)) 85 [.sl 1000 am n cm, .int .i64 (Int.ofNat i), .int .i64 (Int.ofNat j)] [(1000, .ro am n em 2 (mf lo hi))] 40 (.bool (qt (tl hi) (tl lo) i j)) := by
  have e : qt (tl hi) (tl lo) i j = qt lo hi j i := by
    have h1 := hlh i hi'
    have h2 := hlh j hj
    unfold qt tl
    exact decide_eq_decide.2 ⟨fun h => by omega, fun h => by omega⟩
  rw [e]
  intro R
  rw [show (40 : Nat) = 25 + 15 from rfl, addL_eq, ← Nat.add_assoc, ← addL_eq _ 15, Nat.add_comm R]
  refine call_in (n := 11) Try.func85 rfl rfl rfl rfl rfl rfl rfl ?_
  repeat' ((conv => whnf); first | refine eqS_rfl ?_ | refine eqA_rfl ?_ | refine eqA_of (by assumption) ?_ | refine eqS_of (by rfl) ?_ | refine eqL_rfl ?_ | refine eqJ_rfl ?_ | refine gE ?_ | refine seS_rfl ?_ | refine lsS_of hup ?_ | refine lsS_rfl ?_ | refine brS_tt ?_ | refine brS_ff ?_ | refine brS_not ?_ | refine gI ?_ | refine gT ?_ | refine gF ?_ | refine brS_intro (fun _ => ?_) (fun _ => ?_) | refine gL ?_ | refine gX ?_ | refine gO ?_ | refine gN ?_ | refine call_readL (c81 F _ am n em cm lo hi j i hj hi') (addL R 10) (by rfl) (by exact SeesM.cons 1000 (sees_ro (i := 1000) (by rfl)) (SeesM.nil _) (fun _ _ _ _ _ _ x hx => by cases hx)) (nM1) ?_ | intro _)
  conv => whnf
  exact ⟨rfl, nM1⟩
theorem c83l (F k q : Nat) (hF : 200 < F) (am : Option Addr) (n em cm : Nat) (lo hi : Nat → Nat) (hn : n ≤ 30) (hlh : ∀ j, j < n → lo j ≤ hi j ∧ hi j ≤ 100000) (R : Nat) : callS (CL F (k + 3)) (.fn 83 [] []) [.sl 1000 am n cm, .fn 85 [.sl 1000 am n cm] []] [(1000, .ro am n em 2 (mf lo hi))] (addL R (200000 + 200)) 0 fun w m' R' _ => (∃ wv mm, QS q n (fun z => bsF (tl hi) (tl lo) z n) wv mm ∧ den w = den wv ∧ WkM m' mm) ∧ R ≤ R' := by
  rw [show 200000 + 200 = (200000) + 200 from rfl, addL_eq, ← Nat.add_assoc, ← addL_eq _ 200, Nat.add_comm R (200000)]
  refine call_in (n := 37) Try.func83 rfl rfl rfl rfl rfl rfl rfl ?_
  repeat' ((conv => whnf); first | refine eqS_rfl ?_ | refine eqA_rfl ?_ | refine eqA_of (by assumption) ?_ | refine eqS_of (by rfl) ?_ | refine eqL_rfl ?_ | refine eqJ_rfl ?_ | refine gE ?_ | refine seS_rfl ?_ | refine lsS_of hup ?_ | refine lsS_rfl ?_ | refine brS_tt ?_ | refine brS_ff ?_ | refine brS_not ?_ | refine gI ?_ | refine gT ?_ | refine gF ?_ | refine brS_intro (fun _ => ?_) (fun _ => ?_) | refine gL ?_ | refine gX ?_ | refine gO ?_ | refine gN ?_ | refine ltS_1 (by kernel_rfl) (by omega) ?_ | intro _)
  rename_i b1
  conv => whnf
  obtain ⟨a1, ha1⟩ : ∃ a1 : Option Addr, a1 = some ⟨b1, 0, none⟩ := ⟨_, rfl⟩
  rw [← ha1]
  clear ha1
  have hg0 : ∀ z, z < n → (fun _ : Nat => [SV.int .u32 0]) z = nu (gv (tl hi) (tl lo) n 0 0) z := fun z _ => by
    show [SV.int .u32 0] = [u32 (gv (tl hi) (tl lo) n 0 0 z)]
    unfold gv
    rw [if_neg (by omega)]
    split <;> rfl
  refine loS_i (fun jj f mm R' ni => ∃ j : Nat, j ≤ n ∧ jj = n - j + 1 ∧ f = [(0, .sl 1000 am n cm), (1, .fn 85 [.sl 1000 am n cm] []), (5, .sl 600 a1 n n), (12, .int .i64 (Int.ofNat n)), (13, .int .i64 (Int.ofNat j))] ∧ mm = [(600, .gr a1 n 103 1 (nu (gv (tl hi) (tl lo) n j 0))), (1000, .ro am n em 2 (mf lo hi))] ∧ R' = (addL (6100 * (n - j) + R) 60) ∧ ni = 700) (n + 1) (by omega)
    ⟨[(0, .sl 1000 am n cm), (1, .fn 85 [.sl 1000 am n cm] []), (5, .sl 600 a1 n n), (12, .int .i64 (Int.ofNat n)), (13, .int .i64 (Int.ofNat 0))], [(600, .gr a1 n 103 1 (nu (gv (tl hi) (tl lo) n 0 0))), (1000, .ro am n em 2 (mf lo hi))], (addL (6100 * (n - 0) + R) 60), 700, ⟨eqF_rfl _, eqF_rfl _, ⟨rfl, rfl⟩, eqF_rfl _, eqF_rfl _, trivial⟩, by exact WG, nM1, 0, by omega, by omega, rfl, rfl, rfl, rfl⟩ ?_
  rintro _ _ _ _ _ ⟨j, hj, rfl, rfl, rfl, rfl, rfl⟩
  by_cases hlt : j < n
  · have h1 := iLt_t hlt
    repeat' ((conv => whnf); first | refine eqS_rfl ?_ | refine eqA_rfl ?_ | refine eqA_of (by assumption) ?_ | refine eqS_of (by rfl) ?_ | refine eqL_rfl ?_ | refine eqJ_rfl ?_ | refine gE ?_ | refine seS_rfl ?_ | refine lsS_of hup ?_ | refine lsS_rfl ?_ | refine brS_tt ?_ | refine brS_ff ?_ | refine brS_not ?_ | refine gI ?_ | refine gT ?_ | refine gF ?_ | refine brS_intro (fun _ => ?_) (fun _ => ?_) | refine gL ?_ | refine gX ?_ | refine gO ?_ | refine gN ?_ | intro _)
    conv => whnf
    refine loS_i (fun jj f mm R' ni => ∃ i : Nat, i ≤ n ∧ jj = n - i + 1 ∧ f = [(0, .sl 1000 am n cm), (1, .fn 85 [.sl 1000 am n cm] []), (5, .sl 600 a1 n n), (12, .int .i64 (Int.ofNat n)), (13, .int .i64 (Int.ofNat j)), (6, .int .i64 (Int.ofNat j)), (17, .int .i64 (Int.ofNat n)), (18, .int .i64 (Int.ofNat i))] ∧ mm = [(600, .gr a1 n 103 1 (nu (gv (tl hi) (tl lo) n j i))), (1000, .ro am n em 2 (mf lo hi))] ∧ R' = (addL (100 * (n - i) + (6100 * (n - (j + 1)) + R)) 60) ∧ ni = 700) (n + 1) (by omega)
      ⟨[(0, .sl 1000 am n cm), (1, .fn 85 [.sl 1000 am n cm] []), (5, .sl 600 a1 n n), (12, .int .i64 (Int.ofNat n)), (13, .int .i64 (Int.ofNat j)), (6, .int .i64 (Int.ofNat j)), (17, .int .i64 (Int.ofNat n)), (18, .int .i64 (Int.ofNat 0))], [(600, .gr a1 n 103 1 (nu (gv (tl hi) (tl lo) n j 0))), (1000, .ro am n em 2 (mf lo hi))], (addL (100 * (n - 0) + (6100 * (n - (j + 1)) + R)) 60), 700, ⟨eqF_rfl _, eqF_rfl _, eqF_rfl _, eqF_rfl _, eqF_rfl _, eqF_rfl _, eqF_rfl _, eqF_rfl _, trivial⟩, WkM.refl _, nM1, 0, by omega, by omega, rfl, rfl, rfl, rfl⟩ ?_
    rintro _ _ _ _ _ ⟨i, hi', rfl, rfl, rfl, rfl, rfl⟩
    by_cases hin : i < n
    · have h2 := iLt_t hin
      have k81 := c85 F k am n em cm lo hi hlh i j hin hlt
      have hs : gv (tl hi) (tl lo) n j i j < 4294967296 := by rw [gv_self]; exact bsF_lt (by omega)
      cases hq : qt (tl hi) (tl lo) i j with
      | true =>
        rw [hq] at k81
        have hg := fun z (_ : z < n) => gvS (n := n) hq z
        repeat' ((conv => whnf); first | refine eqS_rfl ?_ | refine eqA_rfl ?_ | refine eqA_of (by assumption) ?_ | refine eqS_of (by rfl) ?_ | refine eqL_rfl ?_ | refine eqJ_rfl ?_ | refine gE ?_ | refine seS_rfl ?_ | refine lsS_of hup ?_ | refine lsS_rfl ?_ | refine brS_tt ?_ | refine brS_ff ?_ | refine brS_not ?_ | refine gI ?_ | refine gT ?_ | refine gF ?_ | refine brS_intro (fun _ => ?_) (fun _ => ?_) | refine gL ?_ | refine gX ?_ | refine gO ?_ | refine gN ?_ | refine call_fs (l := [.sl 1000 am n cm, .int .i64 (Int.ofNat i), .int .i64 (Int.ofNat j)]) rfl rfl rfl (call_readL k81 ((addL (100 * (n - (i + 1)) + (6100 * (n - (j + 1)) + R)) 80)) (by rfl) (by exact SeesM.cons 1000 (sees_ro (i := 1000) (by rfl)) (SeesM.nil _) (fun _ _ _ _ _ _ x hx => by cases hx)) (nM1) ?_) | refine call_pure (c80 F _ (gv (tl hi) (tl lo) n j i j) i hs (by omega)) ?_ | refine seS_sb (by assumption) (by assumption) ?_ | intro _)
        conv => whnf
        exact ⟨n - (i + 1) + 1, [(0, .sl 1000 am n cm), (1, .fn 85 [.sl 1000 am n cm] []), (5, .sl 600 a1 n n), (12, .int .i64 (Int.ofNat n)), (13, .int .i64 (Int.ofNat j)), (6, .int .i64 (Int.ofNat j)), (17, .int .i64 (Int.ofNat n)), (18, .int .i64 (Int.ofNat (i + 1)))], [(600, .gr a1 n 103 1 (nu (gv (tl hi) (tl lo) n j (i + 1)))), (1000, .ro am n em 2 (mf lo hi))], (addL (100 * (n - (i + 1)) + (6100 * (n - (j + 1)) + R)) 60), 700, by omega, ⟨eqF_rfl _, eqF_rfl _, eqF_rfl _, eqF_rfl _, eqF_rfl _, eqF_rfl _, eqF_rfl _, ⟨congrArg (Value.int .i64) (smn (i := i + 1) (by omega)), rfl⟩, trivial⟩, by exact WG, nM1, i + 1, by omega, rfl, rfl, rfl, rfl, rfl⟩
      | false =>
        rw [hq] at k81
        have hg := fun z (_ : z < n) => gvN (n := n) hq z
        repeat' ((conv => whnf); first | refine eqS_rfl ?_ | refine eqA_rfl ?_ | refine eqA_of (by assumption) ?_ | refine eqS_of (by rfl) ?_ | refine eqL_rfl ?_ | refine eqJ_rfl ?_ | refine gE ?_ | refine seS_rfl ?_ | refine lsS_of hup ?_ | refine lsS_rfl ?_ | refine brS_tt ?_ | refine brS_ff ?_ | refine brS_not ?_ | refine gI ?_ | refine gT ?_ | refine gF ?_ | refine brS_intro (fun _ => ?_) (fun _ => ?_) | refine gL ?_ | refine gX ?_ | refine gO ?_ | refine gN ?_ | refine call_fs (l := [.sl 1000 am n cm, .int .i64 (Int.ofNat i), .int .i64 (Int.ofNat j)]) rfl rfl rfl (call_readL k81 ((addL (100 * (n - (i + 1)) + (6100 * (n - (j + 1)) + R)) 60)) (by rfl) (by exact SeesM.cons 1000 (sees_ro (i := 1000) (by rfl)) (SeesM.nil _) (fun _ _ _ _ _ _ x hx => by cases hx)) (nM1) ?_) | intro _)
        conv => whnf
        exact ⟨n - (i + 1) + 1, [(0, .sl 1000 am n cm), (1, .fn 85 [.sl 1000 am n cm] []), (5, .sl 600 a1 n n), (12, .int .i64 (Int.ofNat n)), (13, .int .i64 (Int.ofNat j)), (6, .int .i64 (Int.ofNat j)), (17, .int .i64 (Int.ofNat n)), (18, .int .i64 (Int.ofNat (i + 1)))], [(600, .gr a1 n 103 1 (nu (gv (tl hi) (tl lo) n j (i + 1)))), (1000, .ro am n em 2 (mf lo hi))], (addL (100 * (n - (i + 1)) + (6100 * (n - (j + 1)) + R)) 60), 700, by omega, ⟨eqF_rfl _, eqF_rfl _, eqF_rfl _, eqF_rfl _, eqF_rfl _, eqF_rfl _, eqF_rfl _, ⟨congrArg (Value.int .i64) (smn (i := i + 1) (by omega)), rfl⟩, trivial⟩, by exact WG, nM1, i + 1, by omega, rfl, rfl, rfl, rfl, rfl⟩
    · have e2 : n = i := by omega
      subst e2
      have h2 := iLt_f (Nat.le_refl n)
      have hg := fun z (_ : z < n) => gvJ (lo := tl hi) (hi := tl lo) (n := n) (j := j) z
      repeat' ((conv => whnf); first | refine eqS_rfl ?_ | refine eqA_rfl ?_ | refine eqA_of (by assumption) ?_ | refine eqS_of (by rfl) ?_ | refine eqL_rfl ?_ | refine eqJ_rfl ?_ | refine gE ?_ | refine seS_rfl ?_ | refine lsS_of hup ?_ | refine lsS_rfl ?_ | refine brS_tt ?_ | refine brS_ff ?_ | refine brS_not ?_ | refine gI ?_ | refine gT ?_ | refine gF ?_ | refine brS_intro (fun _ => ?_) (fun _ => ?_) | refine gL ?_ | refine gX ?_ | refine gO ?_ | refine gN ?_ | intro _)
      conv => whnf
      exact ⟨n - (j + 1) + 1, [(0, .sl 1000 am n cm), (1, .fn 85 [.sl 1000 am n cm] []), (5, .sl 600 a1 n n), (12, .int .i64 (Int.ofNat n)), (13, .int .i64 (Int.ofNat (j + 1)))], [(600, .gr a1 n 103 1 (nu (gv (tl hi) (tl lo) n (j + 1) 0))), (1000, .ro am n em 2 (mf lo hi))], (addL (6100 * (n - (j + 1)) + R) 60), 700, by omega, ⟨eqF_rfl _, eqF_rfl _, eqF_rfl _, eqF_rfl _, ⟨congrArg (Value.int .i64) (smn (i := j + 1) (by omega)), rfl⟩, trivial⟩, by exact WG, nM1, j + 1, by omega, rfl, rfl, rfl, rfl, rfl⟩
  · have e2 : n = j := by omega
    subst e2
    have h1 := iLt_f (Nat.le_refl n)
    have hg : ∀ z, z < n → nu (gv (tl hi) (tl lo) n n 0) z = nu (fun z => bsF (tl hi) (tl lo) z n) z := fun z hz => by
      show [u32 (gv (tl hi) (tl lo) n n 0 z)] = [u32 (bsF (tl hi) (tl lo) z n)]
      unfold gv
      rw [if_pos hz]
    repeat' ((conv => whnf); first | refine eqS_rfl ?_ | refine eqA_rfl ?_ | refine eqA_of (by assumption) ?_ | refine eqS_of (by rfl) ?_ | refine eqL_rfl ?_ | refine eqJ_rfl ?_ | refine gE ?_ | refine seS_rfl ?_ | refine lsS_of hup ?_ | refine lsS_rfl ?_ | refine brS_tt ?_ | refine brS_ff ?_ | refine brS_not ?_ | refine gI ?_ | refine gT ?_ | refine gF ?_ | refine brS_intro (fun _ => ?_) (fun _ => ?_) | refine gL ?_ | refine gX ?_ | refine gO ?_ | refine gN ?_ | intro _)
    conv => whnf
    exact ⟨⟨_, _, ⟨a1, rfl, rfl⟩, rfl, by exact WG⟩, nM1⟩
theorem bsF_lt2 {n : Nat} (hn : n ≤ 5) {lo hi : Nat → Nat} {d : Nat} : ∀ {k : Nat}, k ≤ n → bsF lo hi d k < 2 ^ n
  | 0, _ => Nat.pow_pos (by decide)
  | k + 1, h => by
    have ih := bsF_lt2 hn (lo := lo) (hi := hi) (d := d) (k := k) (by omega)
    show (if qt lo hi k d = true then _ else _) < _
    split
    · exact (pcF hn ih).lt k (by omega)
    · exact ih
/-- the ranks of a day -/
def rkL (lo hi : Nat → Nat) (n d : Nat) : Nat := pc (bsF lo hi d n) + 1
def rkH (lo hi : Nat → Nat) (n d : Nat) : Nat := n - pc (bsF (tl hi) (tl lo) d n)
theorem c62 (F k q : Nat) (hF : 200 < F) (am : Option Addr) (n em cm : Nat) (lo hi : Nat → Nat) (hn : n ≤ 5) (hlh : ∀ j, j < n → lo j ≤ hi j ∧ hi j ≤ 100000) (R : Nat) : callS (CL F (k + 5)) (.fn 62 [] []) [.sl 1000 am n cm] [(1000, .ro am n em 2 (mf lo hi))] (addL R (500000 + 400)) 0 fun w m' R' _ => (∃ wv mm, QM q n (rkL lo hi n) (rkH lo hi n) wv mm ∧ den w = den wv ∧ WkM m' mm) ∧ R ≤ R' := by
  have hlt : ∀ z, bsF lo hi z n < 32 ∧ bsF (tl hi) (tl lo) z n < 32 := fun z => ⟨Nat.lt_of_lt_of_le (bsF_lt2 hn (Nat.le_refl n)) (Nat.pow_le_pow_right (by omega) hn), Nat.lt_of_lt_of_le (bsF_lt2 hn (Nat.le_refl n)) (Nat.pow_le_pow_right (by omega) hn)⟩
  have hle : ∀ z, pc (bsF (tl hi) (tl lo) z n) ≤ n := fun z => (pcF hn (bsF_lt2 hn (Nat.le_refl n))).le
  have hle2 : ∀ z, pc (bsF lo hi z n) ≤ n := fun z => (pcF hn (bsF_lt2 hn (Nat.le_refl n))).le
  rw [show 500000 + 400 = (500000) + 400 from rfl, addL_eq, ← Nat.add_assoc, ← addL_eq _ 400, Nat.add_comm R (500000)]
  refine call_in (n := 40) Try.func62 rfl rfl rfl rfl rfl rfl rfl ?_
  repeat' ((conv => whnf); first | refine eqS_rfl ?_ | refine eqA_rfl ?_ | refine eqA_of (by assumption) ?_ | refine eqS_of (by rfl) ?_ | refine eqL_rfl ?_ | refine eqJ_rfl ?_ | refine gE ?_ | refine seS_rfl ?_ | refine lsS_of hup ?_ | refine lsS_rfl ?_ | refine brS_tt ?_ | refine brS_ff ?_ | refine brS_not ?_ | refine gI ?_ | refine gT ?_ | refine gF ?_ | refine brS_intro (fun _ => ?_) (fun _ => ?_) | refine gL ?_ | refine gX ?_ | refine gO ?_ | refine gN ?_ | refine callQS (c83 F _ 800 hF am n em cm lo hi (by omega)) (addL (260000 + R) 300) (by rfl) (by exact SeesM.cons 1000 (sees_ro (i := 1000) (by rfl)) (SeesM.nil _) (fun _ _ _ _ _ _ x hx => by cases hx)) (nM1) ?_ | refine callQS (c83l F _ 801 hF am n em cm lo hi (by omega) hlh) (addL (20000 + R) 250) (by rfl) (by exact SeesM.cons 1000 (sees_ro (i := 1000) (by rfl)) (SeesM.nil _) (fun _ _ _ _ _ _ x hx => by cases hx)) (nM1) ?_ | intro _)
  rename_i a2 a3
  conv => whnf
  refine loS_i (fun jj f mm R' ni => ∃ (j : Nat) (a1 : Option Addr), j ≤ n ∧ jj = n - j + 1 ∧ f = [(0, .sl 1000 am n cm), (3, .sl 800 a2 n n), (4, .sl 801 a3 n n), (5, .sl 600 a1 j j), (16, .int .i64 (Int.ofNat n)), (17, .int .i64 (Int.ofNat j))] ∧ mm = [(600, .gr a1 j 63 2 (mf (rkL lo hi n) (rkH lo hi n))), (800, .gr a2 n 103 1 (nu (fun z => bsF lo hi z n))), (801, .gr a3 n 103 1 (nu (fun z => bsF (tl hi) (tl lo) z n))), (1000, .ro am n em 2 (mf lo hi))] ∧ R' = (addL (300 * (n - j) + R) 200) ∧ ni = 700) (n + 1) (by omega)
    ⟨[(0, .sl 1000 am n cm), (3, .sl 800 a2 n n), (4, .sl 801 a3 n n), (5, .sl 600 none 0 0), (16, .int .i64 (Int.ofNat n)), (17, .int .i64 (Int.ofNat 0))], [(600, .gr none 0 63 2 (mf (rkL lo hi n) (rkH lo hi n))), (800, .gr a2 n 103 1 (nu (fun z => bsF lo hi z n))), (801, .gr a3 n 103 1 (nu (fun z => bsF (tl hi) (tl lo) z n))), (1000, .ro am n em 2 (mf lo hi))], (addL (300 * (n - 0) + R) 200), 700, ⟨eqF_rfl _, eqF_rfl _, eqF_rfl _, ⟨rfl, rfl⟩, eqF_rfl _, eqF_rfl _, trivial⟩, by exact WkM.gr0 WG, nM1, 0, none, by omega, by omega, rfl, rfl, rfl, rfl⟩ ?_
  rintro _ _ _ _ _ ⟨j, a1, hj, rfl, rfl, rfl, rfl, rfl⟩
  by_cases hjn : j < n
  · have h1 := iLt_t hjn
    have e1 : wr .i64 (Int.add (Int.ofNat (pc (bsF lo hi j n))) 1) = Int.ofNat (pc (bsF lo hi j n) + 1) := by
      have := hle2 j
      exact smn (i := pc (bsF lo hi j n) + 1) (by omega)
    have e2 : wr .i64 (Int.sub (Int.ofNat n) (Int.ofNat (pc (bsF (tl hi) (tl lo) j n)))) = Int.ofNat (n - pc (bsF (tl hi) (tl lo) j n)) := by
      have := hle j
      exact (sm (n := (n : Int) - (pc (bsF (tl hi) (tl lo) j n) : Int)) (by omega)).trans (by show (n : Int) - (pc (bsF (tl hi) (tl lo) j n) : Int) = ((n - pc (bsF (tl hi) (tl lo) j n) : Nat) : Int); omega)
    have hg := growE (n := j) (sz := 2) (f := mf (rkL lo hi n) (rkH lo hi n)) (l := [.int .i64 (wr .i64 (Int.add (Int.ofNat (pc (bsF lo hi j n))) 1)), .int .i64 (wr .i64 (Int.sub (Int.ofNat n) (Int.ofNat (pc (bsF (tl hi) (tl lo) j n)))))]) rfl (by
      show [SV.int .i64 (Int.ofNat (pc (bsF lo hi j n) + 1)), SV.int .i64 (Int.ofNat (n - pc (bsF (tl hi) (tl lo) j n)))] = _
      rw [e1, e2])
    repeat' ((conv => whnf); first | refine eqS_rfl ?_ | refine eqA_rfl ?_ | refine eqA_of (by assumption) ?_ | refine eqS_of (by rfl) ?_ | refine eqL_rfl ?_ | refine eqJ_rfl ?_ | refine gE ?_ | refine seS_rfl ?_ | refine lsS_of hup ?_ | refine lsS_rfl ?_ | refine brS_tt ?_ | refine brS_ff ?_ | refine brS_not ?_ | refine gI ?_ | refine gT ?_ | refine gF ?_ | refine brS_intro (fun _ => ?_) (fun _ => ?_) | refine gL ?_ | refine gX ?_ | refine gO ?_ | refine gN ?_ | refine call_pure (c76 F _ (bsF lo hi j n) (hlt j).1) ?_ | refine call_pure (c76 F _ (bsF (tl hi) (tl lo) j n) (hlt j).2) ?_ | refine ltS_intro (show j * 2 + 2 < 32769 by omega) ?_ | intro _)
    conv => whnf
    exact ⟨n - (j + 1) + 1, [(0, .sl 1000 am n cm), (3, .sl 800 a2 n n), (4, .sl 801 a3 n n), (5, .sl 600 _ (j + 1) (j + 1)), (16, .int .i64 (Int.ofNat n)), (17, .int .i64 (Int.ofNat (j + 1)))], [(600, .gr _ (j + 1) 63 2 (mf (rkL lo hi n) (rkH lo hi n))), (800, .gr a2 n 103 1 (nu (fun z => bsF lo hi z n))), (801, .gr a3 n 103 1 (nu (fun z => bsF (tl hi) (tl lo) z n))), (1000, .ro am n em 2 (mf lo hi))], (addL (300 * (n - (j + 1)) + R) 200), 700, by omega, ⟨eqF_rfl _, eqF_rfl _, eqF_rfl _, ⟨rfl, rfl⟩, eqF_rfl _, ⟨congrArg (Value.int .i64) (smn (i := j + 1) (by omega)), rfl⟩, trivial⟩, by exact WG, nM1, j + 1, _, by omega, rfl, rfl, rfl, rfl, rfl⟩
  · have e2 : n = j := by omega
    subst e2
    have h1 := iLt_f (Nat.le_refl n)
    repeat' ((conv => whnf); first | refine eqS_rfl ?_ | refine eqA_rfl ?_ | refine eqA_of (by assumption) ?_ | refine eqS_of (by rfl) ?_ | refine eqL_rfl ?_ | refine eqJ_rfl ?_ | refine gE ?_ | refine seS_rfl ?_ | refine lsS_of hup ?_ | refine lsS_rfl ?_ | refine brS_tt ?_ | refine brS_ff ?_ | refine brS_not ?_ | refine gI ?_ | refine gT ?_ | refine gF ?_ | refine brS_intro (fun _ => ?_) (fun _ => ?_) | refine gL ?_ | refine gX ?_ | refine gO ?_ | refine gN ?_ | intro _)
    conv => whnf
    exact ⟨⟨_, _, ⟨a1, rfl, rfl⟩, rfl, by exact WG⟩, nM1⟩
/-- spans and no error, of their own -/
def QR (i T : Nat) (lo hi : Nat → Nat) (wv : SV) (mm : Mem) : Prop := ∃ a, wv = .tup [.sl i a T T, .int .i64 0] ∧ mm = [(i, .gr a T 63 2 (mf lo hi))]
theorem callQR {call : CallT} {g : FuncId} {args args0 : List SV} {m0 : Mem} {N i T : Nat} {lo hi : Nat → Nat} (h : ∀ R, callS call (.fn g [] []) args0 m0 (addL R N) 0 fun w m' R' _ => (∃ wv mm, QR i T lo hi wv mm ∧ den w = den wv ∧ WkM m' mm) ∧ R ≤ R') (R2 : Nat) {m : Mem} {R ni : Nat} {K : SV → Mem → Nat → Nat → Prop} (ha : dens args = dens args0) (hs : SeesM m m0) (hN : R2 + N ≤ R)
    (hK : ∀ a, K (.tup [.sl i a T T, .int .i64 0]) ((i, .gr a T 63 2 (mf lo hi)) :: m) R2 ni) : callS call (.fn g [] []) args m R ni K :=
  call_freshL (QR i T lo hi) h (fun wv mm hq => by obtain ⟨a, _, rfl⟩ := hq; intro x hx; rw [List.mem_singleton.1 hx]; exact ⟨_, _, _, _, _, rfl⟩) R2 ha hs hN (fun wv mm hq => by obtain ⟨a, rfl, rfl⟩ := hq; exact hK a)
theorem c25 (F k q : Nat) (hF : 200 < F) (am : Option Addr) (n em cm : Nat) (lo hi : Nat → Nat) (hn0 : 0 < n) (hn : n ≤ 5) (hlh : ∀ j, j < n → lo j ≤ hi j ∧ hi j ≤ 100000) (R : Nat) : callS (CL F (k + 6)) (.fn 25 [] []) [.sl 1000 am n cm] [(1000, .ro am n em 2 (mf lo hi))] (addL R (510000 + 400)) 0 fun w m' R' _ => (∃ wv mm, QR q n (rkL lo hi n) (rkH lo hi n) wv mm ∧ den w = den wv ∧ WkM m' mm) ∧ R ≤ R' := by
  rw [show 510000 + 400 = (510000) + 400 from rfl, addL_eq, ← Nat.add_assoc, ← addL_eq _ 400, Nat.add_comm R (510000)]
  refine call_in (n := 12) Try.func25 rfl rfl rfl rfl rfl rfl rfl ?_
  repeat' ((conv => whnf); first | refine eqS_rfl ?_ | refine eqA_rfl ?_ | refine eqA_of (by assumption) ?_ | refine eqS_of (by rfl) ?_ | refine eqL_rfl ?_ | refine eqJ_rfl ?_ | refine gE ?_ | refine seS_rfl ?_ | refine lsS_of hup ?_ | refine lsS_rfl ?_ | refine brS_tt ?_ | refine brS_ff ?_ | refine brS_not ?_ | refine gI ?_ | refine gT ?_ | refine gF ?_ | refine brS_intro (fun _ => ?_) (fun _ => ?_) | refine gL ?_ | refine gX ?_ | refine gO ?_ | refine gN ?_ | refine call_readL (c21 F _ hF am n em cm lo hi hn0 (by omega) hlh) (addL (505000 + R) 350) (by rfl) (by exact SeesM.cons 1000 (sees_ro (i := 1000) (by rfl)) (SeesM.nil _) (fun _ _ _ _ _ _ x hx => by cases hx)) (nM1) ?_ | refine callQM (c62 F _ q hF am n em cm lo hi hn hlh) (addL R 200) (by rfl) (by exact SeesM.cons 1000 (sees_ro (i := 1000) (by rfl)) (SeesM.nil _) (fun _ _ _ _ _ _ x hx => by cases hx)) (nM1) ?_ | intro _)
  rename_i a1
  conv => whnf
  exact ⟨⟨_, _, ⟨a1, rfl, rfl⟩, rfl, by exact WG⟩, nM1⟩
end Go.Proofs.Ytefnljdfgjjpjaa
