/- Rank: texts H to M. -/
import Derived.Test.YtefnljdfgjjpjaaRmA
import Derived.KernelRfl
namespace Go.Proofs.Ytefnljdfgjjpjaa
open Go.Ab
attribute [local irreducible] aggOk drwOK
set_option maxRecDepth 100000
set_option maxHeartbeats 4000000
set_option linter.unusedVariables false
set_option linter.unusedSimpArgs false
/-- the days among the first ones that are surely quieter -/
def bsF (lo hi : Nat → Nat) (d : Nat) : Nat → Nat
  | 0 => 0
  | k + 1 => if qt lo hi k d = true then wt (bsF lo hi d k) k else bsF lo hi d k
theorem bsF_lt {lo hi : Nat → Nat} {d : Nat} : ∀ {k : Nat}, k ≤ 32 → bsF lo hi d k < 4294967296
  | 0, _ => by show 0 < 4294967296; omega
  | k + 1, h => by
    unfold bsF
    split
    · exact wt_lt (bsF_lt (by omega)) (by omega)
    · exact bsF_lt (by omega)
theorem bsF_bit {lo hi : Nat → Nat} {d e : Nat} : ∀ {k : Nat}, (bsF lo hi d k).testBit e = (decide (e < k) && qt lo hi e d)
  | 0 => by show Nat.testBit 0 e = _; simp
  | k + 1 => by
    unfold bsF
    by_cases h : qt lo hi k d = true
    · rw [if_pos h, wt_bit, bsF_bit]
      by_cases e1 : k = e
      · subst e1; simp [h]
      · have : (e < k + 1) = (e < k) := by apply propext; omega
        simp [e1, this]
    · rw [if_neg h, bsF_bit]
      by_cases e1 : k = e
      · subst e1; simp [h]
      · have : (e < k + 1) = (e < k) := by apply propext; omega
        simp [this]
def gv (lo hi : Nat → Nat) (n j i z : Nat) : Nat := if z < j then bsF lo hi z n else if z = j then bsF lo hi j i else 0
abbrev nu (f : Nat → Nat) (z : Nat) : List SV := [u32 (f z)]
theorem gv_self {lo hi : Nat → Nat} {n j i : Nat} : gv lo hi n j i j = bsF lo hi j i := by unfold gv; rw [if_neg (by omega), if_pos rfl]
theorem gvS {lo hi : Nat → Nat} {n j i : Nat} (h : qt lo hi i j = true) (z : Nat) : updG j [u32 (wt (gv lo hi n j i j) i)] (nu (gv lo hi n j i)) z = nu (gv lo hi n j (i + 1)) z := by
  by_cases e : z = j
  · subst e
    rw [updG_same, gv_self]
    show [u32 _] = [u32 (gv lo hi n z (i + 1) z)]
    rw [gv_self]
    show _ = [u32 (if qt lo hi i z = true then wt (bsF lo hi z i) i else bsF lo hi z i)]
    rw [if_pos h]
  · rw [updG_other e]
    show [u32 (gv lo hi n j i z)] = [u32 (gv lo hi n j (i + 1) z)]
    unfold gv
    by_cases h2 : z < j
    · rw [if_pos h2, if_pos h2]
    · rw [if_neg h2, if_neg h2, if_neg e, if_neg e]
theorem gvN {lo hi : Nat → Nat} {n j i : Nat} (h : qt lo hi i j = false) (z : Nat) : nu (gv lo hi n j i) z = nu (gv lo hi n j (i + 1)) z := by
  show [u32 (gv lo hi n j i z)] = [u32 (gv lo hi n j (i + 1) z)]
  have e : bsF lo hi j (i + 1) = bsF lo hi j i := by
    show (if qt lo hi i j = true then _ else _) = _
    rw [h]; rfl
  unfold gv
  rw [e]
theorem gvJ {lo hi : Nat → Nat} {n j : Nat} (z : Nat) : nu (gv lo hi n j n) z = nu (gv lo hi n (j + 1) 0) z := by
  show [u32 (gv lo hi n j n z)] = [u32 (gv lo hi n (j + 1) 0 z)]
  unfold gv
  by_cases h : z < j
  · rw [if_pos h, if_pos (by omega)]
  · by_cases e : z = j
    · subst e; rw [if_neg h, if_pos rfl, if_pos (by omega)]
    · rw [if_neg h, if_neg e, if_neg (by omega)]
      split <;> rfl
/-- sets of their own -/
def QS (i n : Nat) (f : Nat → Nat) (wv : SV) (mm : Mem) : Prop := ∃ a, wv = .sl i a n n ∧ mm = [(i, .gr a n 103 1 (nu f))]
theorem callQS {call : CallT} {g : FuncId} {args args0 : List SV} {m0 : Mem} {N i n : Nat} {f : Nat → Nat} (h : ∀ R, callS call (.fn g [] []) args0 m0 (addL R N) 0 fun w m' R' _ => (∃ wv mm, QS i n f wv mm ∧ den w = den wv ∧ WkM m' mm) ∧ R ≤ R') (R2 : Nat) {m : Mem} {R ni : Nat} {K : SV → Mem → Nat → Nat → Prop} (ha : dens args = dens args0) (hs : SeesM m m0) (hN : R2 + N ≤ R)
    (hK : ∀ a, K (.sl i a n n) ((i, .gr a n 103 1 (nu f)) :: m) R2 ni) : callS call (.fn g [] []) args m R ni K :=
  call_freshL (QS i n f) h (fun wv mm hq => by obtain ⟨a, _, rfl⟩ := hq; intro x hx; rw [List.mem_singleton.1 hx]; exact ⟨_, _, _, _, _, rfl⟩) R2 ha hs hN (fun wv mm hq => by obtain ⟨a, rfl, rfl⟩ := hq; exact hK a)
theorem c83 (F k q : Nat) (hF : 200 < F) (am : Option Addr) (n em cm : Nat) (lo hi : Nat → Nat) (hn : n ≤ 30) (R : Nat) : callS (CL F (k + 2)) (.fn 83 [] []) [.sl 1000 am n cm, .fn 81 [.sl 1000 am n cm] []] [(1000, .ro am n em 2 (mf lo hi))] (addL R (200000 + 200)) 0 fun w m' R' _ => (∃ wv mm, QS q n (fun z => bsF lo hi z n) wv mm ∧ den w = den wv ∧ WkM m' mm) ∧ R ≤ R' := by
  rw [show 200000 + 200 = (200000) + 200 from rfl, addL_eq, ← Nat.add_assoc, ← addL_eq _ 200, Nat.add_comm R (200000)]
  refine call_in (n := 37) Try.func83 rfl rfl rfl rfl rfl rfl rfl ?_
  repeat' ((conv => whnf); first | refine eqS_rfl ?_ | refine eqA_rfl ?_ | refine eqA_of (by assumption) ?_ | refine eqS_of (by rfl) ?_ | refine eqL_rfl ?_ | refine eqJ_rfl ?_ | refine gE ?_ | refine seS_rfl ?_ | refine lsS_of hup ?_ | refine lsS_rfl ?_ | refine brS_tt ?_ | refine brS_ff ?_ | refine brS_not ?_ | refine gI ?_ | refine gT ?_ | refine gF ?_ | refine brS_intro (fun _ => ?_) (fun _ => ?_) | refine gL ?_ | refine gX ?_ | refine gO ?_ | refine gN ?_ | refine ltS_1 (by kernel_rfl) (by omega) ?_ | intro _)
  rename_i b1
  conv => whnf
  obtain ⟨a1, ha1⟩ : ∃ a1 : Option Addr, a1 = some ⟨b1, 0, none⟩ := ⟨_, rfl⟩
  rw [← ha1]
  clear ha1
  have hg0 : ∀ z, z < n → (fun _ : Nat => [SV.int .u32 0]) z = nu (gv lo hi n 0 0) z := fun z _ => by
    show [SV.int .u32 0] = [u32 (gv lo hi n 0 0 z)]
    unfold gv
    rw [if_neg (by omega)]
    split <;> rfl
  refine loS_i (fun jj f mm R' ni => ∃ j : Nat, j ≤ n ∧ jj = n - j + 1 ∧ f = [(0, .sl 1000 am n cm), (1, .fn 81 [.sl 1000 am n cm] []), (5, .sl 600 a1 n n), (12, .int .i64 (Int.ofNat n)), (13, .int .i64 (Int.ofNat j))] ∧ mm = [(600, .gr a1 n 103 1 (nu (gv lo hi n j 0))), (1000, .ro am n em 2 (mf lo hi))] ∧ R' = (addL (6100 * (n - j) + R) 60) ∧ ni = 700) (n + 1) (by omega)
    ⟨[(0, .sl 1000 am n cm), (1, .fn 81 [.sl 1000 am n cm] []), (5, .sl 600 a1 n n), (12, .int .i64 (Int.ofNat n)), (13, .int .i64 (Int.ofNat 0))], [(600, .gr a1 n 103 1 (nu (gv lo hi n 0 0))), (1000, .ro am n em 2 (mf lo hi))], (addL (6100 * (n - 0) + R) 60), 700, ⟨eqF_rfl _, eqF_rfl _, ⟨rfl, rfl⟩, eqF_rfl _, eqF_rfl _, trivial⟩, by exact WG, nM1, 0, by omega, by omega, rfl, rfl, rfl, rfl⟩ ?_
  rintro _ _ _ _ _ ⟨j, hj, rfl, rfl, rfl, rfl, rfl⟩
  by_cases hlt : j < n
  · have h1 := iLt_t hlt
    repeat' ((conv => whnf); first | refine eqS_rfl ?_ | refine eqA_rfl ?_ | refine eqA_of (by assumption) ?_ | refine eqS_of (by rfl) ?_ | refine eqL_rfl ?_ | refine eqJ_rfl ?_ | refine gE ?_ | refine seS_rfl ?_ | refine lsS_of hup ?_ | refine lsS_rfl ?_ | refine brS_tt ?_ | refine brS_ff ?_ | refine brS_not ?_ | refine gI ?_ | refine gT ?_ | refine gF ?_ | refine brS_intro (fun _ => ?_) (fun _ => ?_) | refine gL ?_ | refine gX ?_ | refine gO ?_ | refine gN ?_ | intro _)
    conv => whnf
    refine loS_i (fun jj f mm R' ni => ∃ i : Nat, i ≤ n ∧ jj = n - i + 1 ∧ f = [(0, .sl 1000 am n cm), (1, .fn 81 [.sl 1000 am n cm] []), (5, .sl 600 a1 n n), (12, .int .i64 (Int.ofNat n)), (13, .int .i64 (Int.ofNat j)), (6, .int .i64 (Int.ofNat j)), (17, .int .i64 (Int.ofNat n)), (18, .int .i64 (Int.ofNat i))] ∧ mm = [(600, .gr a1 n 103 1 (nu (gv lo hi n j i))), (1000, .ro am n em 2 (mf lo hi))] ∧ R' = (addL (100 * (n - i) + (6100 * (n - (j + 1)) + R)) 60) ∧ ni = 700) (n + 1) (by omega)
      ⟨[(0, .sl 1000 am n cm), (1, .fn 81 [.sl 1000 am n cm] []), (5, .sl 600 a1 n n), (12, .int .i64 (Int.ofNat n)), (13, .int .i64 (Int.ofNat j)), (6, .int .i64 (Int.ofNat j)), (17, .int .i64 (Int.ofNat n)), (18, .int .i64 (Int.ofNat 0))], [(600, .gr a1 n 103 1 (nu (gv lo hi n j 0))), (1000, .ro am n em 2 (mf lo hi))], (addL (100 * (n - 0) + (6100 * (n - (j + 1)) + R)) 60), 700, ⟨eqF_rfl _, eqF_rfl _, eqF_rfl _, eqF_rfl _, eqF_rfl _, eqF_rfl _, eqF_rfl _, eqF_rfl _, trivial⟩, WkM.refl _, nM1, 0, by omega, by omega, rfl, rfl, rfl, rfl⟩ ?_
    rintro _ _ _ _ _ ⟨i, hi', rfl, rfl, rfl, rfl, rfl⟩
    by_cases hin : i < n
    · have h2 := iLt_t hin
      have k81 := c81 F (k) am n em cm lo hi i j hin hlt
      have hs : gv lo hi n j i j < 4294967296 := by rw [gv_self]; exact bsF_lt (by omega)
      cases hq : qt lo hi i j with
      | true =>
        rw [hq] at k81
        have hg := fun z (_ : z < n) => gvS (n := n) hq z
        repeat' ((conv => whnf); first | refine eqS_rfl ?_ | refine eqA_rfl ?_ | refine eqA_of (by assumption) ?_ | refine eqS_of (by rfl) ?_ | refine eqL_rfl ?_ | refine eqJ_rfl ?_ | refine gE ?_ | refine seS_rfl ?_ | refine lsS_of hup ?_ | refine lsS_rfl ?_ | refine brS_tt ?_ | refine brS_ff ?_ | refine brS_not ?_ | refine gI ?_ | refine gT ?_ | refine gF ?_ | refine brS_intro (fun _ => ?_) (fun _ => ?_) | refine gL ?_ | refine gX ?_ | refine gO ?_ | refine gN ?_ | refine call_fs (l := [.sl 1000 am n cm, .int .i64 (Int.ofNat i), .int .i64 (Int.ofNat j)]) rfl rfl rfl (call_readL k81 ((addL (100 * (n - (i + 1)) + (6100 * (n - (j + 1)) + R)) 80)) (by rfl) (by exact SeesM.cons 1000 (sees_ro (i := 1000) (by rfl)) (SeesM.nil _) (fun _ _ _ _ _ _ x hx => by cases hx)) (nM1) ?_) | refine call_pure (c80 F _ (gv lo hi n j i j) i hs (by omega)) ?_ | refine seS_sb (by assumption) (by assumption) ?_ | intro _)
        conv => whnf
        exact ⟨n - (i + 1) + 1, [(0, .sl 1000 am n cm), (1, .fn 81 [.sl 1000 am n cm] []), (5, .sl 600 a1 n n), (12, .int .i64 (Int.ofNat n)), (13, .int .i64 (Int.ofNat j)), (6, .int .i64 (Int.ofNat j)), (17, .int .i64 (Int.ofNat n)), (18, .int .i64 (Int.ofNat (i + 1)))], [(600, .gr a1 n 103 1 (nu (gv lo hi n j (i + 1)))), (1000, .ro am n em 2 (mf lo hi))], (addL (100 * (n - (i + 1)) + (6100 * (n - (j + 1)) + R)) 60), 700, by omega, ⟨eqF_rfl _, eqF_rfl _, eqF_rfl _, eqF_rfl _, eqF_rfl _, eqF_rfl _, eqF_rfl _, ⟨congrArg (Value.int .i64) (smn (i := i + 1) (by omega)), rfl⟩, trivial⟩, by exact WG, nM1, i + 1, by omega, rfl, rfl, rfl, rfl, rfl⟩
      | false =>
        rw [hq] at k81
        have hg := fun z (_ : z < n) => gvN (n := n) hq z
        repeat' ((conv => whnf); first | refine eqS_rfl ?_ | refine eqA_rfl ?_ | refine eqA_of (by assumption) ?_ | refine eqS_of (by rfl) ?_ | refine eqL_rfl ?_ | refine eqJ_rfl ?_ | refine gE ?_ | refine seS_rfl ?_ | refine lsS_of hup ?_ | refine lsS_rfl ?_ | refine brS_tt ?_ | refine brS_ff ?_ | refine brS_not ?_ | refine gI ?_ | refine gT ?_ | refine gF ?_ | refine brS_intro (fun _ => ?_) (fun _ => ?_) | refine gL ?_ | refine gX ?_ | refine gO ?_ | refine gN ?_ | refine call_fs (l := [.sl 1000 am n cm, .int .i64 (Int.ofNat i), .int .i64 (Int.ofNat j)]) rfl rfl rfl (call_readL k81 ((addL (100 * (n - (i + 1)) + (6100 * (n - (j + 1)) + R)) 60)) (by rfl) (by exact SeesM.cons 1000 (sees_ro (i := 1000) (by rfl)) (SeesM.nil _) (fun _ _ _ _ _ _ x hx => by cases hx)) (nM1) ?_) | intro _)
        conv => whnf
        exact ⟨n - (i + 1) + 1, [(0, .sl 1000 am n cm), (1, .fn 81 [.sl 1000 am n cm] []), (5, .sl 600 a1 n n), (12, .int .i64 (Int.ofNat n)), (13, .int .i64 (Int.ofNat j)), (6, .int .i64 (Int.ofNat j)), (17, .int .i64 (Int.ofNat n)), (18, .int .i64 (Int.ofNat (i + 1)))], [(600, .gr a1 n 103 1 (nu (gv lo hi n j (i + 1)))), (1000, .ro am n em 2 (mf lo hi))], (addL (100 * (n - (i + 1)) + (6100 * (n - (j + 1)) + R)) 60), 700, by omega, ⟨eqF_rfl _, eqF_rfl _, eqF_rfl _, eqF_rfl _, eqF_rfl _, eqF_rfl _, eqF_rfl _, ⟨congrArg (Value.int .i64) (smn (i := i + 1) (by omega)), rfl⟩, trivial⟩, by exact WG, nM1, i + 1, by omega, rfl, rfl, rfl, rfl, rfl⟩
    · have e2 : n = i := by omega
      subst e2
      have h2 := iLt_f (Nat.le_refl n)
      have hg := fun z (_ : z < n) => gvJ (lo := lo) (hi := hi) (n := n) (j := j) z
      repeat' ((conv => whnf); first | refine eqS_rfl ?_ | refine eqA_rfl ?_ | refine eqA_of (by assumption) ?_ | refine eqS_of (by rfl) ?_ | refine eqL_rfl ?_ | refine eqJ_rfl ?_ | refine gE ?_ | refine seS_rfl ?_ | refine lsS_of hup ?_ | refine lsS_rfl ?_ | refine brS_tt ?_ | refine brS_ff ?_ | refine brS_not ?_ | refine gI ?_ | refine gT ?_ | refine gF ?_ | refine brS_intro (fun _ => ?_) (fun _ => ?_) | refine gL ?_ | refine gX ?_ | refine gO ?_ | refine gN ?_ | intro _)
      conv => whnf
      exact ⟨n - (j + 1) + 1, [(0, .sl 1000 am n cm), (1, .fn 81 [.sl 1000 am n cm] []), (5, .sl 600 a1 n n), (12, .int .i64 (Int.ofNat n)), (13, .int .i64 (Int.ofNat (j + 1)))], [(600, .gr a1 n 103 1 (nu (gv lo hi n (j + 1) 0))), (1000, .ro am n em 2 (mf lo hi))], (addL (6100 * (n - (j + 1)) + R) 60), 700, by omega, ⟨eqF_rfl _, eqF_rfl _, eqF_rfl _, eqF_rfl _, ⟨congrArg (Value.int .i64) (smn (i := j + 1) (by omega)), rfl⟩, trivial⟩, by exact WG, nM1, j + 1, by omega, rfl, rfl, rfl, rfl, rfl⟩
  · have e2 : n = j := by omega
    subst e2
    have h1 := iLt_f (Nat.le_refl n)
    have hg : ∀ z, z < n → nu (gv lo hi n n 0) z = nu (fun z => bsF lo hi z n) z := fun z hz => by
      show [u32 (gv lo hi n n 0 z)] = [u32 (bsF lo hi z n)]
      unfold gv
      rw [if_pos hz]
    repeat' ((conv => whnf); first | refine eqS_rfl ?_ | refine eqA_rfl ?_ | refine eqA_of (by assumption) ?_ | refine eqS_of (by rfl) ?_ | refine eqL_rfl ?_ | refine eqJ_rfl ?_ | refine gE ?_ | refine seS_rfl ?_ | refine lsS_of hup ?_ | refine lsS_rfl ?_ | refine brS_tt ?_ | refine brS_ff ?_ | refine brS_not ?_ | refine gI ?_ | refine gT ?_ | refine gF ?_ | refine brS_intro (fun _ => ?_) (fun _ => ?_) | refine gL ?_ | refine gX ?_ | refine gO ?_ | refine gN ?_ | intro _)
    conv => whnf
    exact ⟨⟨_, _, ⟨a1, rfl, rfl⟩, rfl, by exact WG⟩, nM1⟩
theorem c60 (F k q : Nat) (hF : 200 < F) (am : Option Addr) (n em cm : Nat) (lo hi : Nat → Nat) (hn : n ≤ 30) (R : Nat) : callS (CL F (k + 3)) (.fn 60 [] []) [.sl 1000 am n cm] [(1000, .ro am n em 2 (mf lo hi))] (addL R (210000 + 200)) 0 fun w m' R' _ => (∃ wv mm, QS q n (fun z => bsF lo hi z n) wv mm ∧ den w = den wv ∧ WkM m' mm) ∧ R ≤ R' := by
  rw [show 210000 + 200 = (210000) + 200 from rfl, addL_eq, ← Nat.add_assoc, ← addL_eq _ 200, Nat.add_comm R (210000)]
  refine call_in (n := 7) Try.func60 rfl rfl rfl rfl rfl rfl rfl ?_
  repeat' ((conv => whnf); first | refine eqS_rfl ?_ | refine eqA_rfl ?_ | refine eqA_of (by assumption) ?_ | refine eqS_of (by rfl) ?_ | refine eqL_rfl ?_ | refine eqJ_rfl ?_ | refine gE ?_ | refine seS_rfl ?_ | refine lsS_of hup ?_ | refine lsS_rfl ?_ | refine brS_tt ?_ | refine brS_ff ?_ | refine brS_not ?_ | refine gI ?_ | refine gT ?_ | refine gF ?_ | refine brS_intro (fun _ => ?_) (fun _ => ?_) | refine gL ?_ | refine gX ?_ | refine gO ?_ | refine gN ?_ | refine callQS (c83 F _ q hF am n em cm lo hi hn) (addL (5000 + R) 100) (by rfl) (by exact SeesM.cons 1000 (sees_ro (i := 1000) (by rfl)) (SeesM.nil _) (fun _ _ _ _ _ _ x hx => by cases hx)) (nM1) ?_ | intro _)
  rename_i a1
  conv => whnf
  exact ⟨⟨_, _, ⟨a1, rfl, rfl⟩, rfl, by exact WG⟩, nM1⟩
/-- whether a day can come just after a group -/
def fo (bs : Nat → Nat) (g d : Nat) : Bool := !g.testBit d && decide (bs d &&& (4294967295 - g) = 0)
theorem c84 (F k g b : Nat) (hg : g < 4294967296) (hb : b < 4294967296) (c : Bool) (hc : decide (b &&& (4294967295 - g) = 0) = c) : PureC (CL F (k + 1)) 84 [u32 g, u32 b] 2 (.bool c) := by
  have e : iEq (anI .u32 (Int.ofNat b) (Int.ofNat g)) 0 = c := by
    rw [an_u32 hb hg, ← hc]
    exact iEq_n (b := 0)
  intro m R
  refine call_in (n := 9) Try.func84 rfl rfl rfl rfl rfl rfl rfl ?_
  repeat' ((conv => whnf); first | refine eqS_rfl ?_ | refine eqA_rfl ?_ | refine eqA_of (by assumption) ?_ | refine eqS_of (by rfl) ?_ | refine eqL_rfl ?_ | refine eqJ_rfl ?_ | refine gE ?_ | refine seS_rfl ?_ | refine lsS_of hup ?_ | refine lsS_rfl ?_ | refine brS_tt ?_ | refine brS_ff ?_ | refine brS_not ?_ | refine gI ?_ | refine gT ?_ | refine gF ?_ | refine brS_intro (fun _ => ?_) (fun _ => ?_) | refine gL ?_ | refine gX ?_ | refine gO ?_ | refine gN ?_ | intro _)
  all_goals (conv => whnf)
  all_goals refine ⟨?_, by repeat' (first | exact WkM.refl _ | refine WkM.drop ?_), by repeat' (first | exact Nat.le_refl _ | refine Nat.le_succ_of_le ?_)⟩
  all_goals (exact congrArg Value.bool e)

theorem c61 (F k : Nat) (ab : Option Addr) (eb cb : Nat) (n : Nat) (bs : Nat → Nat) (hbs : ∀ j, j < n → bs j < 4294967296) (hn : n ≤ 30) (g d : Nat) (hg : g < 4294967296) (hd : d < n) (c : Bool) (hc : fo bs g d = c) : ReadC (CL F (k + 2)) 61 [.sl 1002 ab n cb, u32 g, .int .i64 (Int.ofNat d)] [(1002, .ro ab n eb 1 (nu bs))] (60 + 40) (.bool c) := by
  intro R
  rw [show 60 + 40 = (60) + 40 from rfl, addL_eq, ← Nat.add_assoc, ← addL_eq _ 40, Nat.add_comm R (60)]
  unfold fo at hc
  have k84 := c84 F k g (bs d) hg (hbs d hd)
  cases h1 : g.testBit d with
  | true =>
    have k79 := c79 F k g d hg (by omega) true h1
    rw [h1] at hc
    have hc : false = c := hc
    subst hc
    refine call_in (n := 19) Try.func61 rfl rfl rfl rfl rfl rfl rfl ?_
    repeat' ((conv => whnf); first | refine eqS_rfl ?_ | refine eqA_rfl ?_ | refine eqA_of (by assumption) ?_ | refine eqS_of (by rfl) ?_ | refine eqL_rfl ?_ | refine eqJ_rfl ?_ | refine gE ?_ | refine seS_rfl ?_ | refine lsS_of hup ?_ | refine lsS_rfl ?_ | refine brS_tt ?_ | refine brS_ff ?_ | refine brS_not ?_ | refine gI ?_ | refine gT ?_ | refine gF ?_ | refine brS_intro (fun _ => ?_) (fun _ => ?_) | refine gL ?_ | refine gX ?_ | refine gO ?_ | refine gN ?_ | refine call_pure k79 ?_ | intro _)
    conv => whnf
    exact ⟨rfl, nM1⟩
  | false =>
    have k79 := c79 F k g d hg (by omega) false h1
    rw [h1] at hc
    have hc : decide (bs d &&& (4294967295 - g) = 0) = c := hc
    have k84 := k84 c hc
    refine call_in (n := 19) Try.func61 rfl rfl rfl rfl rfl rfl rfl ?_
    repeat' ((conv => whnf); first | refine eqS_rfl ?_ | refine eqA_rfl ?_ | refine eqA_of (by assumption) ?_ | refine eqS_of (by rfl) ?_ | refine eqL_rfl ?_ | refine eqJ_rfl ?_ | refine gE ?_ | refine seS_rfl ?_ | refine lsS_of hup ?_ | refine lsS_rfl ?_ | refine brS_tt ?_ | refine brS_ff ?_ | refine brS_not ?_ | refine gI ?_ | refine gT ?_ | refine gF ?_ | refine brS_intro (fun _ => ?_) (fun _ => ?_) | refine gL ?_ | refine gX ?_ | refine gO ?_ | refine gN ?_ | refine call_pure k79 ?_ | refine call_pure k84 ?_ | intro _)
    conv => whnf
    exact ⟨rfl, nM1⟩
end Go.Proofs.Ytefnljdfgjjpjaa
namespace Go.Proofs.Ytefnljdfgjjpjaa
open Go.Ab
attribute [local irreducible] aggOk drwOK
set_option maxRecDepth 100000
set_option maxHeartbeats 4000000
set_option linter.unusedVariables false
set_option linter.unusedSimpArgs false
/-- how many days a set has (at most five) -/
def pc (g : Nat) : Nat := g % 2 + g / 2 % 2 + g / 4 % 2 + g / 8 % 2 + g / 16 % 2
theorem pcD : (List.range 6).all (fun n => (List.range 32).all fun g => !decide (g < 2 ^ n) || (decide (pc g ≤ n) && (decide (pc g < n) || (List.range n).all fun d => g.testBit d) && (decide (pc g = n) || (List.range n).any fun d => !g.testBit d) && (List.range n).all fun d => decide (wt g d < 2 ^ n) && (g.testBit d || decide (pc (wt g d) = pc g + 1)))) = true := by decide +kernel
structure PcF (n g : Nat) : Prop where
  le : pc g ≤ n
  full : pc g = n → ∀ d, d < n → g.testBit d = true
  some : pc g < n → ∃ d, d < n ∧ g.testBit d = false
  lt : ∀ d, d < n → wt g d < 2 ^ n
  wt : ∀ d, d < n → g.testBit d = false → pc (wt g d) = pc g + 1
theorem pcF {n g : Nat} (hn : n ≤ 5) (hg : g < 2 ^ n) : PcF n g := by
  have h := pcD
  have hg32 : g < 32 := Nat.lt_of_lt_of_le hg (Nat.pow_le_pow_right (by omega) hn)
  rw [List.all_eq_true] at h
  have h := h n (List.mem_range.2 (by omega))
  rw [List.all_eq_true] at h
  have h := h g (List.mem_range.2 hg32)
  rw [decide_eq_true hg, Bool.not_true, Bool.false_or] at h
  simp only [Bool.and_eq_true, Bool.or_eq_true, decide_eq_true_eq, List.all_eq_true, List.any_eq_true, List.mem_range] at h
  obtain ⟨⟨⟨h1, h2⟩, h3⟩, h4⟩ := h
  refine ⟨h1, fun e => ?_, fun e => ?_, fun d hd => (h4 d hd).1, fun d hd hb => ?_⟩
  · rcases h2 with h2 | h2
    · omega
    · exact h2
  · rcases h3 with h3 | ⟨d, hd, h3⟩
    · omega
    · refine ⟨d, hd, ?_⟩
      cases hh : g.testBit d with
      | false => rfl
      | true => rw [hh] at h3; cases h3
  · rcases (h4 d hd).2 with h5 | h5
    · rw [hb] at h5; cases h5
    · exact h5
section
variable (n : Nat) (f : Nat → Nat → Bool)
/-- the orders of what is left, so many days, after a group -/
def oC : Nat → Nat → List (List Nat)
  | 0, _ => [[]]
  | k + 1, g => (List.range n).flatMap fun d => if f g d = true then (oC k (wt g d)).map (d :: ·) else []
/-- those of them that begin with one of the first days -/
def oJ (k g j : Nat) : List (List Nat) := (List.range j).flatMap fun d => if f g d = true then (oC n f k (wt g d)).map (d :: ·) else []
/-- how many there are -/
def oW (k g : Nat) : Nat := (oC n f k g).length
theorem oC_oJ (k g : Nat) : oC n f (k + 1) g = oJ n f k g n := rfl
theorem oJ_succ (k g j : Nat) : oJ n f k g (j + 1) = oJ n f k g j ++ (if f g j = true then (oC n f k (wt g j)).map (j :: ·) else []) := by
  unfold oJ
  rw [List.range_succ, List.flatMap_append]
  simp
theorem oJ_len_t {k g j : Nat} (h : f g j = true) : (oJ n f k g (j + 1)).length = (oJ n f k g j).length + oW n f k (wt g j) := by
  rw [oJ_succ, if_pos h, List.length_append, List.length_map]; rfl
theorem oJ_len_f {k g j : Nat} (h : f g j = false) : (oJ n f k g (j + 1)).length = (oJ n f k g j).length := by
  rw [oJ_succ, if_neg (by rw [h]; simp), List.append_nil]
theorem oJ_mono (k g : Nat) {i j : Nat} (h : i ≤ j) : (oJ n f k g i).length ≤ (oJ n f k g j).length := by
  induction j with
  | zero => have : i = 0 := by omega
            subst this; exact Nat.le_refl _
  | succ j ih =>
    by_cases e : i = j + 1
    · subst e; exact Nat.le_refl _
    · rw [oJ_succ, List.length_append]
      have := ih (by omega)
      omega
theorem oJ_get {k g q : Nat} {o : List Nat} : ∀ {m : Nat}, (oJ n f k g m)[q]? = some o → ∃ d l, d < m ∧ f g d = true ∧ o = d :: l ∧ (oJ n f k g d).length ≤ q ∧ (oC n f k (wt g d))[q - (oJ n f k g d).length]? = some l
  | 0, h => by cases h
  | m + 1, h => by
    rw [oJ_succ] at h
    by_cases hq : q < (oJ n f k g m).length
    · rw [List.getElem?_append_left hq] at h
      obtain ⟨d, l, hd, h1⟩ := oJ_get h
      exact ⟨d, l, by omega, h1⟩
    · rw [List.getElem?_append_right (by omega)] at h
      by_cases hf : f g m = true
      · rw [if_pos hf, List.getElem?_map] at h
        cases hx : (oC n f k (wt g m))[q - (oJ n f k g m).length]? with
        | none => rw [hx] at h; cases h
        | some l =>
          rw [hx] at h
          cases h
          exact ⟨m, l, by omega, hf, rfl, by omega, hx⟩
      · rw [if_neg hf] at h
        simp at h
/-- the number of an order -/
def nm : Nat → Nat → List Nat → Nat
  | k + 1, g, d :: l => (oJ n f k g d).length + nm k (wt g d) l
  | _, _, _ => 0
theorem nm_idx {q : Nat} : ∀ {k g q : Nat} {o : List Nat}, (oC n f k g)[q]? = some o → nm n f k g o = q
  | 0, g, q, o, h => by
    have h : ([[]] : List (List Nat))[q]? = some o := h
    match q, h with
    | 0, _ => rfl
    | q + 1, h => cases h
  | k + 1, g, q, o, h => by
    rw [oC_oJ] at h
    obtain ⟨d, l, hd, hf, rfl, hle, hx⟩ := oJ_get n f h
    show (oJ n f k g d).length + nm n f k (wt g d) l = q
    rw [nm_idx (q := q) hx]
    omega
/-- days are tried one after the other, until one may come -/
def scanL {σ : Type} (step : σ → Nat → Bool × σ) : List Nat → σ → Option Nat × σ
  | [], st => (none, st)
  | d :: ds, st => bif (step st d).1 then (some d, (step st d).2) else scanL step ds (step st d).2
/-- an order grows -/
inductive Run {σ : Type} (step : Nat → σ → Nat → Bool × σ) : σ → Nat → List Nat → σ → Prop
  | stop {st g st'} : scanL (step g) (List.range n) st = (none, st') → Run step st g [] st'
  | more {st g d l st' st''} : d < n → scanL (step g) (List.range n) st = (some d, st') → Run step st' (wt g d) l st'' → Run step st g (d :: l) st''
/-- the steps of an order with a number -/
def stN (Wf : Nat → Nat) (g : Nat) (st d : Nat) : Bool × Nat := bif f g d then (bif decide (st < Wf (wt g d)) then (true, st) else (false, st - Wf (wt g d))) else (false, st)
end
theorem range'_cons {m n : Nat} (h : m < n) : List.range' m (n - m) = m :: List.range' (m + 1) (n - (m + 1)) := by
  rw [show n - m = (n - (m + 1)) + 1 by omega, List.range'_succ]
theorem scanN {n : Nat} {f : Nat → Nat → Bool} {Wf : Nat → Nat} {k g d q : Nat} (hd : d < n) (hf : f g d = true) (hW : ∀ e, e < n → f g e = true → Wf (wt g e) = oW n f k (wt g e)) (h1 : (oJ n f k g d).length ≤ q) (h2 : q < (oJ n f k g (d + 1)).length) :
    ∀ j m, d - m = j → m ≤ d → scanL (stN f Wf g) (List.range' m (n - m)) (q - (oJ n f k g m).length) = (some d, q - (oJ n f k g d).length) := by
  intro j
  induction j with
  | zero =>
    intro m hm hle
    have e : m = d := by omega
    subst e
    rw [range'_cons hd]
    show (bif (stN f Wf g _ m).1 then _ else _) = _
    have : stN f Wf g (q - (oJ n f k g m).length) m = (true, q - (oJ n f k g m).length) := by
      unfold stN
      rw [hf, cond_true, hW m hd hf]
      rw [oJ_len_t n f hf] at h2
      rw [decide_eq_true (by omega), cond_true]
    rw [this]
    rfl
  | succ j ih =>
    intro m hm hle
    have hmd : m < d := by omega
    rw [range'_cons (by omega : m < n)]
    show (bif (stN f Wf g _ m).1 then _ else scanL (stN f Wf g) _ (stN f Wf g _ m).2) = _
    have hmono := oJ_mono n f k g (show m + 1 ≤ d by omega)
    have : stN f Wf g (q - (oJ n f k g m).length) m = (false, q - (oJ n f k g (m + 1)).length) := by
      unfold stN
      cases hm1 : f g m with
      | true =>
        rw [oJ_len_t n f hm1] at hmono ⊢
        rw [cond_true, hW m (by omega) hm1, decide_eq_false (by omega), cond_false, Nat.sub_sub]
      | false =>
        rw [oJ_len_f n f hm1, cond_false]
    rw [this]
    exact ih (m + 1) (by omega) (by omega)
theorem scan_none {σ : Type} {step : σ → Nat → Bool × σ} {st : σ} : ∀ {l : List Nat}, (∀ d ∈ l, step st d = (false, st)) → scanL step l st = (none, st)
  | [], _ => rfl
  | d :: ds, h => by
    show (bif (step st d).1 then _ else scanL step ds (step st d).2) = _
    rw [h d (by simp)]
    exact scan_none fun e he => h e (by simp [he])
theorem range_range' (n : Nat) : List.range n = List.range' 0 (n - 0) := List.range_eq_range'
/-- what is asked of steps -/
structure StepF (n : Nat) (f : Nat → Nat → Bool) : Prop where
  no : ∀ g d, f g d = true → g.testBit d = false
  ex : ∀ g, g < 2 ^ n → pc g < n → ∃ d, d < n ∧ f g d = true
theorem oC_ne {n : Nat} (hn : n ≤ 5) {f : Nat → Nat → Bool} (hF : StepF n f) : ∀ {k g : Nat}, g < 2 ^ n → pc g + k = n → 0 < oW n f k g
  | 0, _, _, _ => by show 0 < [[]].length; simp
  | k + 1, g, hg, hk => by
    obtain ⟨d, hd, hf⟩ := hF.ex g hg (by omega)
    have h := pcF hn hg
    have := oC_ne hn hF (k := k) (h.lt d hd) (by rw [h.wt d hd (hF.no g d hf)]; omega)
    show 0 < (oJ n f k g n).length
    have h2 := oJ_mono n f k g (show d + 1 ≤ n by omega)
    rw [oJ_len_t n f hf] at h2
    omega
/-- ways after a group -/
def Wg (n : Nat) (f : Nat → Nat → Bool) (g : Nat) : Nat := oW n f (n - pc g) g
theorem runN {n : Nat} (hn : n ≤ 5) {f : Nat → Nat → Bool} (hF : StepF n f) : ∀ {k g q : Nat} {o : List Nat}, g < 2 ^ n → pc g + k = n → (oC n f k g)[q]? = some o → ∃ st, Run n (stN f (Wg n f)) q g o st
  | 0, g, q, o, hg, hk, h => by
    have h : ([[]] : List (List Nat))[q]? = some o := h
    have hfull := (pcF hn hg).full (by omega)
    match q, h with
    | q + 1, h => cases h
    | 0, h =>
      cases h
      refine ⟨0, .stop (scan_none fun d hd => ?_)⟩
      unfold stN
      cases hf : f g d with
      | false => rfl
      | true =>
        have := hF.no g d hf
        rw [hfull d (List.mem_range.1 hd)] at this
        cases this
  | k + 1, g, q, o, hg, hk, h => by
    rw [oC_oJ] at h
    have hlen := (List.getElem?_eq_some_iff.1 h).1
    obtain ⟨d, l, hd, hf, rfl, hle, hx⟩ := oJ_get n f h
    have hp := pcF hn hg
    have hW : ∀ e, e < n → f g e = true → Wg n f (wt g e) = oW n f k (wt g e) := fun e he hfe => by
      unfold Wg
      rw [hp.wt e he (hF.no g e hfe), show n - (pc g + 1) = k by omega]
    have hlt := (List.getElem?_eq_some_iff.1 hx).1
    have hs := scanN (Wf := Wg n f) hd hf hW hle (by rw [oJ_len_t n f hf]; show q < _ + (oC n f k (wt g d)).length; omega) (d - 0) 0 rfl (Nat.zero_le _)
    rw [← range_range', show (oJ n f k g 0).length = 0 from rfl, Nat.sub_zero] at hs
    obtain ⟨st, hr⟩ := runN hn hF (hp.lt d hd) (by rw [hp.wt d hd (hF.no g d hf)]; omega) hx
    exact ⟨st, .more hd hs hr⟩
theorem scanF {n : Nat} {f : Nat → Nat → Bool} {g d : Nat} (hd : d < n) (hf : f g d = true) (hb : ∀ e, e < d → f g e = false) : ∀ j m, d - m = j → m ≤ d → scanL (fun (_ : Unit) e => (f g e, ())) (List.range' m (n - m)) () = (some d, ()) := by
  intro j
  induction j with
  | zero =>
    intro m hm hle
    have e : m = d := by omega
    subst e
    rw [range'_cons hd]
    show (bif f g m then _ else _) = _
    rw [hf]; rfl
  | succ j ih =>
    intro m hm hle
    rw [range'_cons (by omega : m < n)]
    show (bif f g m then _ else scanL _ _ ()) = _
    rw [hb m (by omega)]
    exact ih (m + 1) (by omega) (by omega)
theorem runF {n : Nat} (hn : n ≤ 5) {f : Nat → Nat → Bool} (hF : StepF n f) : ∀ {k g : Nat} {o : List Nat}, g < 2 ^ n → pc g + k = n → (oC n f k g)[0]? = some o → Run n (fun g (_ : Unit) d => (f g d, ())) () g o ()
  | 0, g, o, hg, hk, h => by
    have h : ([[]] : List (List Nat))[0]? = some o := h
    have hfull := (pcF hn hg).full (by omega)
    cases h
    refine .stop (scan_none fun d hd => ?_)
    cases hf : f g d with
    | false => rfl
    | true =>
      have := hF.no g d hf
      rw [hfull d (List.mem_range.1 hd)] at this
      cases this
  | k + 1, g, o, hg, hk, h => by
    rw [oC_oJ] at h
    obtain ⟨d, l, hd, hf, rfl, hle, hx⟩ := oJ_get n f h
    have hp := pcF hn hg
    have hb : ∀ e, e < d → f g e = false := fun e he => by
      cases hfe : f g e with
      | false => rfl
      | true =>
        have h1 := oJ_mono n f k g (show e + 1 ≤ d by omega)
        rw [oJ_len_t n f hfe] at h1
        have := oC_ne hn hF (k := k) (hp.lt e (by omega)) (by rw [hp.wt e (by omega) (hF.no g e hfe)]; omega)
        omega
    have hs := scanF hd hf hb (d - 0) 0 rfl (Nat.zero_le _)
    rw [← range_range'] at hs
    rw [show 0 - (oJ n f k g d).length = 0 by omega] at hx
    exact .more hd hs (runF hn hF (hp.lt d hd) (by rw [hp.wt d hd (hF.no g d hf)]; omega) hx)
end Go.Proofs.Ytefnljdfgjjpjaa
namespace Go.Proofs.Ytefnljdfgjjpjaa
open Go.Ab
attribute [local irreducible] aggOk drwOK
set_option maxRecDepth 100000
set_option maxHeartbeats 4000000
set_option linter.unusedVariables false
set_option linter.unusedSimpArgs false
/-- a step that is asked: whether a day may come after a group; what it keeps is known -/
def StepC {σ : Type} (call : CallT) (fv : SV) (M : σ → Mem → Prop) (step : Nat → σ → Nat → Bool × σ) (n c : Nat) : Prop :=
  ∀ st g d m1 rest R, g < 2 ^ n → d < n → M st m1 → callS call fv [u32 g, .int .i64 (Int.ofNat d)] (m1 ++ rest) (addL R c) 3000 fun w m' R' _ => R ≤ R' ∧ den w = .bool (step g st d).1 ∧ ∃ m2, M (step g st d).2 m2 ∧ WkM m' (m2 ++ rest)
theorem WkM.mid3 (a b r : Mem) : WkM (a ++ (b ++ r)) (b ++ (a ++ r)) := by
  rw [← List.append_assoc, ← List.append_assoc]
  exact WkM.perm (List.Perm.append_right r List.perm_append_comm)
theorem callStep {σ : Type} {call : CallT} {fv : SV} {M : σ → Mem → Prop} {step : Nat → σ → Nat → Bool × σ} {n c : Nat} (h : StepC call fv M step n c) (own : Mem) {st st3 : σ} {g d : Nat} {b : Bool} {m1 rest mm : Mem} (hw : WkM mm (own ++ (m1 ++ rest))) (hg : g < 2 ^ n) (hd : d < n) (hM : M st m1) (hb : step g st d = (b, st3)) (R2 : Nat) {R ni : Nat} {K : SV → Mem → Nat → Nat → Prop} (hN : R2 + c ≤ R)
    (hK : ∀ m2, M st3 m2 → K (.bool b) (own ++ (m2 ++ rest)) R2 ni) : callS call fv [u32 g, .int .i64 (Int.ofNat d)] mm R ni K := by
  refine callS.wk (hw.trans (WkM.mid3 own m1 rest)) ?_
  have h1 := h st g d m1 (own ++ rest) (R - c) hg hd hM
  rw [addL_eq, Nat.sub_add_cancel (by omega), hb] at h1
  refine callS.ni 3000 (call_post h1 fun w m' R' n' ⟨hR, hw2, m2, hM2, hwk⟩ => ⟨.bool b, own ++ (m2 ++ rest), R2, ni, hw2, hwk.trans (WkM.mid3 m2 own rest), by omega, hK m2 hM2⟩)
theorem call82 {call : CallT} {fv fv0 : SV} {args args0 : List SV} {mm M0 : Mem} {N q R0 : Nat} {MM : Mem → Prop} {FF : Option Addr → Mem → Mem} (h : callS call fv0 args0 M0 (addL R0 N) 3000 fun w m' R' _ => R0 ≤ R' ∧ ∃ a2 m2, MM m2 ∧ den w = Value.slice a2 q q ∧ WkM m' (FF a2 m2)) {R ni : Nat} {K : SV → Mem → Nat → Nat → Prop} (hfv : den fv = den fv0) (ha : dens args = dens args0) (hw : WkM mm M0) (hN : R0 + N ≤ R)
    (hK : ∀ a2 m2, MM m2 → K (.sl 920 a2 q q) (FF a2 m2) R0 ni) : callS call fv args mm R ni K := by
  refine callS.cast (fv' := fv0) (args' := args0) hfv ha (callS.wk hw (callS.less (R' := addL R0 N) (by rw [addL_eq]; exact hN) (callS.ni 3000 ?_)))
  exact call_post h fun w m' R' n' ⟨hR, a2, m2, hM, hd, hwk⟩ => ⟨.sl 920 a2 q q, FF a2 m2, R0, ni, hd, hwk, hR, hK a2 m2 hM⟩
theorem c82 (F e n c : Nat) (hF : 200 < F) (hn : n ≤ 5) {σ : Type} (M : σ → Mem → Prop) (step : Nat → σ → Nat → Bool × σ) (gf : FuncId) (fs cs : List SV) (hv : vqS (.fn gf fs cs) = true) (hS : ∀ D, StepC (CL F (D + e)) (.fn gf fs cs) M step n c) (bd bm bc C : Nat) (hC : C = (c + 60) * n + 300) : ∀ {st : σ} {g : Nat} {l : List Nat} {st9 : σ}, Run n step st g l st9 → g < 2 ^ n →
    ∀ (d : Nat) (a1 : Option Addr) (L : List Nat) (nL : Nat) (m1 rest : Mem) (R : Nat), L.length = nL → 0 < nL → nL + l.length ≤ 10 → M st m1 → callS (CL F (d + l.length + e + 1)) (.fn 82 [] [.ptr 910 bd 0, .ptr 911 bm 0, .ptr 912 bc 0]) [.sl 920 a1 nL nL, u32 g] ((920, .gr a1 nL 3 1 (nf fun z => List.getD L z 0)) :: (910, .own bd 3 [.int .i64 (Int.ofNat n)]) :: (911, .own bm 88 [.fn gf fs cs]) :: (912, .own bc 107 [.fn 82 [] [.ptr 910 bd 0, .ptr 911 bm 0, .ptr 912 bc 0]]) :: (m1 ++ rest)) (addL R (C * (l.length + 1))) 3000 fun w m' R' _ => R ≤ R' ∧ ∃ a2 m2, M st9 m2 ∧ den w = Value.slice a2 (nL + l.length) (nL + l.length) ∧ WkM m' ((920, .gr a2 (nL + l.length) 3 1 (nf fun z => List.getD (L ++ l) z 0)) :: (910, .own bd 3 [.int .i64 (Int.ofNat n)]) :: (911, .own bm 88 [.fn gf fs cs]) :: (912, .own bc 107 [.fn 82 [] [.ptr 910 bd 0, .ptr 911 bm 0, .ptr 912 bc 0]]) :: (m2 ++ rest)) := by
  intro st g l st9 hrun
  induction hrun with
  | @stop st g st9 hs =>
    intro hg d a1 L nL m1 rest R hL hL0 hL10 hM
    have hs0 : scanL (step g) (List.range' 0 (n - 0)) st = (none, st9) := by rw [← range_range']; exact hs
    obtain ⟨RR, hRR⟩ : ∃ RR, RR = R + 100 := ⟨_, rfl⟩
    have hR1 : addL R (C * (([] : List Nat).length + 1)) = addL ((c + 60) * n + RR) 200 := by rw [addL_eq, addL_eq, hC, hRR]; show R + ((c + 60) * n + 300) * 1 = _; omega
    rw [hR1]
    refine callS.cast (fv' := .fn 82 [] [.ptr 910 bd 0, .ptr 911 bm 0, .ptr 912 bc 0]) (args' := [.sl 920 a1 nL nL, u32 g]) rfl rfl ?_
    refine call_in (n := 33) Try.func82 rfl rfl rfl rfl rfl rfl rfl ?_
    repeat' ((conv => whnf); first | refine eqS_rfl ?_ | refine eqA_rfl ?_ | refine eqA_of (by assumption) ?_ | refine eqS_of (by rfl) ?_ | refine eqL_rfl ?_ | refine eqJ_rfl ?_ | refine gE ?_ | refine seS_rfl ?_ | refine lsS_of hup ?_ | refine lsS_rfl ?_ | refine brS_tt ?_ | refine brS_ff ?_ | refine brS_not ?_ | refine gI ?_ | refine gT ?_ | refine gF ?_ | refine brS_intro (fun _ => ?_) (fun _ => ?_) | refine gL ?_ | refine gX ?_ | refine gO ?_ | refine gN ?_ | intro _)
    conv => whnf
    refine loS_i (fun jj f mm R' ni => ∃ (j : Nat) (st2 : σ) (m2 : Mem), j ≤ n ∧ M st2 m2 ∧ scanL (step g) (List.range' j (n - j)) st2 = (none, st9) ∧ jj = n - j + 1 ∧ f = [(0, .sl 920 a1 nL nL), (1, u32 g), (2, .ptr 910 bd 0), (3, .ptr 911 bm 0), (4, .ptr 912 bc 0), (9, .int .i64 (Int.ofNat n)), (10, .int .i64 (Int.ofNat j))] ∧ mm = (920, .gr a1 nL 3 1 (nf fun z => List.getD L z 0)) :: (910, .own bd 3 [.int .i64 (Int.ofNat n)]) :: (911, .own bm 88 [.fn gf fs cs]) :: (912, .own bc 107 [.fn 82 [] [.ptr 910 bd 0, .ptr 911 bm 0, .ptr 912 bc 0]]) :: (m2 ++ rest) ∧ R' = (addL ((c + 60) * (n - j) + RR) 100) ∧ ni = 950) (n + 1) (by omega)
      ⟨[(0, .sl 920 a1 nL nL), (1, u32 g), (2, .ptr 910 bd 0), (3, .ptr 911 bm 0), (4, .ptr 912 bc 0), (9, .int .i64 (Int.ofNat n)), (10, .int .i64 (Int.ofNat 0))], (920, .gr a1 nL 3 1 (nf fun z => List.getD L z 0)) :: (910, .own bd 3 [.int .i64 (Int.ofNat n)]) :: (911, .own bm 88 [.fn gf fs cs]) :: (912, .own bc 107 [.fn 82 [] [.ptr 910 bd 0, .ptr 911 bm 0, .ptr 912 bc 0]]) :: (m1 ++ rest), (addL ((c + 60) * (n - 0) + RR) 100), 950, ⟨eqF_rfl _, eqF_rfl _, eqF_rfl _, eqF_rfl _, eqF_rfl _, eqF_rfl _, eqF_rfl _, trivial⟩, WkM.refl _, by rw [Nat.sub_zero]; (first | (simp only [addL_eq, addL_rec]; omega) | omega | exact Nat.le_refl _), 0, st, m1, by omega, hM, hs0, by omega, rfl, rfl, rfl, rfl⟩ ?_
    rintro _ _ _ _ _ ⟨j, st2, m2, hj, hM2, hs2, rfl, rfl, rfl, rfl, rfl⟩
    by_cases hlt : j < n
    · have h1 := iLt_t hlt
      have hb : (c + 60) * (n - j) = (c + 60) * (n - (j + 1)) + (c + 60) := by rw [← Nat.mul_succ]; congr 1; omega
      rw [range'_cons hlt] at hs2
      have hs2 : (bif (step g st2 j).1 then (some j, (step g st2 j).2) else scanL (step g) (List.range' (j + 1) (n - (j + 1))) (step g st2 j).2) = (none, st9) := hs2
      obtain ⟨b2, st3, hb2⟩ : ∃ b2 st3, step g st2 j = (b2, st3) := ⟨_, _, rfl⟩
      rw [hb2] at hs2
      cases b2 with
      | true => cases hs2
      | false =>
        have hs3 : scanL (step g) (List.range' (j + 1) (n - (j + 1))) st3 = (none, st9) := hs2
        repeat' ((conv => whnf); first | refine eqS_rfl ?_ | refine eqA_rfl ?_ | refine eqA_of (by assumption) ?_ | refine eqS_of (by rfl) ?_ | refine eqL_rfl ?_ | refine eqJ_rfl ?_ | refine gE ?_ | refine seS_rfl ?_ | refine lsS_of hup ?_ | refine lsS_rfl ?_ | refine brS_tt ?_ | refine brS_ff ?_ | refine brS_not ?_ | refine gI ?_ | refine gT ?_ | refine gF ?_ | refine brS_intro (fun _ => ?_) (fun _ => ?_) | refine gL ?_ | refine gX ?_ | refine gO ?_ | refine gN ?_ | refine callStep (hS _) [(920, .gr a1 nL 3 1 (nf fun z => List.getD L z 0)), (910, .own bd 3 [.int .i64 (Int.ofNat n)]), (911, .own bm 88 [.fn gf fs cs]), (912, .own bc 107 [.fn 82 [] [.ptr 910 bd 0, .ptr 911 bm 0, .ptr 912 bc 0]])] (WkM.refl _) hg hlt hM2 hb2 (addL ((c + 60) * (n - (j + 1)) + RR) 130) (nM1) ?_ | intro _)
        rename_i m3 hM3
        conv => whnf
        exact ⟨n - (j + 1) + 1, [(0, .sl 920 a1 nL nL), (1, u32 g), (2, .ptr 910 bd 0), (3, .ptr 911 bm 0), (4, .ptr 912 bc 0), (9, .int .i64 (Int.ofNat n)), (10, .int .i64 (Int.ofNat (j + 1)))], (920, .gr a1 nL 3 1 (nf fun z => List.getD L z 0)) :: (910, .own bd 3 [.int .i64 (Int.ofNat n)]) :: (911, .own bm 88 [.fn gf fs cs]) :: (912, .own bc 107 [.fn 82 [] [.ptr 910 bd 0, .ptr 911 bm 0, .ptr 912 bc 0]]) :: (_ ++ rest), (addL ((c + 60) * (n - (j + 1)) + RR) 100), 950, by omega, ⟨eqF_rfl _, eqF_rfl _, eqF_rfl _, eqF_rfl _, eqF_rfl _, eqF_rfl _, ⟨congrArg (Value.int .i64) (smn (i := j + 1) (by omega)), rfl⟩, trivial⟩, WkM.refl _, nM1, j + 1, st3, _, by omega, hM3, hs3, rfl, rfl, rfl, rfl, rfl⟩
    · have e2 : n = j := by omega
      subst e2
      have h1 := iLt_f (Nat.le_refl n)
      rw [Nat.sub_self] at hs2
      have hs2 : (none, st2) = (none, st9) := hs2
      cases hs2
      repeat' ((conv => whnf); first | refine eqS_rfl ?_ | refine eqA_rfl ?_ | refine eqA_of (by assumption) ?_ | refine eqS_of (by rfl) ?_ | refine eqL_rfl ?_ | refine eqJ_rfl ?_ | refine gE ?_ | refine seS_rfl ?_ | refine lsS_of hup ?_ | refine lsS_rfl ?_ | refine brS_tt ?_ | refine brS_ff ?_ | refine brS_not ?_ | refine gI ?_ | refine gT ?_ | refine gF ?_ | refine brS_intro (fun _ => ?_) (fun _ => ?_) | refine gL ?_ | refine gX ?_ | refine gO ?_ | refine gN ?_ | intro _)
      conv => whnf
      exact ⟨by rw [hRR]; (first | (simp only [addL_eq, addL_rec]; omega) | omega | exact Nat.le_refl _), a1, m2, hM2, rfl, by rw [List.append_nil]; exact WkM.refl _⟩
  | @more st g dd l st2' st9 hdn hs hr ih =>
    intro hg d a1 L nL m1 rest R hL hL0 hl10 hM
    have hs0 : scanL (step g) (List.range' 0 (n - 0)) st = (some dd, st2') := by rw [← range_range']; exact hs
    have hg32 : g < 4294967296 := Nat.lt_of_lt_of_le hg (Nat.le_trans (Nat.pow_le_pow_right (by omega) hn) (by decide))
    obtain ⟨D, hD⟩ : ∃ D, D = d + l.length + e := ⟨_, rfl⟩
    have hD1 : d + (dd :: l).length + e = D + 1 := by rw [hD, List.length_cons]; omega
    rw [hD1]
    have hS2 : ∀ _ : Unit, StepC (CL F (D + 1)) (.fn gf fs cs) M step n c := fun _ => by have h := hS (d + (dd :: l).length); rw [hD1] at h; exact h
    obtain ⟨RR, hRR⟩ : ∃ RR, RR = R + C * (l.length + 1) + 100 := ⟨_, rfl⟩
    have hR1 : addL R (C * ((dd :: l).length + 1)) = addL ((c + 60) * n + RR) 200 := by
      rw [addL_eq, addL_eq, hRR, List.length_cons, Nat.mul_succ C (l.length + 1)]
      rw [hC]; omega
    rw [hR1]
    refine callS.cast (fv' := .fn 82 [] [.ptr 910 bd 0, .ptr 911 bm 0, .ptr 912 bc 0]) (args' := [.sl 920 a1 nL nL, u32 g]) rfl rfl ?_
    refine call_in (n := 33) Try.func82 rfl rfl rfl rfl rfl rfl rfl ?_
    repeat' ((conv => whnf); first | refine eqS_rfl ?_ | refine eqA_rfl ?_ | refine eqA_of (by assumption) ?_ | refine eqS_of (by rfl) ?_ | refine eqL_rfl ?_ | refine eqJ_rfl ?_ | refine gE ?_ | refine seS_rfl ?_ | refine lsS_of hup ?_ | refine lsS_rfl ?_ | refine brS_tt ?_ | refine brS_ff ?_ | refine brS_not ?_ | refine gI ?_ | refine gT ?_ | refine gF ?_ | refine brS_intro (fun _ => ?_) (fun _ => ?_) | refine gL ?_ | refine gX ?_ | refine gO ?_ | refine gN ?_ | intro _)
    conv => whnf
    refine loS_i (fun jj f mm R' ni => ∃ (j : Nat) (st2 : σ) (m2 : Mem), j ≤ n ∧ M st2 m2 ∧ scanL (step g) (List.range' j (n - j)) st2 = (some dd, st2') ∧ jj = n - j + 1 ∧ f = [(0, .sl 920 a1 nL nL), (1, u32 g), (2, .ptr 910 bd 0), (3, .ptr 911 bm 0), (4, .ptr 912 bc 0), (9, .int .i64 (Int.ofNat n)), (10, .int .i64 (Int.ofNat j))] ∧ mm = (920, .gr a1 nL 3 1 (nf fun z => List.getD L z 0)) :: (910, .own bd 3 [.int .i64 (Int.ofNat n)]) :: (911, .own bm 88 [.fn gf fs cs]) :: (912, .own bc 107 [.fn 82 [] [.ptr 910 bd 0, .ptr 911 bm 0, .ptr 912 bc 0]]) :: (m2 ++ rest) ∧ R' = (addL ((c + 60) * (n - j) + RR) 100) ∧ ni = 950) (n + 1) (by omega)
      ⟨[(0, .sl 920 a1 nL nL), (1, u32 g), (2, .ptr 910 bd 0), (3, .ptr 911 bm 0), (4, .ptr 912 bc 0), (9, .int .i64 (Int.ofNat n)), (10, .int .i64 (Int.ofNat 0))], (920, .gr a1 nL 3 1 (nf fun z => List.getD L z 0)) :: (910, .own bd 3 [.int .i64 (Int.ofNat n)]) :: (911, .own bm 88 [.fn gf fs cs]) :: (912, .own bc 107 [.fn 82 [] [.ptr 910 bd 0, .ptr 911 bm 0, .ptr 912 bc 0]]) :: (m1 ++ rest), (addL ((c + 60) * (n - 0) + RR) 100), 950, ⟨eqF_rfl _, eqF_rfl _, eqF_rfl _, eqF_rfl _, eqF_rfl _, eqF_rfl _, eqF_rfl _, trivial⟩, WkM.refl _, by rw [Nat.sub_zero]; (first | (simp only [addL_eq, addL_rec]; omega) | omega | exact Nat.le_refl _), 0, st, m1, by omega, hM, hs0, by omega, rfl, rfl, rfl, rfl⟩ ?_
    rintro _ _ _ _ _ ⟨j, st2, m2, hj, hM2, hs2, rfl, rfl, rfl, rfl, rfl⟩
    by_cases hlt : j < n
    · have h1 := iLt_t hlt
      have hb : (c + 60) * (n - j) = (c + 60) * (n - (j + 1)) + (c + 60) := by rw [← Nat.mul_succ]; congr 1; omega
      rw [range'_cons hlt] at hs2
      have hs2 : (bif (step g st2 j).1 then (some j, (step g st2 j).2) else scanL (step g) (List.range' (j + 1) (n - (j + 1))) (step g st2 j).2) = (some dd, st2') := hs2
      obtain ⟨b2, st3, hb2⟩ : ∃ b2 st3, step g st2 j = (b2, st3) := ⟨_, _, rfl⟩
      rw [hb2] at hs2
      cases b2 with
      | true =>
        have hs2 : (some j, st3) = (some dd, st2') := hs2
        cases hs2
        have hg9 := growT (n := nL) (sz := 1) (f := nf fun z => List.getD L z 0) (g := nf fun z => List.getD (L ++ [dd]) z 0) (l := [.int .i64 (Int.ofNat dd)]) (fun q hq => by show [SV.int .i64 (Int.ofNat (L.getD q 0))] = [SV.int .i64 (Int.ofNat ((L ++ [dd]).getD q 0))]; rw [app_getD_lt (by omega)]) rfl (by show [SV.int .i64 (Int.ofNat ((L ++ [dd]).getD nL 0))] = _; rw [← hL, app_getD])
        have ih2 := fun a m3 (hM3 : M st2' m3) => ih ((pcF hn hg).lt dd hdn) d a (L ++ [dd]) (nL + 1) m3 rest (R + 0) (by rw [List.length_append, hL]; rfl) (by omega) (by simp only [List.length_cons] at hl10; omega) hM3
        rw [← hD] at ih2
        repeat' ((conv => whnf); first | refine eqS_rfl ?_ | refine eqA_rfl ?_ | refine eqA_of (by assumption) ?_ | refine eqS_of (by rfl) ?_ | refine eqL_rfl ?_ | refine eqJ_rfl ?_ | refine gE ?_ | refine seS_rfl ?_ | refine lsS_of hup ?_ | refine lsS_rfl ?_ | refine brS_tt ?_ | refine brS_ff ?_ | refine brS_not ?_ | refine gI ?_ | refine gT ?_ | refine gF ?_ | refine brS_intro (fun _ => ?_) (fun _ => ?_) | refine gL ?_ | refine gX ?_ | refine gO ?_ | refine gN ?_ | refine callStep (hS2 ()) [(920, .gr a1 nL 3 1 (nf fun z => List.getD L z 0)), (910, .own bd 3 [.int .i64 (Int.ofNat n)]), (911, .own bm 88 [.fn gf fs cs]), (912, .own bc 107 [.fn 82 [] [.ptr 910 bd 0, .ptr 911 bm 0, .ptr 912 bc 0]])] (WkM.refl _) hg hlt hM2 hb2 (addL ((c + 60) * (n - (dd + 1)) + RR) 130) (nM1) ?_ | refine call_pure (c80 F _ g dd hg32 (by omega)) ?_ | refine ltS_intro oM1 ?_ | refine ixS_of rfl oM1 ?_ | refine ltS_intro (show nL * 1 + 1 < 32769 by omega) ?_ | refine call82 (ih2 _ _ (by assumption)) (by rfl) (by rfl) (by exact WG) (by rw [hRR]; (first | (simp only [addL_eq, addL_rec]; omega) | omega | exact Nat.le_refl _)) ?_ | intro _)
        rename_i a2 m4 hM4
        conv => whnf
        exact ⟨nM1, a2, m4, hM4, by show Value.slice a2 (nL + 1 + l.length) (nL + 1 + l.length) = Value.slice a2 (nL + (dd :: l).length) (nL + (dd :: l).length); rw [List.length_cons, Nat.add_assoc, Nat.add_comm 1 l.length], by rw [List.length_cons, ← Nat.add_comm 1 l.length, ← Nat.add_assoc, ← List.append_cons]; exact WkM.refl _⟩
      | false =>
        have hs3 : scanL (step g) (List.range' (j + 1) (n - (j + 1))) st3 = (some dd, st2') := hs2
        repeat' ((conv => whnf); first | refine eqS_rfl ?_ | refine eqA_rfl ?_ | refine eqA_of (by assumption) ?_ | refine eqS_of (by rfl) ?_ | refine eqL_rfl ?_ | refine eqJ_rfl ?_ | refine gE ?_ | refine seS_rfl ?_ | refine lsS_of hup ?_ | refine lsS_rfl ?_ | refine brS_tt ?_ | refine brS_ff ?_ | refine brS_not ?_ | refine gI ?_ | refine gT ?_ | refine gF ?_ | refine brS_intro (fun _ => ?_) (fun _ => ?_) | refine gL ?_ | refine gX ?_ | refine gO ?_ | refine gN ?_ | refine callStep (hS2 ()) [(920, .gr a1 nL 3 1 (nf fun z => List.getD L z 0)), (910, .own bd 3 [.int .i64 (Int.ofNat n)]), (911, .own bm 88 [.fn gf fs cs]), (912, .own bc 107 [.fn 82 [] [.ptr 910 bd 0, .ptr 911 bm 0, .ptr 912 bc 0]])] (WkM.refl _) hg hlt hM2 hb2 (addL ((c + 60) * (n - (j + 1)) + RR) 130) (nM1) ?_ | intro _)
        rename_i m3 hM3
        conv => whnf
        exact ⟨n - (j + 1) + 1, [(0, .sl 920 a1 nL nL), (1, u32 g), (2, .ptr 910 bd 0), (3, .ptr 911 bm 0), (4, .ptr 912 bc 0), (9, .int .i64 (Int.ofNat n)), (10, .int .i64 (Int.ofNat (j + 1)))], (920, .gr a1 nL 3 1 (nf fun z => List.getD L z 0)) :: (910, .own bd 3 [.int .i64 (Int.ofNat n)]) :: (911, .own bm 88 [.fn gf fs cs]) :: (912, .own bc 107 [.fn 82 [] [.ptr 910 bd 0, .ptr 911 bm 0, .ptr 912 bc 0]]) :: (_ ++ rest), (addL ((c + 60) * (n - (j + 1)) + RR) 100), 950, by omega, ⟨eqF_rfl _, eqF_rfl _, eqF_rfl _, eqF_rfl _, eqF_rfl _, eqF_rfl _, ⟨congrArg (Value.int .i64) (smn (i := j + 1) (by omega)), rfl⟩, trivial⟩, WkM.refl _, nM1, j + 1, st3, _, by omega, hM3, hs3, rfl, rfl, rfl, rfl, rfl⟩
    · have e2 : n = j := by omega
      subst e2
      rw [Nat.sub_self] at hs2
      cases hs2
/-- the same, from no day on -/
theorem c82n (F e n c : Nat) (hF : 200 < F) (hn : n ≤ 5) {σ : Type} (M : σ → Mem → Prop) (step : Nat → σ → Nat → Bool × σ) (gf : FuncId) (fs cs : List SV) (hv : vqS (.fn gf fs cs) = true) (hS : ∀ D, StepC (CL F (D + e)) (.fn gf fs cs) M step n c) (bd bm bc C : Nat) (hC : C = (c + 60) * n + 300) {st : σ} {g : Nat} {dd : Nat} {l : List Nat} {st9 : σ} (hrun : Run n step st g (dd :: l) st9) (hg : g < 2 ^ n)
    (d : Nat) (m1 rest : Mem) (R : Nat) (hl10 : (dd :: l).length ≤ 10) (hM : M st m1) : callS (CL F (d + (dd :: l).length + e + 1)) (.fn 82 [] [.ptr 910 bd 0, .ptr 911 bm 0, .ptr 912 bc 0]) [.val (.slice none 0 0), u32 g] ((910, .own bd 3 [.int .i64 (Int.ofNat n)]) :: (911, .own bm 88 [.fn gf fs cs]) :: (912, .own bc 107 [.fn 82 [] [.ptr 910 bd 0, .ptr 911 bm 0, .ptr 912 bc 0]]) :: (m1 ++ rest)) (addL R (C * ((dd :: l).length + 1))) 3000 fun w m' R' _ => R ≤ R' ∧ ∃ a2 m2, M st9 m2 ∧ den w = Value.slice a2 ((dd :: l).length) ((dd :: l).length) ∧ WkM m' ((920, .gr a2 ((dd :: l).length) 3 1 (nf fun z => List.getD (dd :: l) z 0)) :: (910, .own bd 3 [.int .i64 (Int.ofNat n)]) :: (911, .own bm 88 [.fn gf fs cs]) :: (912, .own bc 107 [.fn 82 [] [.ptr 910 bd 0, .ptr 911 bm 0, .ptr 912 bc 0]]) :: (m2 ++ rest)) := by
  have ih := fun {st g l st9} h hg d a1 L nL m1 rest R hL hL0 hl10 hM => c82 F e n c hF hn M step gf fs cs hv hS bd bm bc C hC (st := st) (g := g) (l := l) (st9 := st9) h hg d a1 L nL m1 rest R hL hL0 hl10 hM
  cases hrun with
  | @more _ _ _ _ st2' _ hdn hs hr =>
    have ih := fun hg d a1 L nL m1 rest R hL hL0 hl10 hM => ih hr hg d a1 L nL m1 rest R hL hL0 hl10 hM
    have hs0 : scanL (step g) (List.range' 0 (n - 0)) st = (some dd, st2') := by rw [← range_range']; exact hs
    have hg32 : g < 4294967296 := Nat.lt_of_lt_of_le hg (Nat.le_trans (Nat.pow_le_pow_right (by omega) hn) (by decide))
    obtain ⟨D, hD⟩ : ∃ D, D = d + l.length + e := ⟨_, rfl⟩
    have hD1 : d + (dd :: l).length + e = D + 1 := by rw [hD, List.length_cons]; omega
    rw [hD1]
    have hS2 : ∀ _ : Unit, StepC (CL F (D + 1)) (.fn gf fs cs) M step n c := fun _ => by have h := hS (d + (dd :: l).length); rw [hD1] at h; exact h
    obtain ⟨RR, hRR⟩ : ∃ RR, RR = R + C * (l.length + 1) + 100 := ⟨_, rfl⟩
    have hR1 : addL R (C * ((dd :: l).length + 1)) = addL ((c + 60) * n + RR) 200 := by
      rw [addL_eq, addL_eq, hRR, List.length_cons, Nat.mul_succ C (l.length + 1)]
      rw [hC]; omega
    rw [hR1]
    refine callS.cast (fv' := .fn 82 [] [.ptr 910 bd 0, .ptr 911 bm 0, .ptr 912 bc 0]) (args' := [.val (.slice none 0 0), u32 g]) rfl rfl ?_
    refine call_in (n := 33) Try.func82 rfl rfl rfl rfl rfl rfl rfl ?_
    repeat' ((conv => whnf); first | refine eqS_rfl ?_ | refine eqA_rfl ?_ | refine eqA_of (by assumption) ?_ | refine eqS_of (by rfl) ?_ | refine eqL_rfl ?_ | refine eqJ_rfl ?_ | refine gE ?_ | refine seS_rfl ?_ | refine lsS_of hup ?_ | refine lsS_rfl ?_ | refine brS_tt ?_ | refine brS_ff ?_ | refine brS_not ?_ | refine gI ?_ | refine gT ?_ | refine gF ?_ | refine brS_intro (fun _ => ?_) (fun _ => ?_) | refine gL ?_ | refine gX ?_ | refine gO ?_ | refine gN ?_ | intro _)
    conv => whnf
    refine loS_i (fun jj f mm R' ni => ∃ (j : Nat) (st2 : σ) (m2 : Mem), j ≤ n ∧ M st2 m2 ∧ scanL (step g) (List.range' j (n - j)) st2 = (some dd, st2') ∧ jj = n - j + 1 ∧ f = [(0, .val (.slice none 0 0)), (1, u32 g), (2, .ptr 910 bd 0), (3, .ptr 911 bm 0), (4, .ptr 912 bc 0), (9, .int .i64 (Int.ofNat n)), (10, .int .i64 (Int.ofNat j))] ∧ mm = (910, .own bd 3 [.int .i64 (Int.ofNat n)]) :: (911, .own bm 88 [.fn gf fs cs]) :: (912, .own bc 107 [.fn 82 [] [.ptr 910 bd 0, .ptr 911 bm 0, .ptr 912 bc 0]]) :: (m2 ++ rest) ∧ R' = (addL ((c + 60) * (n - j) + RR) 100) ∧ ni = 950) (n + 1) (by omega)
      ⟨[(0, .val (.slice none 0 0)), (1, u32 g), (2, .ptr 910 bd 0), (3, .ptr 911 bm 0), (4, .ptr 912 bc 0), (9, .int .i64 (Int.ofNat n)), (10, .int .i64 (Int.ofNat 0))], (910, .own bd 3 [.int .i64 (Int.ofNat n)]) :: (911, .own bm 88 [.fn gf fs cs]) :: (912, .own bc 107 [.fn 82 [] [.ptr 910 bd 0, .ptr 911 bm 0, .ptr 912 bc 0]]) :: (m1 ++ rest), (addL ((c + 60) * (n - 0) + RR) 100), 950, ⟨eqF_rfl _, eqF_rfl _, eqF_rfl _, eqF_rfl _, eqF_rfl _, eqF_rfl _, eqF_rfl _, trivial⟩, WkM.refl _, by rw [Nat.sub_zero]; (first | (simp only [addL_eq, addL_rec]; omega) | omega | exact Nat.le_refl _), 0, st, m1, by omega, hM, hs0, by omega, rfl, rfl, rfl, rfl⟩ ?_
    rintro _ _ _ _ _ ⟨j, st2, m2, hj, hM2, hs2, rfl, rfl, rfl, rfl, rfl⟩
    by_cases hlt : j < n
    · have h1 := iLt_t hlt
      have hb : (c + 60) * (n - j) = (c + 60) * (n - (j + 1)) + (c + 60) := by rw [← Nat.mul_succ]; congr 1; omega
      rw [range'_cons hlt] at hs2
      have hs2 : (bif (step g st2 j).1 then (some j, (step g st2 j).2) else scanL (step g) (List.range' (j + 1) (n - (j + 1))) (step g st2 j).2) = (some dd, st2') := hs2
      obtain ⟨b2, st3, hb2⟩ : ∃ b2 st3, step g st2 j = (b2, st3) := ⟨_, _, rfl⟩
      rw [hb2] at hs2
      cases b2 with
      | true =>
        have hs2 : (some j, st3) = (some dd, st2') := hs2
        cases hs2
        have hg9 : ∀ z, z < 1 → (fun j : Nat => [SV.int .i64 (Int.ofNat dd)]) z = nf (fun z => List.getD [dd] z 0) z := fun z hz => by
          have : z = 0 := by omega
          subst this; rfl
        have hg8 : ∀ z, z < 1 → grow 0 1 (fun _ => []) [SV.int .i64 (Int.ofNat dd)] z = nf (fun z => List.getD [dd] z 0) z := fun z hz => by
          have : z = 0 := by omega
          subst this; rfl
        have ih2 := fun a m3 (hM3 : M st2' m3) => ih ((pcF hn hg).lt dd hdn) d a [dd] 1 m3 rest (R + 0) rfl (by omega) (by simp only [List.length_cons] at hl10; omega) hM3
        rw [← hD] at ih2
        repeat' ((conv => whnf); first | refine eqS_rfl ?_ | refine eqA_rfl ?_ | refine eqA_of (by assumption) ?_ | refine eqS_of (by rfl) ?_ | refine eqL_rfl ?_ | refine eqJ_rfl ?_ | refine gE ?_ | refine seS_rfl ?_ | refine lsS_of hup ?_ | refine lsS_rfl ?_ | refine brS_tt ?_ | refine brS_ff ?_ | refine brS_not ?_ | refine gI ?_ | refine gT ?_ | refine gF ?_ | refine brS_intro (fun _ => ?_) (fun _ => ?_) | refine gL ?_ | refine gX ?_ | refine gO ?_ | refine gN ?_ | refine callStep (hS2 ()) [(910, .own bd 3 [.int .i64 (Int.ofNat n)]), (911, .own bm 88 [.fn gf fs cs]), (912, .own bc 107 [.fn 82 [] [.ptr 910 bd 0, .ptr 911 bm 0, .ptr 912 bc 0]])] (WkM.refl _) hg hlt hM2 hb2 (addL ((c + 60) * (n - (dd + 1)) + RR) 130) (nM1) ?_ | refine call_pure (c80 F _ g dd hg32 (by omega)) ?_ | refine ltS_intro oM1 ?_ | refine ixS_of rfl oM1 ?_ | refine ltS_intro (show nL * 1 + 1 < 32769 by omega) ?_ | refine call82 (ih2 _ _ (by assumption)) (by rfl) (by rfl) (by exact WG) (by rw [hRR]; (first | (simp only [addL_eq, addL_rec]; omega) | omega | exact Nat.le_refl _)) ?_ | intro _)
        rename_i a2 m4 hM4
        conv => whnf
        exact ⟨nM1, a2, m4, hM4, by show Value.slice a2 (1 + l.length) (1 + l.length) = _; rw [Nat.add_comm 1 l.length]; rfl, by rw [List.length_cons, ← Nat.add_comm 1 l.length]; exact WkM.refl _⟩
      | false =>
        have hs3 : scanL (step g) (List.range' (j + 1) (n - (j + 1))) st3 = (some dd, st2') := hs2
        repeat' ((conv => whnf); first | refine eqS_rfl ?_ | refine eqA_rfl ?_ | refine eqA_of (by assumption) ?_ | refine eqS_of (by rfl) ?_ | refine eqL_rfl ?_ | refine eqJ_rfl ?_ | refine gE ?_ | refine seS_rfl ?_ | refine lsS_of hup ?_ | refine lsS_rfl ?_ | refine brS_tt ?_ | refine brS_ff ?_ | refine brS_not ?_ | refine gI ?_ | refine gT ?_ | refine gF ?_ | refine brS_intro (fun _ => ?_) (fun _ => ?_) | refine gL ?_ | refine gX ?_ | refine gO ?_ | refine gN ?_ | refine callStep (hS2 ()) [(910, .own bd 3 [.int .i64 (Int.ofNat n)]), (911, .own bm 88 [.fn gf fs cs]), (912, .own bc 107 [.fn 82 [] [.ptr 910 bd 0, .ptr 911 bm 0, .ptr 912 bc 0]])] (WkM.refl _) hg hlt hM2 hb2 (addL ((c + 60) * (n - (j + 1)) + RR) 130) (nM1) ?_ | intro _)
        rename_i m3 hM3
        conv => whnf
        exact ⟨n - (j + 1) + 1, [(0, .val (.slice none 0 0)), (1, u32 g), (2, .ptr 910 bd 0), (3, .ptr 911 bm 0), (4, .ptr 912 bc 0), (9, .int .i64 (Int.ofNat n)), (10, .int .i64 (Int.ofNat (j + 1)))], (910, .own bd 3 [.int .i64 (Int.ofNat n)]) :: (911, .own bm 88 [.fn gf fs cs]) :: (912, .own bc 107 [.fn 82 [] [.ptr 910 bd 0, .ptr 911 bm 0, .ptr 912 bc 0]]) :: (_ ++ rest), (addL ((c + 60) * (n - (j + 1)) + RR) 100), 950, by omega, ⟨eqF_rfl _, eqF_rfl _, eqF_rfl _, eqF_rfl _, eqF_rfl _, eqF_rfl _, ⟨congrArg (Value.int .i64) (smn (i := j + 1) (by omega)), rfl⟩, trivial⟩, WkM.refl _, nM1, j + 1, st3, _, by omega, hM3, hs3, rfl, rfl, rfl, rfl, rfl⟩
    · have e2 : n = j := by omega
      subst e2
      rw [Nat.sub_self] at hs2
      cases hs2
end Go.Proofs.Ytefnljdfgjjpjaa
namespace Go.Proofs.Ytefnljdfgjjpjaa
open Go.Ab
attribute [local irreducible] aggOk drwOK
set_option maxRecDepth 100000
set_option maxHeartbeats 4000000
set_option linter.unusedVariables false
set_option linter.unusedSimpArgs false
attribute [local irreducible] wt
theorem c92_0 (F k : Nat) : PureC (CL F (k + 1)) 92 [u32 0] 40 (.int .i64 (Int.ofNat (pc 0))) := by
  intro m R
  refine call_in (n := 21) Try.func92 rfl rfl rfl rfl rfl rfl rfl ?_
  repeat' ((conv => whnf); first | refine eqS_rfl ?_ | refine eqA_rfl ?_ | refine eqA_of (by assumption) ?_ | refine eqS_of (by rfl) ?_ | refine eqL_rfl ?_ | refine eqJ_rfl ?_ | refine gE ?_ | refine seS_rfl ?_ | refine lsS_of hup ?_ | refine lsS_rfl ?_ | refine brS_tt ?_ | refine brS_ff ?_ | refine brS_not ?_ | refine gI ?_ | refine gT ?_ | refine gF ?_ | refine brS_intro (fun _ => ?_) (fun _ => ?_) | refine gL ?_ | refine gX ?_ | refine gO ?_ | refine gN ?_ | refine ixS_of (q := 0) (by kernel_rfl) (by decide) ?_ | intro _)
  all_goals (conv => whnf)
  all_goals refine ⟨?_, by repeat' (first | exact WkM.refl _ | refine WkM.drop ?_), by repeat' (first | exact Nat.le_refl _ | refine Nat.le_succ_of_le ?_)⟩
  all_goals (kernel_rfl)

theorem c92_1 (F k : Nat) : PureC (CL F (k + 1)) 92 [u32 1] 40 (.int .i64 (Int.ofNat (pc 1))) := by
  intro m R
  refine call_in (n := 21) Try.func92 rfl rfl rfl rfl rfl rfl rfl ?_
  repeat' ((conv => whnf); first | refine eqS_rfl ?_ | refine eqA_rfl ?_ | refine eqA_of (by assumption) ?_ | refine eqS_of (by rfl) ?_ | refine eqL_rfl ?_ | refine eqJ_rfl ?_ | refine gE ?_ | refine seS_rfl ?_ | refine lsS_of hup ?_ | refine lsS_rfl ?_ | refine brS_tt ?_ | refine brS_ff ?_ | refine brS_not ?_ | refine gI ?_ | refine gT ?_ | refine gF ?_ | refine brS_intro (fun _ => ?_) (fun _ => ?_) | refine gL ?_ | refine gX ?_ | refine gO ?_ | refine gN ?_ | refine ixS_of (q := 1) (by kernel_rfl) (by decide) ?_ | refine ixS_of (q := 0) (by kernel_rfl) (by decide) ?_ | intro _)
  all_goals (conv => whnf)
  all_goals refine ⟨?_, by repeat' (first | exact WkM.refl _ | refine WkM.drop ?_), by repeat' (first | exact Nat.le_refl _ | refine Nat.le_succ_of_le ?_)⟩
  all_goals (kernel_rfl)

theorem c92_2 (F k : Nat) : PureC (CL F (k + 1)) 92 [u32 2] 40 (.int .i64 (Int.ofNat (pc 2))) := by
  intro m R
  refine call_in (n := 21) Try.func92 rfl rfl rfl rfl rfl rfl rfl ?_
  repeat' ((conv => whnf); first | refine eqS_rfl ?_ | refine eqA_rfl ?_ | refine eqA_of (by assumption) ?_ | refine eqS_of (by rfl) ?_ | refine eqL_rfl ?_ | refine eqJ_rfl ?_ | refine gE ?_ | refine seS_rfl ?_ | refine lsS_of hup ?_ | refine lsS_rfl ?_ | refine brS_tt ?_ | refine brS_ff ?_ | refine brS_not ?_ | refine gI ?_ | refine gT ?_ | refine gF ?_ | refine brS_intro (fun _ => ?_) (fun _ => ?_) | refine gL ?_ | refine gX ?_ | refine gO ?_ | refine gN ?_ | refine ixS_of (q := 2) (by kernel_rfl) (by decide) ?_ | refine ixS_of (q := 0) (by kernel_rfl) (by decide) ?_ | intro _)
  all_goals (conv => whnf)
  all_goals refine ⟨?_, by repeat' (first | exact WkM.refl _ | refine WkM.drop ?_), by repeat' (first | exact Nat.le_refl _ | refine Nat.le_succ_of_le ?_)⟩
  all_goals (kernel_rfl)

theorem c92_3 (F k : Nat) : PureC (CL F (k + 1)) 92 [u32 3] 40 (.int .i64 (Int.ofNat (pc 3))) := by
  intro m R
  refine call_in (n := 21) Try.func92 rfl rfl rfl rfl rfl rfl rfl ?_
  repeat' ((conv => whnf); first | refine eqS_rfl ?_ | refine eqA_rfl ?_ | refine eqA_of (by assumption) ?_ | refine eqS_of (by rfl) ?_ | refine eqL_rfl ?_ | refine eqJ_rfl ?_ | refine gE ?_ | refine seS_rfl ?_ | refine lsS_of hup ?_ | refine lsS_rfl ?_ | refine brS_tt ?_ | refine brS_ff ?_ | refine brS_not ?_ | refine gI ?_ | refine gT ?_ | refine gF ?_ | refine brS_intro (fun _ => ?_) (fun _ => ?_) | refine gL ?_ | refine gX ?_ | refine gO ?_ | refine gN ?_ | refine ixS_of (q := 3) (by kernel_rfl) (by decide) ?_ | refine ixS_of (q := 0) (by kernel_rfl) (by decide) ?_ | intro _)
  all_goals (conv => whnf)
  all_goals refine ⟨?_, by repeat' (first | exact WkM.refl _ | refine WkM.drop ?_), by repeat' (first | exact Nat.le_refl _ | refine Nat.le_succ_of_le ?_)⟩
  all_goals (kernel_rfl)

theorem c92_4 (F k : Nat) : PureC (CL F (k + 1)) 92 [u32 4] 40 (.int .i64 (Int.ofNat (pc 4))) := by
  intro m R
  refine call_in (n := 21) Try.func92 rfl rfl rfl rfl rfl rfl rfl ?_
  repeat' ((conv => whnf); first | refine eqS_rfl ?_ | refine eqA_rfl ?_ | refine eqA_of (by assumption) ?_ | refine eqS_of (by rfl) ?_ | refine eqL_rfl ?_ | refine eqJ_rfl ?_ | refine gE ?_ | refine seS_rfl ?_ | refine lsS_of hup ?_ | refine lsS_rfl ?_ | refine brS_tt ?_ | refine brS_ff ?_ | refine brS_not ?_ | refine gI ?_ | refine gT ?_ | refine gF ?_ | refine brS_intro (fun _ => ?_) (fun _ => ?_) | refine gL ?_ | refine gX ?_ | refine gO ?_ | refine gN ?_ | refine ixS_of (q := 4) (by kernel_rfl) (by decide) ?_ | refine ixS_of (q := 0) (by kernel_rfl) (by decide) ?_ | intro _)
  all_goals (conv => whnf)
  all_goals refine ⟨?_, by repeat' (first | exact WkM.refl _ | refine WkM.drop ?_), by repeat' (first | exact Nat.le_refl _ | refine Nat.le_succ_of_le ?_)⟩
  all_goals (kernel_rfl)

theorem c92_5 (F k : Nat) : PureC (CL F (k + 1)) 92 [u32 5] 40 (.int .i64 (Int.ofNat (pc 5))) := by
  intro m R
  refine call_in (n := 21) Try.func92 rfl rfl rfl rfl rfl rfl rfl ?_
  repeat' ((conv => whnf); first | refine eqS_rfl ?_ | refine eqA_rfl ?_ | refine eqA_of (by assumption) ?_ | refine eqS_of (by rfl) ?_ | refine eqL_rfl ?_ | refine eqJ_rfl ?_ | refine gE ?_ | refine seS_rfl ?_ | refine lsS_of hup ?_ | refine lsS_rfl ?_ | refine brS_tt ?_ | refine brS_ff ?_ | refine brS_not ?_ | refine gI ?_ | refine gT ?_ | refine gF ?_ | refine brS_intro (fun _ => ?_) (fun _ => ?_) | refine gL ?_ | refine gX ?_ | refine gO ?_ | refine gN ?_ | refine ixS_of (q := 5) (by kernel_rfl) (by decide) ?_ | refine ixS_of (q := 0) (by kernel_rfl) (by decide) ?_ | intro _)
  all_goals (conv => whnf)
  all_goals refine ⟨?_, by repeat' (first | exact WkM.refl _ | refine WkM.drop ?_), by repeat' (first | exact Nat.le_refl _ | refine Nat.le_succ_of_le ?_)⟩
  all_goals (kernel_rfl)

theorem c92_6 (F k : Nat) : PureC (CL F (k + 1)) 92 [u32 6] 40 (.int .i64 (Int.ofNat (pc 6))) := by
  intro m R
  refine call_in (n := 21) Try.func92 rfl rfl rfl rfl rfl rfl rfl ?_
  repeat' ((conv => whnf); first | refine eqS_rfl ?_ | refine eqA_rfl ?_ | refine eqA_of (by assumption) ?_ | refine eqS_of (by rfl) ?_ | refine eqL_rfl ?_ | refine eqJ_rfl ?_ | refine gE ?_ | refine seS_rfl ?_ | refine lsS_of hup ?_ | refine lsS_rfl ?_ | refine brS_tt ?_ | refine brS_ff ?_ | refine brS_not ?_ | refine gI ?_ | refine gT ?_ | refine gF ?_ | refine brS_intro (fun _ => ?_) (fun _ => ?_) | refine gL ?_ | refine gX ?_ | refine gO ?_ | refine gN ?_ | refine ixS_of (q := 6) (by kernel_rfl) (by decide) ?_ | refine ixS_of (q := 0) (by kernel_rfl) (by decide) ?_ | intro _)
  all_goals (conv => whnf)
  all_goals refine ⟨?_, by repeat' (first | exact WkM.refl _ | refine WkM.drop ?_), by repeat' (first | exact Nat.le_refl _ | refine Nat.le_succ_of_le ?_)⟩
  all_goals (kernel_rfl)

theorem c92_7 (F k : Nat) : PureC (CL F (k + 1)) 92 [u32 7] 40 (.int .i64 (Int.ofNat (pc 7))) := by
  intro m R
  refine call_in (n := 21) Try.func92 rfl rfl rfl rfl rfl rfl rfl ?_
  repeat' ((conv => whnf); first | refine eqS_rfl ?_ | refine eqA_rfl ?_ | refine eqA_of (by assumption) ?_ | refine eqS_of (by rfl) ?_ | refine eqL_rfl ?_ | refine eqJ_rfl ?_ | refine gE ?_ | refine seS_rfl ?_ | refine lsS_of hup ?_ | refine lsS_rfl ?_ | refine brS_tt ?_ | refine brS_ff ?_ | refine brS_not ?_ | refine gI ?_ | refine gT ?_ | refine gF ?_ | refine brS_intro (fun _ => ?_) (fun _ => ?_) | refine gL ?_ | refine gX ?_ | refine gO ?_ | refine gN ?_ | refine ixS_of (q := 7) (by kernel_rfl) (by decide) ?_ | refine ixS_of (q := 0) (by kernel_rfl) (by decide) ?_ | intro _)
  all_goals (conv => whnf)
  all_goals refine ⟨?_, by repeat' (first | exact WkM.refl _ | refine WkM.drop ?_), by repeat' (first | exact Nat.le_refl _ | refine Nat.le_succ_of_le ?_)⟩
  all_goals (kernel_rfl)

theorem c92_8 (F k : Nat) : PureC (CL F (k + 1)) 92 [u32 8] 40 (.int .i64 (Int.ofNat (pc 8))) := by
  intro m R
  refine call_in (n := 21) Try.func92 rfl rfl rfl rfl rfl rfl rfl ?_
  repeat' ((conv => whnf); first | refine eqS_rfl ?_ | refine eqA_rfl ?_ | refine eqA_of (by assumption) ?_ | refine eqS_of (by rfl) ?_ | refine eqL_rfl ?_ | refine eqJ_rfl ?_ | refine gE ?_ | refine seS_rfl ?_ | refine lsS_of hup ?_ | refine lsS_rfl ?_ | refine brS_tt ?_ | refine brS_ff ?_ | refine brS_not ?_ | refine gI ?_ | refine gT ?_ | refine gF ?_ | refine brS_intro (fun _ => ?_) (fun _ => ?_) | refine gL ?_ | refine gX ?_ | refine gO ?_ | refine gN ?_ | refine ixS_of (q := 8) (by kernel_rfl) (by decide) ?_ | refine ixS_of (q := 0) (by kernel_rfl) (by decide) ?_ | intro _)
  all_goals (conv => whnf)
  all_goals refine ⟨?_, by repeat' (first | exact WkM.refl _ | refine WkM.drop ?_), by repeat' (first | exact Nat.le_refl _ | refine Nat.le_succ_of_le ?_)⟩
  all_goals (kernel_rfl)

theorem c92_9 (F k : Nat) : PureC (CL F (k + 1)) 92 [u32 9] 40 (.int .i64 (Int.ofNat (pc 9))) := by
  intro m R
  refine call_in (n := 21) Try.func92 rfl rfl rfl rfl rfl rfl rfl ?_
  repeat' ((conv => whnf); first | refine eqS_rfl ?_ | refine eqA_rfl ?_ | refine eqA_of (by assumption) ?_ | refine eqS_of (by rfl) ?_ | refine eqL_rfl ?_ | refine eqJ_rfl ?_ | refine gE ?_ | refine seS_rfl ?_ | refine lsS_of hup ?_ | refine lsS_rfl ?_ | refine brS_tt ?_ | refine brS_ff ?_ | refine brS_not ?_ | refine gI ?_ | refine gT ?_ | refine gF ?_ | refine brS_intro (fun _ => ?_) (fun _ => ?_) | refine gL ?_ | refine gX ?_ | refine gO ?_ | refine gN ?_ | refine ixS_of (q := 9) (by kernel_rfl) (by decide) ?_ | refine ixS_of (q := 0) (by kernel_rfl) (by decide) ?_ | intro _)
  all_goals (conv => whnf)
  all_goals refine ⟨?_, by repeat' (first | exact WkM.refl _ | refine WkM.drop ?_), by repeat' (first | exact Nat.le_refl _ | refine Nat.le_succ_of_le ?_)⟩
  all_goals (kernel_rfl)

theorem c92_10 (F k : Nat) : PureC (CL F (k + 1)) 92 [u32 10] 40 (.int .i64 (Int.ofNat (pc 10))) := by
  intro m R
  refine call_in (n := 21) Try.func92 rfl rfl rfl rfl rfl rfl rfl ?_
  repeat' ((conv => whnf); first | refine eqS_rfl ?_ | refine eqA_rfl ?_ | refine eqA_of (by assumption) ?_ | refine eqS_of (by rfl) ?_ | refine eqL_rfl ?_ | refine eqJ_rfl ?_ | refine gE ?_ | refine seS_rfl ?_ | refine lsS_of hup ?_ | refine lsS_rfl ?_ | refine brS_tt ?_ | refine brS_ff ?_ | refine brS_not ?_ | refine gI ?_ | refine gT ?_ | refine gF ?_ | refine brS_intro (fun _ => ?_) (fun _ => ?_) | refine gL ?_ | refine gX ?_ | refine gO ?_ | refine gN ?_ | refine ixS_of (q := 10) (by kernel_rfl) (by decide) ?_ | refine ixS_of (q := 0) (by kernel_rfl) (by decide) ?_ | intro _)
  all_goals (conv => whnf)
  all_goals refine ⟨?_, by repeat' (first | exact WkM.refl _ | refine WkM.drop ?_), by repeat' (first | exact Nat.le_refl _ | refine Nat.le_succ_of_le ?_)⟩
  all_goals (kernel_rfl)

theorem c92_11 (F k : Nat) : PureC (CL F (k + 1)) 92 [u32 11] 40 (.int .i64 (Int.ofNat (pc 11))) := by
  intro m R
  refine call_in (n := 21) Try.func92 rfl rfl rfl rfl rfl rfl rfl ?_
  repeat' ((conv => whnf); first | refine eqS_rfl ?_ | refine eqA_rfl ?_ | refine eqA_of (by assumption) ?_ | refine eqS_of (by rfl) ?_ | refine eqL_rfl ?_ | refine eqJ_rfl ?_ | refine gE ?_ | refine seS_rfl ?_ | refine lsS_of hup ?_ | refine lsS_rfl ?_ | refine brS_tt ?_ | refine brS_ff ?_ | refine brS_not ?_ | refine gI ?_ | refine gT ?_ | refine gF ?_ | refine brS_intro (fun _ => ?_) (fun _ => ?_) | refine gL ?_ | refine gX ?_ | refine gO ?_ | refine gN ?_ | refine ixS_of (q := 11) (by kernel_rfl) (by decide) ?_ | refine ixS_of (q := 0) (by kernel_rfl) (by decide) ?_ | intro _)
  all_goals (conv => whnf)
  all_goals refine ⟨?_, by repeat' (first | exact WkM.refl _ | refine WkM.drop ?_), by repeat' (first | exact Nat.le_refl _ | refine Nat.le_succ_of_le ?_)⟩
  all_goals (kernel_rfl)

theorem c92_12 (F k : Nat) : PureC (CL F (k + 1)) 92 [u32 12] 40 (.int .i64 (Int.ofNat (pc 12))) := by
  intro m R
  refine call_in (n := 21) Try.func92 rfl rfl rfl rfl rfl rfl rfl ?_
  repeat' ((conv => whnf); first | refine eqS_rfl ?_ | refine eqA_rfl ?_ | refine eqA_of (by assumption) ?_ | refine eqS_of (by rfl) ?_ | refine eqL_rfl ?_ | refine eqJ_rfl ?_ | refine gE ?_ | refine seS_rfl ?_ | refine lsS_of hup ?_ | refine lsS_rfl ?_ | refine brS_tt ?_ | refine brS_ff ?_ | refine brS_not ?_ | refine gI ?_ | refine gT ?_ | refine gF ?_ | refine brS_intro (fun _ => ?_) (fun _ => ?_) | refine gL ?_ | refine gX ?_ | refine gO ?_ | refine gN ?_ | refine ixS_of (q := 12) (by kernel_rfl) (by decide) ?_ | refine ixS_of (q := 0) (by kernel_rfl) (by decide) ?_ | intro _)
  all_goals (conv => whnf)
  all_goals refine ⟨?_, by repeat' (first | exact WkM.refl _ | refine WkM.drop ?_), by repeat' (first | exact Nat.le_refl _ | refine Nat.le_succ_of_le ?_)⟩
  all_goals (kernel_rfl)

theorem c92_13 (F k : Nat) : PureC (CL F (k + 1)) 92 [u32 13] 40 (.int .i64 (Int.ofNat (pc 13))) := by
  intro m R
  refine call_in (n := 21) Try.func92 rfl rfl rfl rfl rfl rfl rfl ?_
  repeat' ((conv => whnf); first | refine eqS_rfl ?_ | refine eqA_rfl ?_ | refine eqA_of (by assumption) ?_ | refine eqS_of (by rfl) ?_ | refine eqL_rfl ?_ | refine eqJ_rfl ?_ | refine gE ?_ | refine seS_rfl ?_ | refine lsS_of hup ?_ | refine lsS_rfl ?_ | refine brS_tt ?_ | refine brS_ff ?_ | refine brS_not ?_ | refine gI ?_ | refine gT ?_ | refine gF ?_ | refine brS_intro (fun _ => ?_) (fun _ => ?_) | refine gL ?_ | refine gX ?_ | refine gO ?_ | refine gN ?_ | refine ixS_of (q := 13) (by kernel_rfl) (by decide) ?_ | refine ixS_of (q := 0) (by kernel_rfl) (by decide) ?_ | intro _)
  all_goals (conv => whnf)
  all_goals refine ⟨?_, by repeat' (first | exact WkM.refl _ | refine WkM.drop ?_), by repeat' (first | exact Nat.le_refl _ | refine Nat.le_succ_of_le ?_)⟩
  all_goals (kernel_rfl)

theorem c92_14 (F k : Nat) : PureC (CL F (k + 1)) 92 [u32 14] 40 (.int .i64 (Int.ofNat (pc 14))) := by
  intro m R
  refine call_in (n := 21) Try.func92 rfl rfl rfl rfl rfl rfl rfl ?_
  repeat' ((conv => whnf); first | refine eqS_rfl ?_ | refine eqA_rfl ?_ | refine eqA_of (by assumption) ?_ | refine eqS_of (by rfl) ?_ | refine eqL_rfl ?_ | refine eqJ_rfl ?_ | refine gE ?_ | refine seS_rfl ?_ | refine lsS_of hup ?_ | refine lsS_rfl ?_ | refine brS_tt ?_ | refine brS_ff ?_ | refine brS_not ?_ | refine gI ?_ | refine gT ?_ | refine gF ?_ | refine brS_intro (fun _ => ?_) (fun _ => ?_) | refine gL ?_ | refine gX ?_ | refine gO ?_ | refine gN ?_ | refine ixS_of (q := 14) (by kernel_rfl) (by decide) ?_ | refine ixS_of (q := 0) (by kernel_rfl) (by decide) ?_ | intro _)
  all_goals (conv => whnf)
  all_goals refine ⟨?_, by repeat' (first | exact WkM.refl _ | refine WkM.drop ?_), by repeat' (first | exact Nat.le_refl _ | refine Nat.le_succ_of_le ?_)⟩
  all_goals (kernel_rfl)

theorem c92_15 (F k : Nat) : PureC (CL F (k + 1)) 92 [u32 15] 40 (.int .i64 (Int.ofNat (pc 15))) := by
  intro m R
  refine call_in (n := 21) Try.func92 rfl rfl rfl rfl rfl rfl rfl ?_
  repeat' ((conv => whnf); first | refine eqS_rfl ?_ | refine eqA_rfl ?_ | refine eqA_of (by assumption) ?_ | refine eqS_of (by rfl) ?_ | refine eqL_rfl ?_ | refine eqJ_rfl ?_ | refine gE ?_ | refine seS_rfl ?_ | refine lsS_of hup ?_ | refine lsS_rfl ?_ | refine brS_tt ?_ | refine brS_ff ?_ | refine brS_not ?_ | refine gI ?_ | refine gT ?_ | refine gF ?_ | refine brS_intro (fun _ => ?_) (fun _ => ?_) | refine gL ?_ | refine gX ?_ | refine gO ?_ | refine gN ?_ | refine ixS_of (q := 15) (by kernel_rfl) (by decide) ?_ | refine ixS_of (q := 0) (by kernel_rfl) (by decide) ?_ | intro _)
  all_goals (conv => whnf)
  all_goals refine ⟨?_, by repeat' (first | exact WkM.refl _ | refine WkM.drop ?_), by repeat' (first | exact Nat.le_refl _ | refine Nat.le_succ_of_le ?_)⟩
  all_goals (kernel_rfl)

theorem c92_16 (F k : Nat) : PureC (CL F (k + 1)) 92 [u32 16] 40 (.int .i64 (Int.ofNat (pc 16))) := by
  intro m R
  refine call_in (n := 21) Try.func92 rfl rfl rfl rfl rfl rfl rfl ?_
  repeat' ((conv => whnf); first | refine eqS_rfl ?_ | refine eqA_rfl ?_ | refine eqA_of (by assumption) ?_ | refine eqS_of (by rfl) ?_ | refine eqL_rfl ?_ | refine eqJ_rfl ?_ | refine gE ?_ | refine seS_rfl ?_ | refine lsS_of hup ?_ | refine lsS_rfl ?_ | refine brS_tt ?_ | refine brS_ff ?_ | refine brS_not ?_ | refine gI ?_ | refine gT ?_ | refine gF ?_ | refine brS_intro (fun _ => ?_) (fun _ => ?_) | refine gL ?_ | refine gX ?_ | refine gO ?_ | refine gN ?_ | refine ixS_of (q := 16) (by kernel_rfl) (by decide) ?_ | refine ixS_of (q := 0) (by kernel_rfl) (by decide) ?_ | intro _)
  all_goals (conv => whnf)
  all_goals refine ⟨?_, by repeat' (first | exact WkM.refl _ | refine WkM.drop ?_), by repeat' (first | exact Nat.le_refl _ | refine Nat.le_succ_of_le ?_)⟩
  all_goals (kernel_rfl)

theorem c92_17 (F k : Nat) : PureC (CL F (k + 1)) 92 [u32 17] 40 (.int .i64 (Int.ofNat (pc 17))) := by
  intro m R
  refine call_in (n := 21) Try.func92 rfl rfl rfl rfl rfl rfl rfl ?_
  repeat' ((conv => whnf); first | refine eqS_rfl ?_ | refine eqA_rfl ?_ | refine eqA_of (by assumption) ?_ | refine eqS_of (by rfl) ?_ | refine eqL_rfl ?_ | refine eqJ_rfl ?_ | refine gE ?_ | refine seS_rfl ?_ | refine lsS_of hup ?_ | refine lsS_rfl ?_ | refine brS_tt ?_ | refine brS_ff ?_ | refine brS_not ?_ | refine gI ?_ | refine gT ?_ | refine gF ?_ | refine brS_intro (fun _ => ?_) (fun _ => ?_) | refine gL ?_ | refine gX ?_ | refine gO ?_ | refine gN ?_ | refine ixS_of (q := 17) (by kernel_rfl) (by decide) ?_ | refine ixS_of (q := 0) (by kernel_rfl) (by decide) ?_ | intro _)
  all_goals (conv => whnf)
  all_goals refine ⟨?_, by repeat' (first | exact WkM.refl _ | refine WkM.drop ?_), by repeat' (first | exact Nat.le_refl _ | refine Nat.le_succ_of_le ?_)⟩
  all_goals (kernel_rfl)

theorem c92_18 (F k : Nat) : PureC (CL F (k + 1)) 92 [u32 18] 40 (.int .i64 (Int.ofNat (pc 18))) := by
  intro m R
  refine call_in (n := 21) Try.func92 rfl rfl rfl rfl rfl rfl rfl ?_
  repeat' ((conv => whnf); first | refine eqS_rfl ?_ | refine eqA_rfl ?_ | refine eqA_of (by assumption) ?_ | refine eqS_of (by rfl) ?_ | refine eqL_rfl ?_ | refine eqJ_rfl ?_ | refine gE ?_ | refine seS_rfl ?_ | refine lsS_of hup ?_ | refine lsS_rfl ?_ | refine brS_tt ?_ | refine brS_ff ?_ | refine brS_not ?_ | refine gI ?_ | refine gT ?_ | refine gF ?_ | refine brS_intro (fun _ => ?_) (fun _ => ?_) | refine gL ?_ | refine gX ?_ | refine gO ?_ | refine gN ?_ | refine ixS_of (q := 18) (by kernel_rfl) (by decide) ?_ | refine ixS_of (q := 0) (by kernel_rfl) (by decide) ?_ | intro _)
  all_goals (conv => whnf)
  all_goals refine ⟨?_, by repeat' (first | exact WkM.refl _ | refine WkM.drop ?_), by repeat' (first | exact Nat.le_refl _ | refine Nat.le_succ_of_le ?_)⟩
  all_goals (kernel_rfl)

theorem c92_19 (F k : Nat) : PureC (CL F (k + 1)) 92 [u32 19] 40 (.int .i64 (Int.ofNat (pc 19))) := by
  intro m R
  refine call_in (n := 21) Try.func92 rfl rfl rfl rfl rfl rfl rfl ?_
  repeat' ((conv => whnf); first | refine eqS_rfl ?_ | refine eqA_rfl ?_ | refine eqA_of (by assumption) ?_ | refine eqS_of (by rfl) ?_ | refine eqL_rfl ?_ | refine eqJ_rfl ?_ | refine gE ?_ | refine seS_rfl ?_ | refine lsS_of hup ?_ | refine lsS_rfl ?_ | refine brS_tt ?_ | refine brS_ff ?_ | refine brS_not ?_ | refine gI ?_ | refine gT ?_ | refine gF ?_ | refine brS_intro (fun _ => ?_) (fun _ => ?_) | refine gL ?_ | refine gX ?_ | refine gO ?_ | refine gN ?_ | refine ixS_of (q := 19) (by kernel_rfl) (by decide) ?_ | refine ixS_of (q := 0) (by kernel_rfl) (by decide) ?_ | intro _)
  all_goals (conv => whnf)
  all_goals refine ⟨?_, by repeat' (first | exact WkM.refl _ | refine WkM.drop ?_), by repeat' (first | exact Nat.le_refl _ | refine Nat.le_succ_of_le ?_)⟩
  all_goals (kernel_rfl)

theorem c92_20 (F k : Nat) : PureC (CL F (k + 1)) 92 [u32 20] 40 (.int .i64 (Int.ofNat (pc 20))) := by
  intro m R
  refine call_in (n := 21) Try.func92 rfl rfl rfl rfl rfl rfl rfl ?_
  repeat' ((conv => whnf); first | refine eqS_rfl ?_ | refine eqA_rfl ?_ | refine eqA_of (by assumption) ?_ | refine eqS_of (by rfl) ?_ | refine eqL_rfl ?_ | refine eqJ_rfl ?_ | refine gE ?_ | refine seS_rfl ?_ | refine lsS_of hup ?_ | refine lsS_rfl ?_ | refine brS_tt ?_ | refine brS_ff ?_ | refine brS_not ?_ | refine gI ?_ | refine gT ?_ | refine gF ?_ | refine brS_intro (fun _ => ?_) (fun _ => ?_) | refine gL ?_ | refine gX ?_ | refine gO ?_ | refine gN ?_ | refine ixS_of (q := 20) (by kernel_rfl) (by decide) ?_ | refine ixS_of (q := 0) (by kernel_rfl) (by decide) ?_ | intro _)
  all_goals (conv => whnf)
  all_goals refine ⟨?_, by repeat' (first | exact WkM.refl _ | refine WkM.drop ?_), by repeat' (first | exact Nat.le_refl _ | refine Nat.le_succ_of_le ?_)⟩
  all_goals (kernel_rfl)

theorem c92_21 (F k : Nat) : PureC (CL F (k + 1)) 92 [u32 21] 40 (.int .i64 (Int.ofNat (pc 21))) := by
  intro m R
  refine call_in (n := 21) Try.func92 rfl rfl rfl rfl rfl rfl rfl ?_
  repeat' ((conv => whnf); first | refine eqS_rfl ?_ | refine eqA_rfl ?_ | refine eqA_of (by assumption) ?_ | refine eqS_of (by rfl) ?_ | refine eqL_rfl ?_ | refine eqJ_rfl ?_ | refine gE ?_ | refine seS_rfl ?_ | refine lsS_of hup ?_ | refine lsS_rfl ?_ | refine brS_tt ?_ | refine brS_ff ?_ | refine brS_not ?_ | refine gI ?_ | refine gT ?_ | refine gF ?_ | refine brS_intro (fun _ => ?_) (fun _ => ?_) | refine gL ?_ | refine gX ?_ | refine gO ?_ | refine gN ?_ | refine ixS_of (q := 21) (by kernel_rfl) (by decide) ?_ | refine ixS_of (q := 0) (by kernel_rfl) (by decide) ?_ | intro _)
  all_goals (conv => whnf)
  all_goals refine ⟨?_, by repeat' (first | exact WkM.refl _ | refine WkM.drop ?_), by repeat' (first | exact Nat.le_refl _ | refine Nat.le_succ_of_le ?_)⟩
  all_goals (kernel_rfl)

theorem c92_22 (F k : Nat) : PureC (CL F (k + 1)) 92 [u32 22] 40 (.int .i64 (Int.ofNat (pc 22))) := by
  intro m R
  refine call_in (n := 21) Try.func92 rfl rfl rfl rfl rfl rfl rfl ?_
  repeat' ((conv => whnf); first | refine eqS_rfl ?_ | refine eqA_rfl ?_ | refine eqA_of (by assumption) ?_ | refine eqS_of (by rfl) ?_ | refine eqL_rfl ?_ | refine eqJ_rfl ?_ | refine gE ?_ | refine seS_rfl ?_ | refine lsS_of hup ?_ | refine lsS_rfl ?_ | refine brS_tt ?_ | refine brS_ff ?_ | refine brS_not ?_ | refine gI ?_ | refine gT ?_ | refine gF ?_ | refine brS_intro (fun _ => ?_) (fun _ => ?_) | refine gL ?_ | refine gX ?_ | refine gO ?_ | refine gN ?_ | refine ixS_of (q := 22) (by kernel_rfl) (by decide) ?_ | refine ixS_of (q := 0) (by kernel_rfl) (by decide) ?_ | intro _)
  all_goals (conv => whnf)
  all_goals refine ⟨?_, by repeat' (first | exact WkM.refl _ | refine WkM.drop ?_), by repeat' (first | exact Nat.le_refl _ | refine Nat.le_succ_of_le ?_)⟩
  all_goals (kernel_rfl)

theorem c92_23 (F k : Nat) : PureC (CL F (k + 1)) 92 [u32 23] 40 (.int .i64 (Int.ofNat (pc 23))) := by
  intro m R
  refine call_in (n := 21) Try.func92 rfl rfl rfl rfl rfl rfl rfl ?_
  repeat' ((conv => whnf); first | refine eqS_rfl ?_ | refine eqA_rfl ?_ | refine eqA_of (by assumption) ?_ | refine eqS_of (by rfl) ?_ | refine eqL_rfl ?_ | refine eqJ_rfl ?_ | refine gE ?_ | refine seS_rfl ?_ | refine lsS_of hup ?_ | refine lsS_rfl ?_ | refine brS_tt ?_ | refine brS_ff ?_ | refine brS_not ?_ | refine gI ?_ | refine gT ?_ | refine gF ?_ | refine brS_intro (fun _ => ?_) (fun _ => ?_) | refine gL ?_ | refine gX ?_ | refine gO ?_ | refine gN ?_ | refine ixS_of (q := 23) (by kernel_rfl) (by decide) ?_ | refine ixS_of (q := 0) (by kernel_rfl) (by decide) ?_ | intro _)
  all_goals (conv => whnf)
  all_goals refine ⟨?_, by repeat' (first | exact WkM.refl _ | refine WkM.drop ?_), by repeat' (first | exact Nat.le_refl _ | refine Nat.le_succ_of_le ?_)⟩
  all_goals (kernel_rfl)

theorem c92_24 (F k : Nat) : PureC (CL F (k + 1)) 92 [u32 24] 40 (.int .i64 (Int.ofNat (pc 24))) := by
  intro m R
  refine call_in (n := 21) Try.func92 rfl rfl rfl rfl rfl rfl rfl ?_
  repeat' ((conv => whnf); first | refine eqS_rfl ?_ | refine eqA_rfl ?_ | refine eqA_of (by assumption) ?_ | refine eqS_of (by rfl) ?_ | refine eqL_rfl ?_ | refine eqJ_rfl ?_ | refine gE ?_ | refine seS_rfl ?_ | refine lsS_of hup ?_ | refine lsS_rfl ?_ | refine brS_tt ?_ | refine brS_ff ?_ | refine brS_not ?_ | refine gI ?_ | refine gT ?_ | refine gF ?_ | refine brS_intro (fun _ => ?_) (fun _ => ?_) | refine gL ?_ | refine gX ?_ | refine gO ?_ | refine gN ?_ | refine ixS_of (q := 24) (by kernel_rfl) (by decide) ?_ | refine ixS_of (q := 0) (by kernel_rfl) (by decide) ?_ | intro _)
  all_goals (conv => whnf)
  all_goals refine ⟨?_, by repeat' (first | exact WkM.refl _ | refine WkM.drop ?_), by repeat' (first | exact Nat.le_refl _ | refine Nat.le_succ_of_le ?_)⟩
  all_goals (kernel_rfl)

theorem c92_25 (F k : Nat) : PureC (CL F (k + 1)) 92 [u32 25] 40 (.int .i64 (Int.ofNat (pc 25))) := by
  intro m R
  refine call_in (n := 21) Try.func92 rfl rfl rfl rfl rfl rfl rfl ?_
  repeat' ((conv => whnf); first | refine eqS_rfl ?_ | refine eqA_rfl ?_ | refine eqA_of (by assumption) ?_ | refine eqS_of (by rfl) ?_ | refine eqL_rfl ?_ | refine eqJ_rfl ?_ | refine gE ?_ | refine seS_rfl ?_ | refine lsS_of hup ?_ | refine lsS_rfl ?_ | refine brS_tt ?_ | refine brS_ff ?_ | refine brS_not ?_ | refine gI ?_ | refine gT ?_ | refine gF ?_ | refine brS_intro (fun _ => ?_) (fun _ => ?_) | refine gL ?_ | refine gX ?_ | refine gO ?_ | refine gN ?_ | refine ixS_of (q := 25) (by kernel_rfl) (by decide) ?_ | refine ixS_of (q := 0) (by kernel_rfl) (by decide) ?_ | intro _)
  all_goals (conv => whnf)
  all_goals refine ⟨?_, by repeat' (first | exact WkM.refl _ | refine WkM.drop ?_), by repeat' (first | exact Nat.le_refl _ | refine Nat.le_succ_of_le ?_)⟩
  all_goals (kernel_rfl)

theorem c92_26 (F k : Nat) : PureC (CL F (k + 1)) 92 [u32 26] 40 (.int .i64 (Int.ofNat (pc 26))) := by
  intro m R
  refine call_in (n := 21) Try.func92 rfl rfl rfl rfl rfl rfl rfl ?_
  repeat' ((conv => whnf); first | refine eqS_rfl ?_ | refine eqA_rfl ?_ | refine eqA_of (by assumption) ?_ | refine eqS_of (by rfl) ?_ | refine eqL_rfl ?_ | refine eqJ_rfl ?_ | refine gE ?_ | refine seS_rfl ?_ | refine lsS_of hup ?_ | refine lsS_rfl ?_ | refine brS_tt ?_ | refine brS_ff ?_ | refine brS_not ?_ | refine gI ?_ | refine gT ?_ | refine gF ?_ | refine brS_intro (fun _ => ?_) (fun _ => ?_) | refine gL ?_ | refine gX ?_ | refine gO ?_ | refine gN ?_ | refine ixS_of (q := 26) (by kernel_rfl) (by decide) ?_ | refine ixS_of (q := 0) (by kernel_rfl) (by decide) ?_ | intro _)
  all_goals (conv => whnf)
  all_goals refine ⟨?_, by repeat' (first | exact WkM.refl _ | refine WkM.drop ?_), by repeat' (first | exact Nat.le_refl _ | refine Nat.le_succ_of_le ?_)⟩
  all_goals (kernel_rfl)

theorem c92_27 (F k : Nat) : PureC (CL F (k + 1)) 92 [u32 27] 40 (.int .i64 (Int.ofNat (pc 27))) := by
  intro m R
  refine call_in (n := 21) Try.func92 rfl rfl rfl rfl rfl rfl rfl ?_
  repeat' ((conv => whnf); first | refine eqS_rfl ?_ | refine eqA_rfl ?_ | refine eqA_of (by assumption) ?_ | refine eqS_of (by rfl) ?_ | refine eqL_rfl ?_ | refine eqJ_rfl ?_ | refine gE ?_ | refine seS_rfl ?_ | refine lsS_of hup ?_ | refine lsS_rfl ?_ | refine brS_tt ?_ | refine brS_ff ?_ | refine brS_not ?_ | refine gI ?_ | refine gT ?_ | refine gF ?_ | refine brS_intro (fun _ => ?_) (fun _ => ?_) | refine gL ?_ | refine gX ?_ | refine gO ?_ | refine gN ?_ | refine ixS_of (q := 27) (by kernel_rfl) (by decide) ?_ | refine ixS_of (q := 0) (by kernel_rfl) (by decide) ?_ | intro _)
  all_goals (conv => whnf)
  all_goals refine ⟨?_, by repeat' (first | exact WkM.refl _ | refine WkM.drop ?_), by repeat' (first | exact Nat.le_refl _ | refine Nat.le_succ_of_le ?_)⟩
  all_goals (kernel_rfl)

theorem c92_28 (F k : Nat) : PureC (CL F (k + 1)) 92 [u32 28] 40 (.int .i64 (Int.ofNat (pc 28))) := by
  intro m R
  refine call_in (n := 21) Try.func92 rfl rfl rfl rfl rfl rfl rfl ?_
  repeat' ((conv => whnf); first | refine eqS_rfl ?_ | refine eqA_rfl ?_ | refine eqA_of (by assumption) ?_ | refine eqS_of (by rfl) ?_ | refine eqL_rfl ?_ | refine eqJ_rfl ?_ | refine gE ?_ | refine seS_rfl ?_ | refine lsS_of hup ?_ | refine lsS_rfl ?_ | refine brS_tt ?_ | refine brS_ff ?_ | refine brS_not ?_ | refine gI ?_ | refine gT ?_ | refine gF ?_ | refine brS_intro (fun _ => ?_) (fun _ => ?_) | refine gL ?_ | refine gX ?_ | refine gO ?_ | refine gN ?_ | refine ixS_of (q := 28) (by kernel_rfl) (by decide) ?_ | refine ixS_of (q := 0) (by kernel_rfl) (by decide) ?_ | intro _)
  all_goals (conv => whnf)
  all_goals refine ⟨?_, by repeat' (first | exact WkM.refl _ | refine WkM.drop ?_), by repeat' (first | exact Nat.le_refl _ | refine Nat.le_succ_of_le ?_)⟩
  all_goals (kernel_rfl)

theorem c92_29 (F k : Nat) : PureC (CL F (k + 1)) 92 [u32 29] 40 (.int .i64 (Int.ofNat (pc 29))) := by
  intro m R
  refine call_in (n := 21) Try.func92 rfl rfl rfl rfl rfl rfl rfl ?_
  repeat' ((conv => whnf); first | refine eqS_rfl ?_ | refine eqA_rfl ?_ | refine eqA_of (by assumption) ?_ | refine eqS_of (by rfl) ?_ | refine eqL_rfl ?_ | refine eqJ_rfl ?_ | refine gE ?_ | refine seS_rfl ?_ | refine lsS_of hup ?_ | refine lsS_rfl ?_ | refine brS_tt ?_ | refine brS_ff ?_ | refine brS_not ?_ | refine gI ?_ | refine gT ?_ | refine gF ?_ | refine brS_intro (fun _ => ?_) (fun _ => ?_) | refine gL ?_ | refine gX ?_ | refine gO ?_ | refine gN ?_ | refine ixS_of (q := 29) (by kernel_rfl) (by decide) ?_ | refine ixS_of (q := 0) (by kernel_rfl) (by decide) ?_ | intro _)
  all_goals (conv => whnf)
  all_goals refine ⟨?_, by repeat' (first | exact WkM.refl _ | refine WkM.drop ?_), by repeat' (first | exact Nat.le_refl _ | refine Nat.le_succ_of_le ?_)⟩
  all_goals (kernel_rfl)

theorem c92_30 (F k : Nat) : PureC (CL F (k + 1)) 92 [u32 30] 40 (.int .i64 (Int.ofNat (pc 30))) := by
  intro m R
  refine call_in (n := 21) Try.func92 rfl rfl rfl rfl rfl rfl rfl ?_
  repeat' ((conv => whnf); first | refine eqS_rfl ?_ | refine eqA_rfl ?_ | refine eqA_of (by assumption) ?_ | refine eqS_of (by rfl) ?_ | refine eqL_rfl ?_ | refine eqJ_rfl ?_ | refine gE ?_ | refine seS_rfl ?_ | refine lsS_of hup ?_ | refine lsS_rfl ?_ | refine brS_tt ?_ | refine brS_ff ?_ | refine brS_not ?_ | refine gI ?_ | refine gT ?_ | refine gF ?_ | refine brS_intro (fun _ => ?_) (fun _ => ?_) | refine gL ?_ | refine gX ?_ | refine gO ?_ | refine gN ?_ | refine ixS_of (q := 30) (by kernel_rfl) (by decide) ?_ | refine ixS_of (q := 0) (by kernel_rfl) (by decide) ?_ | intro _)
  all_goals (conv => whnf)
  all_goals refine ⟨?_, by repeat' (first | exact WkM.refl _ | refine WkM.drop ?_), by repeat' (first | exact Nat.le_refl _ | refine Nat.le_succ_of_le ?_)⟩
  all_goals (kernel_rfl)

theorem c92_31 (F k : Nat) : PureC (CL F (k + 1)) 92 [u32 31] 40 (.int .i64 (Int.ofNat (pc 31))) := by
  intro m R
  refine call_in (n := 21) Try.func92 rfl rfl rfl rfl rfl rfl rfl ?_
  repeat' ((conv => whnf); first | refine eqS_rfl ?_ | refine eqA_rfl ?_ | refine eqA_of (by assumption) ?_ | refine eqS_of (by rfl) ?_ | refine eqL_rfl ?_ | refine eqJ_rfl ?_ | refine gE ?_ | refine seS_rfl ?_ | refine lsS_of hup ?_ | refine lsS_rfl ?_ | refine brS_tt ?_ | refine brS_ff ?_ | refine brS_not ?_ | refine gI ?_ | refine gT ?_ | refine gF ?_ | refine brS_intro (fun _ => ?_) (fun _ => ?_) | refine gL ?_ | refine gX ?_ | refine gO ?_ | refine gN ?_ | refine ixS_of (q := 31) (by kernel_rfl) (by decide) ?_ | refine ixS_of (q := 0) (by kernel_rfl) (by decide) ?_ | intro _)
  all_goals (conv => whnf)
  all_goals refine ⟨?_, by repeat' (first | exact WkM.refl _ | refine WkM.drop ?_), by repeat' (first | exact Nat.le_refl _ | refine Nat.le_succ_of_le ?_)⟩
  all_goals (kernel_rfl)

theorem c92 (F k g : Nat) (h : g < 32) : PureC (CL F (k + 1)) 92 [u32 g] 40 (.int .i64 (Int.ofNat (pc g))) := by
  match g, h with
  | 0, _ => exact c92_0 F k
  | 1, _ => exact c92_1 F k
  | 2, _ => exact c92_2 F k
  | 3, _ => exact c92_3 F k
  | 4, _ => exact c92_4 F k
  | 5, _ => exact c92_5 F k
  | 6, _ => exact c92_6 F k
  | 7, _ => exact c92_7 F k
  | 8, _ => exact c92_8 F k
  | 9, _ => exact c92_9 F k
  | 10, _ => exact c92_10 F k
  | 11, _ => exact c92_11 F k
  | 12, _ => exact c92_12 F k
  | 13, _ => exact c92_13 F k
  | 14, _ => exact c92_14 F k
  | 15, _ => exact c92_15 F k
  | 16, _ => exact c92_16 F k
  | 17, _ => exact c92_17 F k
  | 18, _ => exact c92_18 F k
  | 19, _ => exact c92_19 F k
  | 20, _ => exact c92_20 F k
  | 21, _ => exact c92_21 F k
  | 22, _ => exact c92_22 F k
  | 23, _ => exact c92_23 F k
  | 24, _ => exact c92_24 F k
  | 25, _ => exact c92_25 F k
  | 26, _ => exact c92_26 F k
  | 27, _ => exact c92_27 F k
  | 28, _ => exact c92_28 F k
  | 29, _ => exact c92_29 F k
  | 30, _ => exact c92_30 F k
  | 31, _ => exact c92_31 F k
  | g + 32, h => exact absurd h (by omega)
theorem c76 (F k g : Nat) (h : g < 32) : PureC (CL F (k + 2)) 76 [u32 g] 50 (.int .i64 (Int.ofNat (pc g))) := by
  intro m R
  refine call_in (n := 5) Try.func76 rfl rfl rfl rfl rfl rfl rfl ?_
  repeat' ((conv => whnf); first | refine eqS_rfl ?_ | refine eqA_rfl ?_ | refine eqA_of (by assumption) ?_ | refine eqS_of (by rfl) ?_ | refine eqL_rfl ?_ | refine eqJ_rfl ?_ | refine gE ?_ | refine seS_rfl ?_ | refine lsS_of hup ?_ | refine lsS_rfl ?_ | refine brS_tt ?_ | refine brS_ff ?_ | refine brS_not ?_ | refine gI ?_ | refine gT ?_ | refine gF ?_ | refine brS_intro (fun _ => ?_) (fun _ => ?_) | refine gL ?_ | refine gX ?_ | refine gO ?_ | refine gN ?_ | refine call_pure (c92 F _ g h) ?_ | intro _)
  all_goals (conv => whnf)
  all_goals refine ⟨?_, by repeat' (first | exact WkM.refl _ | refine WkM.drop ?_), by repeat' (first | exact Nat.le_refl _ | refine Nat.le_succ_of_le ?_)⟩
  all_goals (rfl)

end Go.Proofs.Ytefnljdfgjjpjaa
namespace Go.Proofs.Ytefnljdfgjjpjaa
open Go.Ab
attribute [local irreducible] aggOk drwOK
set_option maxRecDepth 100000
set_option maxHeartbeats 4000000
set_option linter.unusedVariables false
set_option linter.unusedSimpArgs false
theorem c59 (F e n c : Nat) (hF : 200 < F) (hn : n ≤ 5) {σ : Type} (M : σ → Mem → Prop) (step : Nat → σ → Nat → Bool × σ) (gf : FuncId) (fs cs : List SV) (hv : vqS (.fn gf fs cs) = true) (hS : ∀ D, StepC (CL F (D + e)) (.fn gf fs cs) M step n c) {st : σ} {dd : Nat} {l : List Nat} {st9 : σ} (hrun : Run n step st 0 (dd :: l) st9)
    (d : Nat) (m1 rest : Mem) (C R : Nat) (hC : C = ((c + 60) * n + 300) * ((dd :: l).length + 1)) (hl10 : (dd :: l).length ≤ 10) (hM : M st m1) : callS (CL F (d + (dd :: l).length + e + 2)) (.fn 59 [] []) [.int .i64 (Int.ofNat n), .fn gf fs cs] (m1 ++ rest) (addL R (C + 100)) 3000 fun w m' R' _ => R ≤ R' ∧ ∃ a2 m2, M st9 m2 ∧ den w = Value.slice a2 (dd :: l).length (dd :: l).length ∧ WkM m' ((920, .gr a2 (dd :: l).length 3 1 (nf fun z => List.getD (dd :: l) z 0)) :: (m2 ++ rest)) := by
  have k := fun bd bm bc => c82n F e n c hF hn M step gf fs cs hv hS bd bm bc _ rfl hrun (Nat.pow_pos (by decide)) d m1 rest (R + 0) hl10 hM
  rw [← hC] at k
  generalize (dd :: l).length = q at k hl10 ⊢
  generalize dd :: l = LL at k ⊢
  obtain ⟨D, hD⟩ : ∃ D, D = d + q + e := ⟨_, rfl⟩
  rw [← hD] at k ⊢
  rw [show C + 100 = (C) + 100 from rfl, addL_eq, ← Nat.add_assoc, ← addL_eq _ 100, Nat.add_comm R C]
  refine call_in (n := 9) Try.func59 rfl rfl rfl rfl rfl rfl rfl ?_
  repeat' ((conv => whnf); first | refine eqS_rfl ?_ | refine eqA_rfl ?_ | refine eqA_of (by assumption) ?_ | refine eqS_of (by rfl) ?_ | refine eqL_rfl ?_ | refine eqJ_rfl ?_ | refine gE ?_ | refine seS_rfl ?_ | refine lsS_of hup ?_ | refine lsS_rfl ?_ | refine brS_tt ?_ | refine brS_ff ?_ | refine brS_not ?_ | refine gI ?_ | refine gT ?_ | refine gF ?_ | refine brS_intro (fun _ => ?_) (fun _ => ?_) | refine gL ?_ | refine gX ?_ | refine gO ?_ | refine gN ?_ | refine call82 (k _ _ _) (by rfl) (by rfl) (by exact WG) (nM1) ?_ | intro _)
  rename_i a2 m2 hM2
  conv => whnf
  exact ⟨nM1, a2, m2, hM2, rfl, by exact WG⟩
/-- whether a day can come just after a group, asked as a step -/
theorem stepFo (F D n : Nat) (hn : n ≤ 5) (ab : Option Addr) (bs : Nat → Nat) (hbs : ∀ j, j < n → bs j < 4294967296) : StepC (CL F (D + 2)) (.fn 61 [.sl 1002 ab n n] []) (fun (_ : Unit) m => m = [(1002, .ro ab n 104 1 (nu bs))]) (fun g _ d => (fo bs g d, ())) n 150 := by
  intro st g d m1 rest R hg hd hM
  subst hM
  have hg32 : g < 4294967296 := Nat.lt_of_lt_of_le hg (Nat.le_trans (Nat.pow_le_pow_right (by omega) hn) (by decide))
  refine call_fs (l := [.sl 1002 ab n n, u32 g, .int .i64 (Int.ofNat d)]) rfl rfl rfl (call_readL (c61 F D ab 104 n n bs hbs (by omega) g d hg32 hd _ rfl) (R + 10) (by rfl) (by exact SeesM.cons 1002 (sees_ro (i := 1002) (by rfl)) (SeesM.nil _) (fun _ _ _ _ _ _ x hx => by cases hx)) (nM1) ?_)
  exact ⟨by omega, rfl, _, rfl, WkM.refl _⟩
theorem callGr {call : CallT} {fv : SV} {args args0 : List SV} {mm M0 : Mem} {N q R0 i : Nat} {MM : Mem → Prop} {FF : Option Addr → Mem → Mem} (h : callS call fv args0 M0 (addL R0 N) 3000 fun w m' R' _ => R0 ≤ R' ∧ ∃ a2 m2, MM m2 ∧ den w = Value.slice a2 q q ∧ WkM m' (FF a2 m2)) {R ni : Nat} {K : SV → Mem → Nat → Nat → Prop} (ha : dens args = dens args0) (hw : WkM mm M0) (hN : R0 + N ≤ R)
    (hK : ∀ a2 m2, MM m2 → K (.sl i a2 q q) (FF a2 m2) R0 ni) : callS call fv args mm R ni K := by
  refine callS.cast (fv' := fv) (args' := args0) rfl ha (callS.wk hw (callS.less (R' := addL R0 N) (by rw [addL_eq]; exact hN) (callS.ni 3000 ?_)))
  exact call_post h fun w m' R' n' ⟨hR, a2, m2, hM, hd, hwk⟩ => ⟨.sl i a2 q q, FF a2 m2, R0, ni, hd, hwk, hR, hK a2 m2 hM⟩
/-- numbers and no error, of their own -/
def QE (i n : Nat) (o : Nat → Nat) (wv : SV) (mm : Mem) : Prop := ∃ a, wv = .tup [.sl i a n n, .int .i64 0] ∧ mm = [(i, .gr a n 3 1 (nf o))]
theorem callQE {call : CallT} {g : FuncId} {args args0 : List SV} {m0 : Mem} {N i n : Nat} {o : Nat → Nat} (h : ∀ R, callS call (.fn g [] []) args0 m0 (addL R N) 0 fun w m' R' _ => (∃ wv mm, QE i n o wv mm ∧ den w = den wv ∧ WkM m' mm) ∧ R ≤ R') (R2 : Nat) {m : Mem} {R ni : Nat} {K : SV → Mem → Nat → Nat → Prop} (ha : dens args = dens args0) (hs : SeesM m m0) (hN : R2 + N ≤ R)
    (hK : ∀ a, K (.tup [.sl i a n n, .int .i64 0]) ((i, .gr a n 3 1 (nf o)) :: m) R2 ni) : callS call (.fn g [] []) args m R ni K :=
  call_freshL (QE i n o) h (fun wv mm hq => by obtain ⟨a, _, rfl⟩ := hq; intro x hx; rw [List.mem_singleton.1 hx]; exact ⟨_, _, _, _, _, rfl⟩) R2 ha hs hN (fun wv mm hq => by obtain ⟨a, rfl, rfl⟩ := hq; exact hK a)
theorem c23 (F k q : Nat) (hF : 200 < F) (am : Option Addr) (n em cm : Nat) (lo hi : Nat → Nat) (hn0 : 0 < n) (hn : n ≤ 5) (hlh : ∀ j, j < n → lo j ≤ hi j ∧ hi j ≤ 100000) (o : List Nat) (ho : o.length = n) (hrun : Run n (fun g (_ : Unit) d => (fo (fun z => bsF lo hi z n) g d, ())) () 0 o ()) (R : Nat) :
    callS (CL F (k + n + 5)) (.fn 23 [] []) [.sl 1000 am n cm] [(1000, .ro am n em 2 (mf lo hi))] (addL R (300000 + 200)) 0 fun w m' R' _ => (∃ wv mm, QE q n (fun z => o.getD z 0) wv mm ∧ den w = den wv ∧ WkM m' mm) ∧ R ≤ R' := by
  have hbs : ∀ j, j < n → bsF lo hi j n < 4294967296 := fun j _ => bsF_lt (by omega)
  match o, hrun, ho with
  | [], _, ho => exact absurd ho (by show ¬ 0 = n; omega)
  | dd :: l, hrun, ho =>
    have k59 := fun ab rest C hC R => c59 F 2 n 150 hF hn (fun (_ : Unit) m => m = [(1002, .ro ab n 104 1 (nu (fun z => bsF lo hi z n)))]) (fun g _ d => (fo (fun z => bsF lo hi z n) g d, ())) 61 [.sl 1002 ab n n] [] rfl (fun D => stepFo F D n hn ab _ hbs) hrun k [(1002, .ro ab n 104 1 (nu (fun z => bsF lo hi z n)))] rest C R hC (by omega) rfl
    obtain ⟨C, hC⟩ : ∃ C, C = ((150 + 60) * n + 300) * ((dd :: l).length + 1) := ⟨_, rfl⟩
    have hC2 : C ≤ 9000 := by
      have h1 := Nat.mul_le_mul (show (150 + 60) * n + 300 ≤ 1350 by omega) (show (dd :: l).length + 1 ≤ 6 by omega)
      omega
    have k59 := fun ab rest R => k59 ab rest C hC R
    generalize dd :: l = LL at k59 ho ⊢
    rw [ho] at k59
    have kk : k + n + 2 + 2 = k + n + 4 := rfl
    rw [kk] at k59
    rw [show 300000 + 200 = (300000) + 200 from rfl, addL_eq, ← Nat.add_assoc, ← addL_eq _ 200, Nat.add_comm R (300000)]
    refine call_in (n := 16) Try.func23 rfl rfl rfl rfl rfl rfl rfl ?_
    repeat' ((conv => whnf); first | refine eqS_rfl ?_ | refine eqA_rfl ?_ | refine eqA_of (by assumption) ?_ | refine eqS_of (by rfl) ?_ | refine eqL_rfl ?_ | refine eqJ_rfl ?_ | refine gE ?_ | refine seS_rfl ?_ | refine lsS_of hup ?_ | refine lsS_rfl ?_ | refine brS_tt ?_ | refine brS_ff ?_ | refine brS_not ?_ | refine gI ?_ | refine gT ?_ | refine gF ?_ | refine brS_intro (fun _ => ?_) (fun _ => ?_) | refine gL ?_ | refine gX ?_ | refine gO ?_ | refine gN ?_ | refine callQS (c60 F _ 800 hF am n em cm lo hi (by omega)) (addL (50000 + R) 150) (by rfl) (by exact SeesM.cons 1000 (sees_ro (i := 1000) (by rfl)) (SeesM.nil _) (fun _ _ _ _ _ _ x hx => by cases hx)) (nM1) ?_ | refine call_readL (c21 F _ hF am n em cm lo hi hn0 (by omega) hlh) (addL (290000 + R) 150) (by rfl) (by exact SeesM.cons 1000 (sees_ro (i := 1000) (by rfl)) (SeesM.nil _) (fun _ _ _ _ _ _ x hx => by cases hx)) (nM1) ?_ | refine callGr (i := 801) (k59 _ [(1000, .ro am n em 2 (mf lo hi))] (R + 0)) (by rfl) (by exact WG) (nM1) ?_ | intro _)
    rename_i a1 a2 m2 hM2
    conv => whnf
    exact ⟨⟨_, _, ⟨a2, rfl, rfl⟩, rfl, by exact WG⟩, nM1⟩
end Go.Proofs.Ytefnljdfgjjpjaa
namespace Go.Proofs.Ytefnljdfgjjpjaa
open Go.Ab
attribute [local irreducible] aggOk drwOK
set_option maxRecDepth 100000
set_option maxHeartbeats 4000000
set_option linter.unusedVariables false
set_option linter.unusedSimpArgs false
theorem WV {m m' : Mem} (h : WkM m m' := by refine Sel.wk ?_; (try simp only [List.cons_append, List.nil_append]); repeat' (first | exact Sel.nil | exact Sel.all | exact Sel.left | refine Sel.cons pH ?_ | refine Sel.cons (pT pH) ?_ | refine Sel.cons (pT (pT pH)) ?_ | refine Sel.cons (pT (pT (pT pH))) ?_ | refine Sel.cons (pT (pT (pT (pT pH)))) ?_ | refine Sel.cons (pT (pT (pT (pT (pT pH))))) ?_ | refine Sel.cons (pT (pT (pT (pT (pT (pT pH)))))) ?_ | refine Sel.cons (pT (pT (pT (pT (pT (pT (pT pH))))))) ?_ | refine Sel.cons (pT (pT (pT (pT (pT (pT (pT (pT pH)))))))) ?_ | refine Sel.cons (pT (pT (pT (pT (pT (pT (pT (pT (pT pH))))))))) ?_ | refine Sel.cons (pT (pT (pT (pT (pT (pT (pT (pT (pT (pT pH)))))))))) ?_ | refine Sel.cons (pT (pT (pT (pT (pT (pT (pT (pT (pT (pT (pT pH))))))))))) ?_ | refine Sel.cons (pT (pT (pT (pT (pT (pT (pT (pT (pT (pT (pT (pT pH)))))))))))) ?_ | refine Sel.cons (pT (pT (pT (pT (pT (pT (pT (pT (pT (pT (pT (pT (pT pH))))))))))))) ?_ | refine Sel.cons (pT (pT (pT (pT (pT (pT (pT (pT (pT (pT (pT (pT (pT (pT pH)))))))))))))) ?_ | refine Sel.cons (pT (pT (pT (pT (pT (pT (pT (pT (pT (pT (pT (pT (pT (pT (pT pH))))))))))))))) ?_ | refine Sel.consw pH ⟨rfl, rfl, rfl⟩ ?_ | refine Sel.consw (pT pH) ⟨rfl, rfl, rfl⟩ ?_ | refine Sel.consw (pT (pT pH)) ⟨rfl, rfl, rfl⟩ ?_ | refine Sel.consw (pT (pT (pT pH))) ⟨rfl, rfl, rfl⟩ ?_ | refine Sel.consw (pT (pT (pT (pT pH)))) ⟨rfl, rfl, rfl⟩ ?_ | refine Sel.consw (pT (pT (pT (pT (pT pH))))) ⟨rfl, rfl, rfl⟩ ?_ | refine Sel.consw (pT (pT (pT (pT (pT (pT pH)))))) ⟨rfl, rfl, rfl⟩ ?_ | refine Sel.consw (pT (pT (pT (pT (pT (pT (pT pH))))))) ⟨rfl, rfl, rfl⟩ ?_ | refine Sel.consw (pT (pT (pT (pT (pT (pT (pT (pT pH)))))))) ⟨rfl, rfl, rfl⟩ ?_ | refine Sel.consw (pT (pT (pT (pT (pT (pT (pT (pT (pT pH))))))))) ⟨rfl, rfl, rfl⟩ ?_ | refine Sel.consw (pT (pT (pT (pT (pT (pT (pT (pT (pT (pT pH)))))))))) ⟨rfl, rfl, rfl⟩ ?_ | refine Sel.consw (pT (pT (pT (pT (pT (pT (pT (pT (pT (pT (pT pH))))))))))) ⟨rfl, rfl, rfl⟩ ?_ | refine Sel.consw (pT (pT (pT (pT (pT (pT (pT (pT (pT (pT (pT (pT pH)))))))))))) ⟨rfl, rfl, rfl⟩ ?_ | refine Sel.consw (pT (pT (pT (pT (pT (pT (pT (pT (pT (pT (pT (pT (pT pH))))))))))))) ⟨rfl, rfl, rfl⟩ ?_ | refine Sel.consw (pT (pT (pT (pT (pT (pT (pT (pT (pT (pT (pT (pT (pT (pT pH)))))))))))))) ⟨rfl, rfl, rfl⟩ ?_ | refine Sel.consw (pT (pT (pT (pT (pT (pT (pT (pT (pT (pT (pT (pT (pT (pT (pT pH))))))))))))))) ⟨rfl, rfl, rfl⟩ ?_ | refine Sel.consw pH ⟨rfl, rfl, rfl, rfl, by assumption⟩ ?_ | refine Sel.consw (pT pH) ⟨rfl, rfl, rfl, rfl, by assumption⟩ ?_ | refine Sel.consw (pT (pT pH)) ⟨rfl, rfl, rfl, rfl, by assumption⟩ ?_ | refine Sel.consw (pT (pT (pT pH))) ⟨rfl, rfl, rfl, rfl, by assumption⟩ ?_ | refine Sel.consw (pT (pT (pT (pT pH)))) ⟨rfl, rfl, rfl, rfl, by assumption⟩ ?_ | refine Sel.consw (pT (pT (pT (pT (pT pH))))) ⟨rfl, rfl, rfl, rfl, by assumption⟩ ?_ | refine Sel.consw (pT (pT (pT (pT (pT (pT pH)))))) ⟨rfl, rfl, rfl, rfl, by assumption⟩ ?_ | refine Sel.consw (pT (pT (pT (pT (pT (pT (pT pH))))))) ⟨rfl, rfl, rfl, rfl, by assumption⟩ ?_ | refine Sel.consw (pT (pT (pT (pT (pT (pT (pT (pT pH)))))))) ⟨rfl, rfl, rfl, rfl, by assumption⟩ ?_ | refine Sel.consw (pT (pT (pT (pT (pT (pT (pT (pT (pT pH))))))))) ⟨rfl, rfl, rfl, rfl, by assumption⟩ ?_ | refine Sel.consw (pT (pT (pT (pT (pT (pT (pT (pT (pT (pT pH)))))))))) ⟨rfl, rfl, rfl, rfl, by assumption⟩ ?_ | refine Sel.consw (pT (pT (pT (pT (pT (pT (pT (pT (pT (pT (pT pH))))))))))) ⟨rfl, rfl, rfl, rfl, by assumption⟩ ?_ | refine Sel.consw (pT (pT (pT (pT (pT (pT (pT (pT (pT (pT (pT (pT pH)))))))))))) ⟨rfl, rfl, rfl, rfl, by assumption⟩ ?_ | refine Sel.consw (pT (pT (pT (pT (pT (pT (pT (pT (pT (pT (pT (pT (pT pH))))))))))))) ⟨rfl, rfl, rfl, rfl, by assumption⟩ ?_ | refine Sel.consw (pT (pT (pT (pT (pT (pT (pT (pT (pT (pT (pT (pT (pT (pT pH)))))))))))))) ⟨rfl, rfl, rfl, rfl, by assumption⟩ ?_ | refine Sel.consw (pT (pT (pT (pT (pT (pT (pT (pT (pT (pT (pT (pT (pT (pT (pT pH))))))))))))))) ⟨rfl, rfl, rfl, rfl, by assumption⟩ ?_ | refine Sel.consw pH ⟨rfl, rfl, rfl, .inl rfl, fun _ _ => rfl⟩ ?_ | refine Sel.consw (pT pH) ⟨rfl, rfl, rfl, .inl rfl, fun _ _ => rfl⟩ ?_ | refine Sel.consw (pT (pT pH)) ⟨rfl, rfl, rfl, .inl rfl, fun _ _ => rfl⟩ ?_ | refine Sel.consw (pT (pT (pT pH))) ⟨rfl, rfl, rfl, .inl rfl, fun _ _ => rfl⟩ ?_ | refine Sel.consw (pT (pT (pT (pT pH)))) ⟨rfl, rfl, rfl, .inl rfl, fun _ _ => rfl⟩ ?_ | refine Sel.consw (pT (pT (pT (pT (pT pH))))) ⟨rfl, rfl, rfl, .inl rfl, fun _ _ => rfl⟩ ?_ | refine Sel.consw (pT (pT (pT (pT (pT (pT pH)))))) ⟨rfl, rfl, rfl, .inl rfl, fun _ _ => rfl⟩ ?_ | refine Sel.consw (pT (pT (pT (pT (pT (pT (pT pH))))))) ⟨rfl, rfl, rfl, .inl rfl, fun _ _ => rfl⟩ ?_ | refine Sel.consw (pT (pT (pT (pT (pT (pT (pT (pT pH)))))))) ⟨rfl, rfl, rfl, .inl rfl, fun _ _ => rfl⟩ ?_ | refine Sel.consw (pT (pT (pT (pT (pT (pT (pT (pT (pT pH))))))))) ⟨rfl, rfl, rfl, .inl rfl, fun _ _ => rfl⟩ ?_ | refine Sel.consw (pT (pT (pT (pT (pT (pT (pT (pT (pT (pT pH)))))))))) ⟨rfl, rfl, rfl, .inl rfl, fun _ _ => rfl⟩ ?_ | refine Sel.consw (pT (pT (pT (pT (pT (pT (pT (pT (pT (pT (pT pH))))))))))) ⟨rfl, rfl, rfl, .inl rfl, fun _ _ => rfl⟩ ?_ | refine Sel.consw (pT (pT (pT (pT (pT (pT (pT (pT (pT (pT (pT (pT pH)))))))))))) ⟨rfl, rfl, rfl, .inl rfl, fun _ _ => rfl⟩ ?_ | refine Sel.consw (pT (pT (pT (pT (pT (pT (pT (pT (pT (pT (pT (pT (pT pH))))))))))))) ⟨rfl, rfl, rfl, .inl rfl, fun _ _ => rfl⟩ ?_ | refine Sel.consw (pT (pT (pT (pT (pT (pT (pT (pT (pT (pT (pT (pT (pT (pT pH)))))))))))))) ⟨rfl, rfl, rfl, .inl rfl, fun _ _ => rfl⟩ ?_ | refine Sel.consw (pT (pT (pT (pT (pT (pT (pT (pT (pT (pT (pT (pT (pT (pT (pT pH))))))))))))))) ⟨rfl, rfl, rfl, .inl rfl, fun _ _ => rfl⟩ ?_ | refine Sel.consw pH ⟨rfl, rfl, rfl, .inr rfl, fun _ _ => rfl⟩ ?_ | refine Sel.consw (pT pH) ⟨rfl, rfl, rfl, .inr rfl, fun _ _ => rfl⟩ ?_ | refine Sel.consw (pT (pT pH)) ⟨rfl, rfl, rfl, .inr rfl, fun _ _ => rfl⟩ ?_ | refine Sel.consw (pT (pT (pT pH))) ⟨rfl, rfl, rfl, .inr rfl, fun _ _ => rfl⟩ ?_ | refine Sel.consw (pT (pT (pT (pT pH)))) ⟨rfl, rfl, rfl, .inr rfl, fun _ _ => rfl⟩ ?_ | refine Sel.consw (pT (pT (pT (pT (pT pH))))) ⟨rfl, rfl, rfl, .inr rfl, fun _ _ => rfl⟩ ?_ | refine Sel.consw (pT (pT (pT (pT (pT (pT pH)))))) ⟨rfl, rfl, rfl, .inr rfl, fun _ _ => rfl⟩ ?_ | refine Sel.consw (pT (pT (pT (pT (pT (pT (pT pH))))))) ⟨rfl, rfl, rfl, .inr rfl, fun _ _ => rfl⟩ ?_ | refine Sel.consw (pT (pT (pT (pT (pT (pT (pT (pT pH)))))))) ⟨rfl, rfl, rfl, .inr rfl, fun _ _ => rfl⟩ ?_ | refine Sel.consw (pT (pT (pT (pT (pT (pT (pT (pT (pT pH))))))))) ⟨rfl, rfl, rfl, .inr rfl, fun _ _ => rfl⟩ ?_ | refine Sel.consw (pT (pT (pT (pT (pT (pT (pT (pT (pT (pT pH)))))))))) ⟨rfl, rfl, rfl, .inr rfl, fun _ _ => rfl⟩ ?_ | refine Sel.consw (pT (pT (pT (pT (pT (pT (pT (pT (pT (pT (pT pH))))))))))) ⟨rfl, rfl, rfl, .inr rfl, fun _ _ => rfl⟩ ?_ | refine Sel.consw (pT (pT (pT (pT (pT (pT (pT (pT (pT (pT (pT (pT pH)))))))))))) ⟨rfl, rfl, rfl, .inr rfl, fun _ _ => rfl⟩ ?_ | refine Sel.consw (pT (pT (pT (pT (pT (pT (pT (pT (pT (pT (pT (pT (pT pH))))))))))))) ⟨rfl, rfl, rfl, .inr rfl, fun _ _ => rfl⟩ ?_ | refine Sel.consw (pT (pT (pT (pT (pT (pT (pT (pT (pT (pT (pT (pT (pT (pT pH)))))))))))))) ⟨rfl, rfl, rfl, .inr rfl, fun _ _ => rfl⟩ ?_ | refine Sel.consw (pT (pT (pT (pT (pT (pT (pT (pT (pT (pT (pT (pT (pT (pT (pT pH))))))))))))))) ⟨rfl, rfl, rfl, .inr rfl, fun _ _ => rfl⟩ ?_ | refine Sel.consw pH ⟨rfl, .inl ⟨rfl, by assumption⟩⟩ ?_ | refine Sel.consw (pT pH) ⟨rfl, .inl ⟨rfl, by assumption⟩⟩ ?_ | refine Sel.consw (pT (pT pH)) ⟨rfl, .inl ⟨rfl, by assumption⟩⟩ ?_ | refine Sel.consw (pT (pT (pT pH))) ⟨rfl, .inl ⟨rfl, by assumption⟩⟩ ?_ | refine Sel.consw (pT (pT (pT (pT pH)))) ⟨rfl, .inl ⟨rfl, by assumption⟩⟩ ?_ | refine Sel.consw (pT (pT (pT (pT (pT pH))))) ⟨rfl, .inl ⟨rfl, by assumption⟩⟩ ?_ | refine Sel.consw (pT (pT (pT (pT (pT (pT pH)))))) ⟨rfl, .inl ⟨rfl, by assumption⟩⟩ ?_ | refine Sel.consw (pT (pT (pT (pT (pT (pT (pT pH))))))) ⟨rfl, .inl ⟨rfl, by assumption⟩⟩ ?_ | refine Sel.consw pH ⟨rfl, .inr ⟨fun _ => rfl, fun _ => rfl⟩⟩ ?_ | refine Sel.consw (pT pH) ⟨rfl, .inr ⟨fun _ => rfl, fun _ => rfl⟩⟩ ?_ | refine Sel.consw (pT (pT pH)) ⟨rfl, .inr ⟨fun _ => rfl, fun _ => rfl⟩⟩ ?_ | refine Sel.consw (pT (pT (pT pH))) ⟨rfl, .inr ⟨fun _ => rfl, fun _ => rfl⟩⟩ ?_ | refine Sel.consw (pT (pT (pT (pT pH)))) ⟨rfl, .inr ⟨fun _ => rfl, fun _ => rfl⟩⟩ ?_ | refine Sel.consw (pT (pT (pT (pT (pT pH))))) ⟨rfl, .inr ⟨fun _ => rfl, fun _ => rfl⟩⟩ ?_ | refine Sel.consw (pT (pT (pT (pT (pT (pT pH)))))) ⟨rfl, .inr ⟨fun _ => rfl, fun _ => rfl⟩⟩ ?_ | refine Sel.consw (pT (pT (pT (pT (pT (pT (pT pH))))))) ⟨rfl, .inr ⟨fun _ => rfl, fun _ => rfl⟩⟩ ?_ | refine Sel.snoc pH ?_ | refine Sel.snoc (pT pH) ?_ | refine Sel.snoc (pT (pT pH)) ?_ | refine Sel.snoc (pT (pT (pT pH))) ?_ | refine Sel.snoc (pT (pT (pT (pT pH)))) ?_ | refine Sel.snoc (pT (pT (pT (pT (pT pH))))) ?_ | refine Sel.snoc (pT (pT (pT (pT (pT (pT pH)))))) ?_ | refine Sel.snoc (pT (pT (pT (pT (pT (pT (pT pH))))))) ?_ | refine Sel.snoc (pT (pT (pT (pT (pT (pT (pT (pT pH)))))))) ?_ | refine Sel.snoc (pT (pT (pT (pT (pT (pT (pT (pT (pT pH))))))))) ?_ | refine Sel.snoc (pT (pT (pT (pT (pT (pT (pT (pT (pT (pT pH)))))))))) ?_ | refine Sel.snoc (pT (pT (pT (pT (pT (pT (pT (pT (pT (pT (pT pH))))))))))) ?_ | refine Sel.snoc (pT (pT (pT (pT (pT (pT (pT (pT (pT (pT (pT (pT pH)))))))))))) ?_ | refine Sel.snoc (pT (pT (pT (pT (pT (pT (pT (pT (pT (pT (pT (pT (pT pH))))))))))))) ?_ | refine Sel.snoc (pT (pT (pT (pT (pT (pT (pT (pT (pT (pT (pT (pT (pT (pT pH)))))))))))))) ?_ | refine Sel.snoc (pT (pT (pT (pT (pT (pT (pT (pT (pT (pT (pT (pT (pT (pT (pT pH))))))))))))))) ?_ | refine Sel.drop ?_)) : WkM m m' := h
abbrev kvG (g : Nat) : SV := u32 g
theorem keyG (d : TypeDesc) (h : Try.prog.underlying 103 = some d) : KeyH Try.prog 103 d (fun a => den (kvG a)) := by
  rw [Try.underlying103] at h
  cases h
  refine ⟨fun a => (by kernel_rfl), fun a b => ?_⟩
  show some (iEq (Int.ofNat a) (Int.ofNat b)) = _
  rw [iEq_n]
/-- what was counted is right -/
def InvW (n : Nat) (bs : Nat → Nat) (f : Nat → Option SV) : Prop := ∀ g v, f g = some v → v = .int .i64 (Int.ofNat (Wg n (fo bs) g))
theorem InvW.upd {n : Nat} {bs : Nat → Nat} {f : Nat → Option SV} (h : InvW n bs f) (g : Nat) : InvW n bs (updM f g (.int .i64 (Int.ofNat (Wg n (fo bs) g)))) := fun a v hv => by
  unfold updM at hv
  cases hb : Nat.beq a g with
  | true => rw [hb, cond_true] at hv; cases hv; rw [beq_true hb]
  | false => rw [hb, cond_false] at hv; exact h a v hv
def cst (n : Nat) : Nat → Nat
  | 0 => 600
  | k + 1 => n * (cst n k + 300) + 600
theorem oJ_le (n : Nat) (f : Nat → Nat → Bool) (k g : Nat) {B : Nat} (hB : ∀ d, oW n f k (wt g d) ≤ B) : ∀ j, (oJ n f k g j).length ≤ j * B
  | 0 => by rw [Nat.zero_mul]; exact Nat.le_refl 0
  | j + 1 => by
    have ih := oJ_le n f k g hB j
    rw [Nat.succ_mul]
    cases h : f g j with
    | true => rw [oJ_len_t n f h]; have := hB j; omega
    | false => rw [oJ_len_f n f h]; omega
theorem oW_le (n : Nat) (f : Nat → Nat → Bool) : ∀ k g, oW n f k g ≤ n ^ k
  | 0, g => by show [[]].length ≤ 1; simp
  | k + 1, g => by
    show (oJ n f k g n).length ≤ _
    rw [Nat.pow_succ, Nat.mul_comm]
    exact oJ_le n f k g (fun d => oW_le n f k _) n
theorem pow5 {n k : Nat} (hn : n ≤ 5) (hk : k ≤ 5) : n ^ k ≤ 3125 := by
  have h1 : n ^ k ≤ 5 ^ k := Nat.pow_le_pow_left hn k
  have h2 : 5 ^ k ≤ 5 ^ 5 := Nat.pow_le_pow_right (by omega) hk
  omega
theorem callW {call : CallT} {g : FuncId} {args args0 : List SV} {mm MM0 : Mem} {N n v R0 : Nat} {bs : Nat → Nat} {FF : (Nat → Option SV) → Mem} (h : callS call (.fn g [] []) args0 MM0 (addL R0 N) 3000 fun w m' R' _ => R0 ≤ R' ∧ den w = .int .i64 (Int.ofNat v) ∧ ∃ f2, InvW n bs f2 ∧ WkM m' (FF f2)) {R ni : Nat} {K : SV → Mem → Nat → Nat → Prop} (ha : dens args = dens args0) (hw : WkM mm MM0) (hN : R0 + N ≤ R)
    (hK : ∀ f2, InvW n bs f2 → K (.int .i64 (Int.ofNat v)) (FF f2) R0 ni) : callS call (.fn g [] []) args mm R ni K := by
  refine callS.cast (fv' := .fn g [] []) (args' := args0) rfl ha (callS.wk hw (callS.less (R' := addL R0 N) (by rw [addL_eq]; exact hN) (callS.ni 3000 ?_)))
  exact call_post h fun w m' R' n' ⟨hR, hd, f2, hI, hwk⟩ => ⟨.int .i64 (Int.ofNat v), FF f2, R0, ni, hd, hwk, hR, hK f2 hI⟩
theorem c94 (F n : Nat) (hF : 200 < F) (hn : n ≤ 5) (bs : Nat → Nat) (hbs : ∀ j, j < n → bs j < 4294967296) (hFo : StepF n (fo bs)) (ab : Option Addr) (bm k Q : Nat) (H : ∀ g, g < 2 ^ n → pc g + k = n → ∀ (f : Nat → Option SV) (rest : Mem) (R d : Nat), InvW n bs f →
    callS (CL F (d + 3 * k + 5)) (.fn 87 [] []) [.agg [.int .i64 (Int.ofNat n), .fn 61 [.sl 1002 ab n n] [], .mpv 1003 bm], u32 g] ((1002, .ro ab n 104 1 (nu bs)) :: (1003, .mp bm kvG f) :: rest) (addL R Q) 3000 fun w m' R' _ => R ≤ R' ∧ den w = .int .i64 (Int.ofNat (Wg n (fo bs) g)) ∧ ∃ f2, InvW n bs f2 ∧ WkM m' ((1002, .ro ab n 104 1 (nu bs)) :: (1003, .mp bm kvG f2) :: rest)) (g : Nat) (hg : g < 2 ^ n) (hk : pc g + (k + 1) = n) (f : Nat → Option SV) (rest : Mem) (R d : Nat) (hI : InvW n bs f) :
    callS (CL F (d + 3 * k + 6)) (.fn 94 [] []) [.agg [.int .i64 (Int.ofNat n), .fn 61 [.sl 1002 ab n n] [], .mpv 1003 bm], u32 g] ((1002, .ro ab n 104 1 (nu bs)) :: (1003, .mp bm kvG f) :: rest) (addL R (n * (Q + 300) + 300)) 3000 fun w m' R' _ => R ≤ R' ∧ den w = .int .i64 (Int.ofNat (Wg n (fo bs) g)) ∧ ∃ f2, InvW n bs f2 ∧ WkM m' ((1002, .ro ab n 104 1 (nu bs)) :: (1003, .mp bm kvG f2) :: rest) := by
  have hg32 : g < 32 := Nat.lt_of_lt_of_le hg (Nat.pow_le_pow_right (by omega) hn)
  have hp := pcF hn hg
  have hW : Wg n (fo bs) g = (oJ n (fo bs) k g n).length := by unfold Wg; rw [show n - pc g = k + 1 by omega]; rfl
  have t1 : iEq (Int.ofNat (pc g)) (Int.ofNat n) = false := by rw [iEq_n, decide_eq_false (by omega)]
  have hJ : ∀ j, j ≤ n → (oJ n (fo bs) k g j).length ≤ 100000 := fun j hj => by
    have h1 := oJ_le n (fo bs) k g (fun d => oW_le n (fo bs) k (wt g d)) j
    have h2 := Nat.mul_le_mul (show j ≤ 5 by omega) (pow5 hn (show k ≤ 5 by omega))
    omega
  have k76 := c76 F (d + 3 * k + 3) g hg32
  rw [hW]
  rw [show addL R (n * (Q + 300) + 300) = addL ((Q + 300) * n + R) 300 by rw [addL_eq, addL_eq, Nat.mul_comm]; omega]
  refine call_in (n := 31) Try.func94 rfl rfl rfl rfl rfl rfl rfl ?_
  repeat' ((conv => whnf); first | refine eqS_rfl ?_ | refine eqA_rfl ?_ | refine eqA_of (by assumption) ?_ | refine eqS_of (by rfl) ?_ | refine eqL_rfl ?_ | refine eqJ_rfl ?_ | refine gE ?_ | refine seS_rfl ?_ | refine lsS_of hup ?_ | refine lsS_rfl ?_ | refine brS_tt ?_ | refine brS_ff ?_ | refine brS_not ?_ | refine gI ?_ | refine gT ?_ | refine gF ?_ | refine brS_intro (fun _ => ?_) (fun _ => ?_) | refine gL ?_ | refine gX ?_ | refine gO ?_ | refine gN ?_ | refine call_pure k76 ?_ | intro _)
  rename_i b2
  conv => whnf
  refine loS_i (fun jj f' mm R' ni => ∃ (j : Nat) (f2 : Nat → Option SV), j ≤ n ∧ InvW n bs f2 ∧ jj = n - j + 1 ∧ f' = [(1, u32 g), (2, .ptr 960 b2 0), (5, .int .i64 (Int.ofNat (oJ n (fo bs) k g j).length)), (13, .int .i64 (Int.ofNat n)), (14, .int .i64 (Int.ofNat j))] ∧ mm = (960, .own b2 92 [.int .i64 (Int.ofNat n), .fn 61 [.sl 1002 ab n n] [], .mpv 1003 bm]) :: (1002, .ro ab n 104 1 (nu bs)) :: (1003, .mp bm kvG f2) :: rest ∧ R' = (addL ((Q + 300) * (n - j) + R) 200) ∧ ni = 970) (n + 1) (by omega)
    ⟨[(1, u32 g), (2, .ptr 960 b2 0), (5, .int .i64 (Int.ofNat (oJ n (fo bs) k g 0).length)), (13, .int .i64 (Int.ofNat n)), (14, .int .i64 (Int.ofNat 0))], (960, .own b2 92 [.int .i64 (Int.ofNat n), .fn 61 [.sl 1002 ab n n] [], .mpv 1003 bm]) :: (1002, .ro ab n 104 1 (nu bs)) :: (1003, .mp bm kvG f) :: rest, (addL ((Q + 300) * (n - 0) + R) 200), 970, ⟨eqF_rfl _, ⟨rfl, rfl⟩, eqF_rfl _, eqF_rfl _, eqF_rfl _, trivial⟩, by exact WV, by rw [Nat.sub_zero]; (first | (simp only [addL_eq, addL_rec]; omega) | omega | exact Nat.le_refl _), 0, f, by omega, hI, by omega, rfl, rfl, rfl, rfl⟩ ?_
  rintro _ _ _ _ _ ⟨j, f2, hj, hI2, rfl, rfl, rfl, rfl, rfl⟩
  by_cases hlt : j < n
  · have h1 := iLt_t hlt
    have hb : (Q + 300) * (n - j) = (Q + 300) * (n - (j + 1)) + (Q + 300) := by rw [← Nat.mul_succ]; congr 1; omega
    cases hfo : fo bs g j with
    | true =>
      have k61 := c61 F (d + 3 * k + 3) ab 104 n n bs hbs (by omega) g j (by omega) hlt true hfo
      have hpc := hp.wt j hlt (hFo.no g j hfo)
      have HH := fun f3 (hI3 : InvW n bs f3) rest R => H (wt g j) (hp.lt j hlt) (by omega) f3 rest R d hI3
      have hWj : Wg n (fo bs) (wt g j) = oW n (fo bs) k (wt g j) := by unfold Wg; rw [show n - pc (wt g j) = k by omega]
      rw [hWj] at HH
      have hs : wr .i64 (Int.add (Int.ofNat (oJ n (fo bs) k g j).length) (Int.ofNat (oW n (fo bs) k (wt g j)))) = Int.ofNat (oJ n (fo bs) k g (j + 1)).length := by
        have := hJ (j + 1) (by omega)
        rw [oJ_len_t n (fo bs) hfo] at this ⊢
        exact smn (i := (oJ n (fo bs) k g j).length + oW n (fo bs) k (wt g j)) (by omega)
      repeat' ((conv => whnf); first | refine eqS_rfl ?_ | refine eqA_rfl ?_ | refine eqA_of (by assumption) ?_ | refine eqS_of (by rfl) ?_ | refine eqL_rfl ?_ | refine eqJ_rfl ?_ | refine gE ?_ | refine seS_rfl ?_ | refine lsS_of hup ?_ | refine lsS_rfl ?_ | refine brS_tt ?_ | refine brS_ff ?_ | refine brS_not ?_ | refine gI ?_ | refine gT ?_ | refine gF ?_ | refine brS_intro (fun _ => ?_) (fun _ => ?_) | refine gL ?_ | refine gX ?_ | refine gO ?_ | refine gN ?_ | refine call_fs (l := [.sl 1002 ab n n, u32 g, .int .i64 (Int.ofNat j)]) rfl rfl rfl (call_readL k61 (addL ((Q + 300) * (n - (j + 1)) + (Q + R)) 300) (by rfl) (by exact SeesM.cons 1002 (sees_ro (i := 1002) (by rfl)) (SeesM.nil _) (fun _ _ _ _ _ _ x hx => by cases hx)) (nM1) ?_) | refine call_pure (c80 F _ g j (by omega) (by omega)) ?_ | refine callW (HH f2 hI2 ((960, .own b2 92 [.int .i64 (Int.ofNat n), .fn 61 [.sl 1002 ab n n] [], .mpv 1003 bm]) :: rest) (addL ((Q + 300) * (n - (j + 1)) + R) 220)) (by rfl) (by exact WV) (nM1) ?_ | intro _)
      rename_i f3 hI3
      conv => whnf
      exact ⟨n - (j + 1) + 1, [(1, u32 g), (2, .ptr 960 b2 0), (5, .int .i64 (Int.ofNat (oJ n (fo bs) k g (j + 1)).length)), (13, .int .i64 (Int.ofNat n)), (14, .int .i64 (Int.ofNat (j + 1)))], (960, .own b2 92 [.int .i64 (Int.ofNat n), .fn 61 [.sl 1002 ab n n] [], .mpv 1003 bm]) :: (1002, .ro ab n 104 1 (nu bs)) :: (1003, .mp bm kvG f3) :: rest, (addL ((Q + 300) * (n - (j + 1)) + R) 200), 970, by omega, ⟨eqF_rfl _, eqF_rfl _, ⟨congrArg (Value.int .i64) hs, rfl⟩, eqF_rfl _, ⟨congrArg (Value.int .i64) (smn (i := j + 1) (by omega)), rfl⟩, trivial⟩, by exact WV, nM1, j + 1, f3, by omega, hI3, rfl, rfl, rfl, rfl, rfl⟩
    | false =>
      have k61 := c61 F (d + 3 * k + 3) ab 104 n n bs hbs (by omega) g j (by omega) hlt false hfo
      have hs := oJ_len_f n (fo bs) (k := k) hfo
      repeat' ((conv => whnf); first | refine eqS_rfl ?_ | refine eqA_rfl ?_ | refine eqA_of (by assumption) ?_ | refine eqS_of (by rfl) ?_ | refine eqL_rfl ?_ | refine eqJ_rfl ?_ | refine gE ?_ | refine seS_rfl ?_ | refine lsS_of hup ?_ | refine lsS_rfl ?_ | refine brS_tt ?_ | refine brS_ff ?_ | refine brS_not ?_ | refine gI ?_ | refine gT ?_ | refine gF ?_ | refine brS_intro (fun _ => ?_) (fun _ => ?_) | refine gL ?_ | refine gX ?_ | refine gO ?_ | refine gN ?_ | refine call_fs (l := [.sl 1002 ab n n, u32 g, .int .i64 (Int.ofNat j)]) rfl rfl rfl (call_readL k61 (addL ((Q + 300) * (n - (j + 1)) + (Q + R)) 300) (by rfl) (by exact SeesM.cons 1002 (sees_ro (i := 1002) (by rfl)) (SeesM.nil _) (fun _ _ _ _ _ _ x hx => by cases hx)) (nM1) ?_) | intro _)
      conv => whnf
      exact ⟨n - (j + 1) + 1, [(1, u32 g), (2, .ptr 960 b2 0), (5, .int .i64 (Int.ofNat (oJ n (fo bs) k g (j + 1)).length)), (13, .int .i64 (Int.ofNat n)), (14, .int .i64 (Int.ofNat (j + 1)))], (960, .own b2 92 [.int .i64 (Int.ofNat n), .fn 61 [.sl 1002 ab n n] [], .mpv 1003 bm]) :: (1002, .ro ab n 104 1 (nu bs)) :: (1003, .mp bm kvG f2) :: rest, (addL ((Q + 300) * (n - (j + 1)) + R) 200), 970, by omega, ⟨eqF_rfl _, eqF_rfl _, by rw [hs]; exact eqF_rfl _, eqF_rfl _, ⟨congrArg (Value.int .i64) (smn (i := j + 1) (by omega)), rfl⟩, trivial⟩, by exact WV, nM1, j + 1, f2, by omega, hI2, rfl, rfl, rfl, rfl, rfl⟩
  · have e2 : n = j := by omega
    subst e2
    have h1 := iLt_f (Nat.le_refl n)
    repeat' ((conv => whnf); first | refine eqS_rfl ?_ | refine eqA_rfl ?_ | refine eqA_of (by assumption) ?_ | refine eqS_of (by rfl) ?_ | refine eqL_rfl ?_ | refine eqJ_rfl ?_ | refine gE ?_ | refine seS_rfl ?_ | refine lsS_of hup ?_ | refine lsS_rfl ?_ | refine brS_tt ?_ | refine brS_ff ?_ | refine brS_not ?_ | refine gI ?_ | refine gT ?_ | refine gF ?_ | refine brS_intro (fun _ => ?_) (fun _ => ?_) | refine gL ?_ | refine gX ?_ | refine gO ?_ | refine gN ?_ | intro _)
    conv => whnf
    exact ⟨nM1, rfl, f2, hI2, by exact WV⟩
/-- in how many ways an order can go on after a group -/
theorem c87 (F n : Nat) (hF : 200 < F) (hn : n ≤ 5) (bs : Nat → Nat) (hbs : ∀ j, j < n → bs j < 4294967296) (hFo : StepF n (fo bs)) (ab : Option Addr) (bm : Nat) : ∀ (k g : Nat), g < 2 ^ n → pc g + k = n → ∀ (f : Nat → Option SV) (rest : Mem) (R d : Nat), InvW n bs f →
    callS (CL F (d + 3 * k + 5)) (.fn 87 [] []) [.agg [.int .i64 (Int.ofNat n), .fn 61 [.sl 1002 ab n n] [], .mpv 1003 bm], u32 g] ((1002, .ro ab n 104 1 (nu bs)) :: (1003, .mp bm kvG f) :: rest) (addL R (cst n k)) 3000 fun w m' R' _ => R ≤ R' ∧ den w = .int .i64 (Int.ofNat (Wg n (fo bs) g)) ∧ ∃ f2, InvW n bs f2 ∧ WkM m' ((1002, .ro ab n 104 1 (nu bs)) :: (1003, .mp bm kvG f2) :: rest) := by
  intro k
  induction k with
  | zero =>
    intro g hg hk f rest R d hI
    have hg32 : g < 32 := Nat.lt_of_lt_of_le hg (Nat.pow_le_pow_right (by omega) hn)
    have hW : Wg n (fo bs) g = 1 := by unfold Wg; rw [show n - pc g = 0 by omega]; rfl
    have t1 : iEq (Int.ofNat (pc g)) (Int.ofNat n) = true := by rw [iEq_n, decide_eq_true (by omega)]
    have k76 := c76 F d g hg32
    rw [show addL R (cst n 0) = addL (R + 300) 300 by rw [addL_eq, addL_eq]; rfl]
    rw [show d + 3 * 0 + 5 = d + 5 from rfl]
    have hu := hI.upd g
    rw [hW] at hu ⊢
    cases hf : f g with
    | none =>
      refine call_in (n := 11) Try.func87 rfl rfl rfl rfl rfl rfl rfl ?_
      repeat' ((conv => whnf); first | refine eqS_rfl ?_ | refine eqA_rfl ?_ | refine eqA_of (by assumption) ?_ | refine eqS_of (by rfl) ?_ | refine eqL_rfl ?_ | refine eqJ_rfl ?_ | refine gE ?_ | refine seS_rfl ?_ | refine lsS_of hup ?_ | refine lsS_rfl ?_ | refine brS_tt ?_ | refine brS_ff ?_ | refine brS_not ?_ | refine gI ?_ | refine gT ?_ | refine gF ?_ | refine brS_intro (fun _ => ?_) (fun _ => ?_) | refine gL ?_ | refine gX ?_ | refine gO ?_ | refine gN ?_ | refine call_in (n := 24) Try.func93 rfl rfl rfl rfl rfl rfl rfl ?_ | refine call_in (n := 31) Try.func94 rfl rfl rfl rfl rfl rfl rfl ?_ | refine kyS_of g (keyG _ rfl) rfl ?_ | refine hasS_none hf ?_ | refine call_pure k76 ?_ | intro _)
      conv => whnf
      exact ⟨nM1, rfl, _, hu, by exact WV⟩
    | some v =>
      have hv := hI g v hf
      rw [hW] at hv
      subst hv
      refine call_in (n := 11) Try.func87 rfl rfl rfl rfl rfl rfl rfl ?_
      repeat' ((conv => whnf); first | refine eqS_rfl ?_ | refine eqA_rfl ?_ | refine eqA_of (by assumption) ?_ | refine eqS_of (by rfl) ?_ | refine eqL_rfl ?_ | refine eqJ_rfl ?_ | refine gE ?_ | refine seS_rfl ?_ | refine lsS_of hup ?_ | refine lsS_rfl ?_ | refine brS_tt ?_ | refine brS_ff ?_ | refine brS_not ?_ | refine gI ?_ | refine gT ?_ | refine gF ?_ | refine brS_intro (fun _ => ?_) (fun _ => ?_) | refine gL ?_ | refine gX ?_ | refine gO ?_ | refine gN ?_ | refine call_in (n := 24) Try.func93 rfl rfl rfl rfl rfl rfl rfl ?_ | refine kyS_of g (keyG _ rfl) rfl ?_ | refine hasS_some hf ?_ | intro _)
      conv => whnf
      exact ⟨nM1, rfl, f, hI, by exact WV⟩
  | succ k ih =>
    intro g hg hk f rest R d hI
    have k94 := c94 F n hF hn bs hbs hFo ab bm k (cst n k) ih g hg hk
    rw [show addL R (cst n (k + 1)) = addL (n * (cst n k + 300) + 300 + R) 300 by rw [addL_eq, addL_eq]; show R + (n * (cst n k + 300) + 600) = _; omega]
    rw [show d + 3 * (k + 1) + 5 = d + 3 * k + 8 by omega]
    generalize n * (cst n k + 300) + 300 = Q at k94 ⊢
    have hu := hI.upd g
    cases hf : f g with
    | none =>
      refine call_in (n := 11) Try.func87 rfl rfl rfl rfl rfl rfl rfl ?_
      repeat' ((conv => whnf); first | refine eqS_rfl ?_ | refine eqA_rfl ?_ | refine eqA_of (by assumption) ?_ | refine eqS_of (by rfl) ?_ | refine eqL_rfl ?_ | refine eqJ_rfl ?_ | refine gE ?_ | refine seS_rfl ?_ | refine lsS_of hup ?_ | refine lsS_rfl ?_ | refine brS_tt ?_ | refine brS_ff ?_ | refine brS_not ?_ | refine gI ?_ | refine gT ?_ | refine gF ?_ | refine brS_intro (fun _ => ?_) (fun _ => ?_) | refine gL ?_ | refine gX ?_ | refine gO ?_ | refine gN ?_ | refine call_in (n := 24) Try.func93 rfl rfl rfl rfl rfl rfl rfl ?_ | refine kyS_of g (keyG _ rfl) rfl ?_ | refine hasS_none hf ?_ | refine call_fs (l := [.agg [.int .i64 (Int.ofNat n), .fn 61 [.sl 1002 ab n n] [], .mpv 1003 bm], u32 g]) rfl rfl rfl (callW (k94 f rest (addL R 200) d hI) (by rfl) (by exact WV) (nM1) ?_) | intro _)
      rename_i f3 hI3
      conv => whnf
      exact ⟨nM1, rfl, _, hI3.upd g, by exact WV⟩
    | some v =>
      have hv := hI g v hf
      subst hv
      refine call_in (n := 11) Try.func87 rfl rfl rfl rfl rfl rfl rfl ?_
      repeat' ((conv => whnf); first | refine eqS_rfl ?_ | refine eqA_rfl ?_ | refine eqA_of (by assumption) ?_ | refine eqS_of (by rfl) ?_ | refine eqL_rfl ?_ | refine eqJ_rfl ?_ | refine gE ?_ | refine seS_rfl ?_ | refine lsS_of hup ?_ | refine lsS_rfl ?_ | refine brS_tt ?_ | refine brS_ff ?_ | refine brS_not ?_ | refine gI ?_ | refine gT ?_ | refine gF ?_ | refine brS_intro (fun _ => ?_) (fun _ => ?_) | refine gL ?_ | refine gX ?_ | refine gO ?_ | refine gN ?_ | refine call_in (n := 24) Try.func93 rfl rfl rfl rfl rfl rfl rfl ?_ | refine kyS_of g (keyG _ rfl) rfl ?_ | refine hasS_some hf ?_ | intro _)
      conv => whnf
      exact ⟨nM1, rfl, f, hI, by exact WV⟩
end Go.Proofs.Ytefnljdfgjjpjaa
