/- Rank: texts N to S. -/
import Derived.Test.YtefnljdfgjjpjaaRmB
import Derived.KernelRfl
namespace Go.Proofs.Ytefnljdfgjjpjaa
open Go.Ab
attribute [local irreducible] aggOk drwOK
set_option maxRecDepth 100000
set_option maxHeartbeats 4000000
set_option linter.unusedVariables false
set_option linter.unusedSimpArgs false
theorem cst_le {n : Nat} (hn : 0 < n) : ∀ {k m : Nat}, k ≤ m → cst n k ≤ cst n m := by
  intro k m h
  induction m with
  | zero => have : k = 0 := by omega
            subst this; exact Nat.le_refl _
  | succ m ih =>
    by_cases e : k = m + 1
    · subst e; exact Nat.le_refl _
    · have h1 := ih (by omega)
      show _ ≤ n * (cst n m + 300) + 600
      have h2 : 1 * (cst n m + 300) ≤ n * (cst n m + 300) := Nat.mul_le_mul_right _ hn
      omega
theorem cst5 {n : Nat} (hn : n ≤ 5) : cst n n ≤ 100000000 := by
  match n, hn with
  | 0, _ => decide
  | 1, _ => decide
  | 2, _ => decide
  | 3, _ => decide
  | 4, _ => decide
  | 5, _ => decide
  | n + 6, h => omega
theorem c87u (F n : Nat) (hF : 200 < F) (hn0 : 0 < n) (hn : n ≤ 5) (bs : Nat → Nat) (hbs : ∀ j, j < n → bs j < 4294967296) (hFo : StepF n (fo bs)) (ab : Option Addr) (bm g : Nat) (hg : g < 2 ^ n) (f : Nat → Option SV) (rest : Mem) (R d : Nat) (hI : InvW n bs f) :
    callS (CL F (d + 3 * n + 5)) (.fn 87 [] []) [.agg [.int .i64 (Int.ofNat n), .fn 61 [.sl 1002 ab n n] [], .mpv 1003 bm], u32 g] ((1002, .ro ab n 104 1 (nu bs)) :: (1003, .mp bm kvG f) :: rest) (addL R (cst n n)) 3000 fun w m' R' _ => R ≤ R' ∧ den w = .int .i64 (Int.ofNat (Wg n (fo bs) g)) ∧ ∃ f2, InvW n bs f2 ∧ WkM m' ((1002, .ro ab n 104 1 (nu bs)) :: (1003, .mp bm kvG f2) :: rest) := by
  obtain ⟨k, hk⟩ : ∃ k, pc g + k = n := ⟨n - pc g, by have := (pcF hn hg).le; omega⟩
  have h := c87 F n hF hn bs hbs hFo ab bm k g hg hk f rest R (d + 3 * (n - k)) hI
  rw [show d + 3 * (n - k) + 3 * k + 5 = d + 3 * n + 5 by omega] at h
  exact callS.less (by have := cst_le hn0 (show k ≤ n by omega); rw [addL_eq, addL_eq]; omega) h
theorem c65 (F n : Nat) (hF : 200 < F) (hn0 : 0 < n) (hn : n ≤ 5) (bs : Nat → Nat) (hbs : ∀ j, j < n → bs j < 4294967296) (hFo : StepF n (fo bs)) (ab : Option Addr) (bm : Nat) (f : Nat → Option SV) (rest : Mem) (R d : Nat) (hI : InvW n bs f) :
    callS (CL F (d + 3 * n + 6)) (.fn 65 [] []) [.agg [.int .i64 (Int.ofNat n), .fn 61 [.sl 1002 ab n n] [], .mpv 1003 bm]] ((1002, .ro ab n 104 1 (nu bs)) :: (1003, .mp bm kvG f) :: rest) (addL R (cst n n + 100)) 3000 fun w m' R' _ => R ≤ R' ∧ den w = .int .i64 (Int.ofNat (Wg n (fo bs) 0)) ∧ ∃ f2, InvW n bs f2 ∧ WkM m' ((1002, .ro ab n 104 1 (nu bs)) :: (1003, .mp bm kvG f2) :: rest) := by
  have k87 := c87u F n hF hn0 hn bs hbs hFo ab bm 0 (Nat.pow_pos (by decide)) f rest R d hI
  generalize cst n n = Q at k87 ⊢
  rw [show Q + 100 = (Q) + 100 from rfl, addL_eq, ← Nat.add_assoc, ← addL_eq _ 100, Nat.add_comm R Q]
  refine call_in (n := 5) Try.func65 rfl rfl rfl rfl rfl rfl rfl ?_
  repeat' ((conv => whnf); first | refine eqS_rfl ?_ | refine eqA_rfl ?_ | refine eqA_of (by assumption) ?_ | refine eqS_of (by rfl) ?_ | refine eqL_rfl ?_ | refine eqJ_rfl ?_ | refine gE ?_ | refine seS_rfl ?_ | refine lsS_of hup ?_ | refine lsS_rfl ?_ | refine brS_tt ?_ | refine brS_ff ?_ | refine brS_not ?_ | refine gI ?_ | refine gT ?_ | refine gF ?_ | refine brS_intro (fun _ => ?_) (fun _ => ?_) | refine gL ?_ | refine gX ?_ | refine gO ?_ | refine gN ?_ | refine callW k87 (by rfl) (by exact WV) (nM1) ?_ | intro _)
  rename_i f3 hI3
  conv => whnf
  exact ⟨nM1, rfl, f3, hI3, WkM.refl _⟩
theorem callCT {call : CallT} {g : FuncId} {args args0 : List SV} {mm MM0 : Mem} {N n R0 : Nat} {bs : Nat → Nat} {FF : Option Addr → Nat → (Nat → Option SV) → Mem} (h : callS call (.fn g [] []) args0 MM0 (addL R0 N) 3000 fun w m' R' _ => R0 ≤ R' ∧ ∃ ab bm f, InvW n bs f ∧ den w = den (.agg [.int .i64 (Int.ofNat n), .fn 61 [.sl 1002 ab n n] [], .mpv 1003 bm]) ∧ WkM m' (FF ab bm f)) {R ni : Nat} {K : SV → Mem → Nat → Nat → Prop} (ha : dens args = dens args0) (hw : WkM mm MM0) (hN : R0 + N ≤ R)
    (hK : ∀ ab bm f, InvW n bs f → K (.agg [.int .i64 (Int.ofNat n), .fn 61 [.sl 1002 ab n n] [], .mpv 1003 bm]) (FF ab bm f) R0 ni) : callS call (.fn g [] []) args mm R ni K := by
  refine callS.cast (fv' := .fn g [] []) (args' := args0) rfl ha (callS.wk hw (callS.less (R' := addL R0 N) (by rw [addL_eq]; exact hN) (callS.ni 3000 ?_)))
  exact call_post h fun w m' R' n' ⟨hR, ab, bm, f, hI, hd, hwk⟩ => ⟨.agg [.int .i64 (Int.ofNat n), .fn 61 [.sl 1002 ab n n] [], .mpv 1003 bm], FF ab bm f, R0, ni, hd, hwk, hR, hK ab bm f hI⟩
theorem c64 (F k : Nat) (hF : 200 < F) (am : Option Addr) (n em cm : Nat) (lo hi : Nat → Nat) (hn : n ≤ 30) (rest : Mem) (R : Nat) : callS (CL F (k + 4)) (.fn 64 [] []) [.sl 1000 am n cm] ((1000, .ro am n em 2 (mf lo hi)) :: rest) (addL R (220000 + 300)) 3000 fun w m' R' _ => R ≤ R' ∧ ∃ ab bm f, InvW n (fun z => bsF lo hi z n) f ∧ den w = den (.agg [.int .i64 (Int.ofNat n), .fn 61 [.sl 1002 ab n n] [], .mpv 1003 bm]) ∧ WkM m' ((1002, .ro ab n 104 1 (nu (fun z => bsF lo hi z n))) :: (1003, .mp bm kvG f) :: (1000, .ro am n em 2 (mf lo hi)) :: rest) := by
  rw [show 220000 + 300 = (220000) + 300 from rfl, addL_eq, ← Nat.add_assoc, ← addL_eq _ 300, Nat.add_comm R (220000)]
  refine call_in (n := 9) Try.func64 rfl rfl rfl rfl rfl rfl rfl ?_
  repeat' ((conv => whnf); first | refine eqS_rfl ?_ | refine eqA_rfl ?_ | refine eqA_of (by assumption) ?_ | refine eqS_of (by rfl) ?_ | refine eqL_rfl ?_ | refine eqJ_rfl ?_ | refine gE ?_ | refine seS_rfl ?_ | refine lsS_of hup ?_ | refine lsS_rfl ?_ | refine brS_tt ?_ | refine brS_ff ?_ | refine brS_not ?_ | refine gI ?_ | refine gT ?_ | refine gF ?_ | refine brS_intro (fun _ => ?_) (fun _ => ?_) | refine gL ?_ | refine gX ?_ | refine gO ?_ | refine gN ?_ | refine callQS (c60 F _ 800 hF am n em cm lo hi hn) (addL (5000 + R) 150) (by rfl) (by exact SeesM.cons 1000 (sees_ro (i := 1000) (by rfl)) (SeesM.nil _) (fun _ _ _ _ _ _ x hx => by cases hx)) (nM1) ?_ | refine call_in (n := 9) Try.func86 rfl rfl rfl rfl rfl rfl rfl ?_ | intro _)
  rename_i b1 a1 b2 bm
  conv => whnf
  exact ⟨nM1, a1, bm, fun _ => none, fun g v h => (by cases h), rfl, by exact WV⟩
theorem c63 (F k : Nat) (hF : 200 < F) (am : Option Addr) (n em cm : Nat) (lo hi : Nat → Nat) (hn0 : 0 < n) (hn : n ≤ 12) (hlh : ∀ j, j < n → lo j ≤ hi j ∧ hi j ≤ 100000) : ReadC (CL F (k + 2)) 63 [.sl 1000 am n cm] [(1000, .ro am n em 2 (mf lo hi))] (1200 + 100) (.int .i64 (Int.ofNat 0)) := by
  have t2 : iLt 12 (Int.ofNat n) = false := iLt_f (a := 12) (b := n) hn
  intro R
  rw [show 1200 + 100 = (1200) + 100 from rfl, addL_eq, ← Nat.add_assoc, ← addL_eq _ 100, Nat.add_comm R (1200)]
  refine call_in (n := 12) Try.func63 rfl rfl rfl rfl rfl rfl rfl ?_
  repeat' ((conv => whnf); first | refine eqS_rfl ?_ | refine eqA_rfl ?_ | refine eqA_of (by assumption) ?_ | refine eqS_of (by rfl) ?_ | refine eqL_rfl ?_ | refine eqJ_rfl ?_ | refine gE ?_ | refine seS_rfl ?_ | refine lsS_of hup ?_ | refine lsS_rfl ?_ | refine brS_tt ?_ | refine brS_ff ?_ | refine brS_not ?_ | refine gI ?_ | refine gT ?_ | refine gF ?_ | refine brS_intro (fun _ => ?_) (fun _ => ?_) | refine gL ?_ | refine gX ?_ | refine gO ?_ | refine gN ?_ | refine call_readL (c21 F _ hF am n em cm lo hi hn0 (by omega) hlh) (addL R 50) (by rfl) (by exact SeesM.cons 1000 (sees_ro (i := 1000) (by rfl)) (SeesM.nil _) (fun _ _ _ _ _ _ x hx => by cases hx)) (nM1) ?_ | intro _)
  conv => whnf
  exact ⟨rfl, nM1⟩
theorem c31 (F d : Nat) (hF : 200 < F) (am : Option Addr) (n em cm : Nat) (lo hi : Nat → Nat) (hn0 : 0 < n) (hn : n ≤ 5) (hlh : ∀ j, j < n → lo j ≤ hi j ∧ hi j ≤ 100000) (hFo : StepF n (fo (fun z => bsF lo hi z n))) : ReadC (CL F (d + 3 * n + 7)) 31 [.sl 1000 am n cm] [(1000, .ro am n em 2 (mf lo hi))] (cst n n + 300000 + 200) (.tup [.int .i64 (Int.ofNat (Wg n (fo (fun z => bsF lo hi z n)) 0)), .int .i64 (Int.ofNat 0)]) := by
  have hbs : ∀ j, j < n → bsF lo hi j n < 4294967296 := fun j _ => bsF_lt (by omega)
  intro R
  have k65 := fun ab bm f R (hI : InvW n (fun z => bsF lo hi z n) f) => c65 F n hF hn0 hn (fun z => bsF lo hi z n) hbs hFo ab bm f [(1000, .ro am n em 2 (mf lo hi))] R d hI
  have k64 := c64 F (d + 3 * n + 2) hF am n em cm lo hi (by omega) [] (cst n n + 20000 + R)
  have k63 := c63 F (d + 3 * n + 4) hF am n em cm lo hi hn0 (by omega) hlh
  rw [show d + 3 * n + 2 + 4 = d + 3 * n + 6 from rfl] at k64
  rw [show d + 3 * n + 4 + 2 = d + 3 * n + 6 from rfl] at k63
  obtain ⟨Q, hQ⟩ : ∃ Q, Q = cst n n := ⟨_, rfl⟩
  rw [← hQ] at k64 ⊢
  rw [← hQ] at k65
  rw [show Q + 300000 + 200 = (Q + 300000) + 200 from rfl, addL_eq, ← Nat.add_assoc, ← addL_eq _ 200, Nat.add_comm R (Q + 300000)]
  refine call_in (n := 13) Try.func31 rfl rfl rfl rfl rfl rfl rfl ?_
  repeat' ((conv => whnf); first | refine eqS_rfl ?_ | refine eqA_rfl ?_ | refine eqA_of (by assumption) ?_ | refine eqS_of (by rfl) ?_ | refine eqL_rfl ?_ | refine eqJ_rfl ?_ | refine gE ?_ | refine seS_rfl ?_ | refine lsS_of hup ?_ | refine lsS_rfl ?_ | refine brS_tt ?_ | refine brS_ff ?_ | refine brS_not ?_ | refine gI ?_ | refine gT ?_ | refine gF ?_ | refine brS_intro (fun _ => ?_) (fun _ => ?_) | refine gL ?_ | refine gX ?_ | refine gO ?_ | refine gN ?_ | refine call_readL (k63) (addL (Q + 290000 + R) 150) (by rfl) (by exact SeesM.cons 1000 (sees_ro (i := 1000) (by rfl)) (SeesM.nil _) (fun _ _ _ _ _ _ x hx => by cases hx)) (nM1) ?_ | refine callCT k64 (by rfl) (by exact WS) (nM1) ?_ | refine callW (k65 _ _ _ (R + 50) (by assumption)) (by rfl) (by exact WV) (nM1) ?_ | intro _)
  conv => whnf
  exact ⟨rfl, nM1⟩
end Go.Proofs.Ytefnljdfgjjpjaa
namespace Go.Proofs.Ytefnljdfgjjpjaa
open Go.Ab
attribute [local irreducible] aggOk drwOK
set_option maxRecDepth 100000
set_option maxHeartbeats 4000000
set_option linter.unusedVariables false
set_option linter.unusedSimpArgs false
/-- the number of an order, as far as some of its days -/
def ps (n : Nat) (f : Nat → Nat → Bool) (o : Nat → Nat) : Nat → Nat
  | 0 => 0
  | i + 1 => ps n f o i + (oJ n f (n - 1 - i) (stL o i) (o i)).length
/-- groups along an order -/
theorem stL_pc {n : Nat} (hn : n ≤ 5) {o : Nat → Nat} (ho : ∀ j, j < n → o j < n) (hin : ∀ i j, i < n → j < n → o i = o j → i = j) : ∀ {i : Nat}, i ≤ n → stL o i < 2 ^ n ∧ pc (stL o i) = i
  | 0, _ => ⟨Nat.pow_pos (by decide), by show pc 0 = 0; decide⟩
  | i + 1, hi => by
    obtain ⟨h1, h2⟩ := stL_pc hn ho hin (i := i) (by omega)
    have hp := pcF hn h1
    have hb : (stL o i).testBit (o i) = false := bool_tf fun h => by
      obtain ⟨q, hq, e⟩ := (stL_bit o (o i) i).1 h
      have := hin q i (by omega) (by omega) e
      omega
    refine ⟨hp.lt _ (ho i (by omega)), ?_⟩
    show pc (wt (stL o i) (o i)) = i + 1
    rw [hp.wt _ (ho i (by omega)) hb, h2]
theorem ps_le {n : Nat} (hn : n ≤ 5) (f : Nat → Nat → Bool) {o : Nat → Nat} (ho : ∀ j, j < n → o j < n) : ∀ {i : Nat}, i ≤ n → ps n f o i ≤ i * 100000
  | 0, _ => Nat.le_refl 0
  | i + 1, hi => by
    have ih := ps_le hn f ho (i := i) (by omega)
    have h1 := oJ_le n f (n - 1 - i) (stL o i) (fun d => oW_le n f (n - 1 - i) (wt (stL o i) d)) (o i)
    have h2 := Nat.mul_le_mul (show o i ≤ 5 by have := ho i (by omega); omega) (pow5 hn (show n - 1 - i ≤ 5 by omega))
    show ps n f o i + _ ≤ _
    omega
theorem c68 (F n : Nat) (hF : 200 < F) (hn0 : 0 < n) (hn : n ≤ 5) (bs : Nat → Nat) (hbs : ∀ j, j < n → bs j < 4294967296) (hFo : StepF n (fo bs)) (ab : Option Addr) (bm : Nat) (f : Nat → Option SV) (ao : Option Addr) (eo co : Nat) (o : Nat → Nat) (ho : ∀ j, j < n → o j < n) (hin : ∀ i j, i < n → j < n → o i = o j → i = j) (rest : Mem) (R d : Nat) (hI : InvW n bs f) :
    callS (CL F (d + 3 * n + 6)) (.fn 68 [] []) [.agg [.int .i64 (Int.ofNat n), .fn 61 [.sl 1002 ab n n] [], .mpv 1003 bm], .sl 1001 ao n co] ((1002, .ro ab n 104 1 (nu bs)) :: (1003, .mp bm kvG f) :: (1001, .ro ao n eo 1 (nf o)) :: rest) (addL R (5 * (5 * cst n n + 3000) + 400)) 3000 fun w m' R' _ => R ≤ R' ∧ den w = .int .i64 (Int.ofNat (ps n (fo bs) o n)) := by
  have k87 := fun g hg f rest R hI => c87u F n hF hn0 hn bs hbs hFo ab bm g hg f rest R d hI
  generalize cst n n = Q at k87 ⊢
  have hRR : addL R (5 * (5 * Q + 3000) + 400) = addL ((5 * Q + 3000) * 5 + R) 400 := by rw [addL_eq, addL_eq, Nat.mul_comm 5 (5 * Q + 3000)]; omega
  have hn5 : (5 * Q + 3000) * (n - 0) ≤ (5 * Q + 3000) * 5 := Nat.mul_le_mul_left _ (by omega)
  rw [hRR]
  have h32 : ∀ j, j < n → o j < 32 := fun j hj => by have := ho j hj; omega
  refine call_in (n := 42) Try.func68 rfl rfl rfl rfl rfl rfl rfl ?_
  repeat' ((conv => whnf); first | refine eqS_rfl ?_ | refine eqA_rfl ?_ | refine eqA_of (by assumption) ?_ | refine eqS_of (by rfl) ?_ | refine eqL_rfl ?_ | refine eqJ_rfl ?_ | refine gE ?_ | refine seS_rfl ?_ | refine lsS_of hup ?_ | refine lsS_rfl ?_ | refine brS_tt ?_ | refine brS_ff ?_ | refine brS_not ?_ | refine gI ?_ | refine gT ?_ | refine gF ?_ | refine brS_intro (fun _ => ?_) (fun _ => ?_) | refine gL ?_ | refine gX ?_ | refine gO ?_ | refine gN ?_ | intro _)
  rename_i b2
  conv => whnf
  refine loS_i (fun jj f' mm R' ni => ∃ (i : Nat) (f2 : Nat → Option SV), i ≤ n ∧ InvW n bs f2 ∧ jj = n - i + 1 ∧ f' = [(1, .sl 1001 ao n co), (2, .ptr 960 b2 0), (5, .int .i64 (Int.ofNat (ps n (fo bs) o i))), (6, u32 (stL o i)), (10, .int .i64 (Int.ofNat n)), (11, .int .i64 (Int.ofNat i))] ∧ mm = (960, .own b2 92 [.int .i64 (Int.ofNat n), .fn 61 [.sl 1002 ab n n] [], .mpv 1003 bm]) :: (1002, .ro ab n 104 1 (nu bs)) :: (1003, .mp bm kvG f2) :: (1001, .ro ao n eo 1 (nf o)) :: rest ∧ R' = (addL ((5 * Q + 3000) * (n - i) + R) 200) ∧ ni = 970) (n + 1) (by omega)
    ⟨[(1, .sl 1001 ao n co), (2, .ptr 960 b2 0), (5, .int .i64 (Int.ofNat (ps n (fo bs) o 0))), (6, u32 (stL o 0)), (10, .int .i64 (Int.ofNat n)), (11, .int .i64 (Int.ofNat 0))], (960, .own b2 92 [.int .i64 (Int.ofNat n), .fn 61 [.sl 1002 ab n n] [], .mpv 1003 bm]) :: (1002, .ro ab n 104 1 (nu bs)) :: (1003, .mp bm kvG f) :: (1001, .ro ao n eo 1 (nf o)) :: rest, (addL ((5 * Q + 3000) * (n - 0) + R) 200), 970, ⟨eqF_rfl _, ⟨rfl, rfl⟩, eqF_rfl _, eqF_rfl _, eqF_rfl _, eqF_rfl _, trivial⟩, by exact WV, nM1, 0, f, by omega, hI, by omega, rfl, rfl, rfl, rfl⟩ ?_
  rintro _ _ _ _ _ ⟨i, f2, hi', hI2, rfl, rfl, rfl, rfl, rfl⟩
  obtain ⟨hg, hpc⟩ := stL_pc hn ho hin hi'
  have hp := pcF hn hg
  have hg32 : stL o i < 4294967296 := Nat.lt_of_lt_of_le hg (Nat.le_trans (Nat.pow_le_pow_right (by omega) hn) (by decide))
  by_cases hlt : i < n
  · have h1 := iLt_t hlt
    have hoi := ho i hlt
    have hb : (5 * Q + 3000) * (n - i) = (5 * Q + 3000) * (n - (i + 1)) + (5 * Q + 3000) := by rw [← Nat.mul_succ]; congr 1; omega
    have hb0 : (Q + 500) * (5 - 0) = 5 * Q + 2500 := by omega
    have hJ : ∀ j, j ≤ n → ps n (fo bs) o i + (oJ n (fo bs) (n - 1 - i) (stL o i) j).length ≤ 1000000 := fun j hj => by
      have h1 := oJ_le n (fo bs) (n - 1 - i) (stL o i) (fun d => oW_le n (fo bs) (n - 1 - i) (wt (stL o i) d)) j
      have h2 := Nat.mul_le_mul (show j ≤ 5 by omega) (pow5 hn (show n - 1 - i ≤ 5 by omega))
      have h3 := ps_le hn (fo bs) ho hi'
      omega
    repeat' ((conv => whnf); first | refine eqS_rfl ?_ | refine eqA_rfl ?_ | refine eqA_of (by assumption) ?_ | refine eqS_of (by rfl) ?_ | refine eqL_rfl ?_ | refine eqJ_rfl ?_ | refine gE ?_ | refine seS_rfl ?_ | refine lsS_of hup ?_ | refine lsS_rfl ?_ | refine brS_tt ?_ | refine brS_ff ?_ | refine brS_not ?_ | refine gI ?_ | refine gT ?_ | refine gF ?_ | refine brS_intro (fun _ => ?_) (fun _ => ?_) | refine gL ?_ | refine gX ?_ | refine gO ?_ | refine gN ?_ | intro _)
    conv => whnf
    refine loS_i (fun jj f' mm R' ni => ∃ (j : Nat) (f3 : Nat → Option SV), j ≤ o i ∧ InvW n bs f3 ∧ jj = o i - j + 1 ∧ f' = [(1, .sl 1001 ao n co), (2, .ptr 960 b2 0), (5, .int .i64 (Int.ofNat (ps n (fo bs) o i + (oJ n (fo bs) (n - 1 - i) (stL o i) j).length))), (6, u32 (stL o i)), (10, .int .i64 (Int.ofNat n)), (11, .int .i64 (Int.ofNat i)), (7, .int .i64 (Int.ofNat i)), (17, .int .i64 (Int.ofNat (o i))), (18, .int .i64 (Int.ofNat j))] ∧ mm = (960, .own b2 92 [.int .i64 (Int.ofNat n), .fn 61 [.sl 1002 ab n n] [], .mpv 1003 bm]) :: (1002, .ro ab n 104 1 (nu bs)) :: (1003, .mp bm kvG f3) :: (1001, .ro ao n eo 1 (nf o)) :: rest ∧ R' = (addL ((Q + 500) * (5 - j) + ((5 * Q + 3000) * (n - (i + 1)) + R)) 300) ∧ ni = 970) (o i + 1) (by omega)
      ⟨[(1, .sl 1001 ao n co), (2, .ptr 960 b2 0), (5, .int .i64 (Int.ofNat (ps n (fo bs) o i + (oJ n (fo bs) (n - 1 - i) (stL o i) 0).length))), (6, u32 (stL o i)), (10, .int .i64 (Int.ofNat n)), (11, .int .i64 (Int.ofNat i)), (7, .int .i64 (Int.ofNat i)), (17, .int .i64 (Int.ofNat (o i))), (18, .int .i64 (Int.ofNat 0))], (960, .own b2 92 [.int .i64 (Int.ofNat n), .fn 61 [.sl 1002 ab n n] [], .mpv 1003 bm]) :: (1002, .ro ab n 104 1 (nu bs)) :: (1003, .mp bm kvG f2) :: (1001, .ro ao n eo 1 (nf o)) :: rest, (addL ((Q + 500) * (5 - 0) + ((5 * Q + 3000) * (n - (i + 1)) + R)) 300), 970, ⟨eqF_rfl _, eqF_rfl _, eqF_rfl _, eqF_rfl _, eqF_rfl _, eqF_rfl _, eqF_rfl _, eqF_rfl _, eqF_rfl _, trivial⟩, WkM.refl _, by rw [hb0]; (first | (simp only [addL_eq, addL_rec]; omega) | omega | exact Nat.le_refl _), 0, f2, by omega, hI2, by omega, rfl, rfl, rfl, rfl⟩ ?_
    rintro _ _ _ _ _ ⟨j, f3, hj, hI3, rfl, rfl, rfl, rfl, rfl⟩
    by_cases hjo : j < o i
    · have h2 := iLt_t hjo
      have hjn : j < n := by omega
      have hb2 : (Q + 500) * (5 - j) = (Q + 500) * (5 - (j + 1)) + (Q + 500) := by rw [← Nat.mul_succ]; congr 1; omega
      cases hfo : fo bs (stL o i) j with
      | true =>
        have k61 := c61 F (d + 3 * n + 3) ab 104 n n bs hbs (by omega) (stL o i) j hg32 hjn true hfo
        have hpw := hp.wt j hjn (hFo.no _ j hfo)
        have HH := fun f3 (hI3 : InvW n bs f3) rest R => k87 (wt (stL o i) j) (hp.lt j hjn) f3 rest R hI3
        have hWj : Wg n (fo bs) (wt (stL o i) j) = oW n (fo bs) (n - 1 - i) (wt (stL o i) j) := by unfold Wg; rw [show n - pc (wt (stL o i) j) = n - 1 - i by omega]
        rw [hWj] at HH
        have hs : wr .i64 (Int.add (Int.ofNat (ps n (fo bs) o i + (oJ n (fo bs) (n - 1 - i) (stL o i) j).length)) (Int.ofNat (oW n (fo bs) (n - 1 - i) (wt (stL o i) j)))) = Int.ofNat (ps n (fo bs) o i + (oJ n (fo bs) (n - 1 - i) (stL o i) (j + 1)).length) := by
          have := hJ (j + 1) (by omega)
          rw [oJ_len_t n (fo bs) hfo] at this ⊢
          rw [← Nat.add_assoc] at this ⊢
          exact smn (i := ps n (fo bs) o i + (oJ n (fo bs) (n - 1 - i) (stL o i) j).length + oW n (fo bs) (n - 1 - i) (wt (stL o i) j)) (by omega)
        repeat' ((conv => whnf); first | refine eqS_rfl ?_ | refine eqA_rfl ?_ | refine eqA_of (by assumption) ?_ | refine eqS_of (by rfl) ?_ | refine eqL_rfl ?_ | refine eqJ_rfl ?_ | refine gE ?_ | refine seS_rfl ?_ | refine lsS_of hup ?_ | refine lsS_rfl ?_ | refine brS_tt ?_ | refine brS_ff ?_ | refine brS_not ?_ | refine gI ?_ | refine gT ?_ | refine gF ?_ | refine brS_intro (fun _ => ?_) (fun _ => ?_) | refine gL ?_ | refine gX ?_ | refine gO ?_ | refine gN ?_ | refine call_fs (l := [.sl 1002 ab n n, u32 (stL o i), .int .i64 (Int.ofNat j)]) rfl rfl rfl (call_readL k61 (addL ((Q + 500) * (5 - (j + 1)) + (Q + ((5 * Q + 3000) * (n - (i + 1)) + R))) 600) (by rfl) (by exact SeesM.cons 1002 (sees_ro (i := 1002) (by rfl)) (SeesM.nil _) (fun _ _ _ _ _ _ x hx => by cases hx)) (nM1) ?_) | refine call_pure (c80 F _ (stL o i) j hg32 (by omega)) ?_ | refine callW (HH f3 hI3 ((960, .own b2 92 [.int .i64 (Int.ofNat n), .fn 61 [.sl 1002 ab n n] [], .mpv 1003 bm]) :: (1001, .ro ao n eo 1 (nf o)) :: rest) (addL ((Q + 500) * (5 - (j + 1)) + ((5 * Q + 3000) * (n - (i + 1)) + R)) 320)) (by rfl) (by exact WV) (nM1) ?_ | intro _)
        rename_i f4 hI4
        conv => whnf
        exact ⟨o i - (j + 1) + 1, [(1, .sl 1001 ao n co), (2, .ptr 960 b2 0), (5, .int .i64 (Int.ofNat (ps n (fo bs) o i + (oJ n (fo bs) (n - 1 - i) (stL o i) (j + 1)).length))), (6, u32 (stL o i)), (10, .int .i64 (Int.ofNat n)), (11, .int .i64 (Int.ofNat i)), (7, .int .i64 (Int.ofNat i)), (17, .int .i64 (Int.ofNat (o i))), (18, .int .i64 (Int.ofNat (j + 1)))], (960, .own b2 92 [.int .i64 (Int.ofNat n), .fn 61 [.sl 1002 ab n n] [], .mpv 1003 bm]) :: (1002, .ro ab n 104 1 (nu bs)) :: (1003, .mp bm kvG f4) :: (1001, .ro ao n eo 1 (nf o)) :: rest, (addL ((Q + 500) * (5 - (j + 1)) + ((5 * Q + 3000) * (n - (i + 1)) + R)) 300), 970, by omega, ⟨eqF_rfl _, eqF_rfl _, ⟨congrArg (Value.int .i64) hs, rfl⟩, eqF_rfl _, eqF_rfl _, eqF_rfl _, eqF_rfl _, eqF_rfl _, ⟨congrArg (Value.int .i64) (smn (i := j + 1) (by omega)), rfl⟩, trivial⟩, by exact WV, nM1, j + 1, f4, by omega, hI4, rfl, rfl, rfl, rfl, rfl⟩
      | false =>
        have k61 := c61 F (d + 3 * n + 3) ab 104 n n bs hbs (by omega) (stL o i) j hg32 hjn false hfo
        have hs := oJ_len_f n (fo bs) (k := n - 1 - i) hfo
        repeat' ((conv => whnf); first | refine eqS_rfl ?_ | refine eqA_rfl ?_ | refine eqA_of (by assumption) ?_ | refine eqS_of (by rfl) ?_ | refine eqL_rfl ?_ | refine eqJ_rfl ?_ | refine gE ?_ | refine seS_rfl ?_ | refine lsS_of hup ?_ | refine lsS_rfl ?_ | refine brS_tt ?_ | refine brS_ff ?_ | refine brS_not ?_ | refine gI ?_ | refine gT ?_ | refine gF ?_ | refine brS_intro (fun _ => ?_) (fun _ => ?_) | refine gL ?_ | refine gX ?_ | refine gO ?_ | refine gN ?_ | refine call_fs (l := [.sl 1002 ab n n, u32 (stL o i), .int .i64 (Int.ofNat j)]) rfl rfl rfl (call_readL k61 (addL ((Q + 500) * (5 - (j + 1)) + (Q + ((5 * Q + 3000) * (n - (i + 1)) + R))) 600) (by rfl) (by exact SeesM.cons 1002 (sees_ro (i := 1002) (by rfl)) (SeesM.nil _) (fun _ _ _ _ _ _ x hx => by cases hx)) (nM1) ?_) | intro _)
        conv => whnf
        exact ⟨o i - (j + 1) + 1, [(1, .sl 1001 ao n co), (2, .ptr 960 b2 0), (5, .int .i64 (Int.ofNat (ps n (fo bs) o i + (oJ n (fo bs) (n - 1 - i) (stL o i) (j + 1)).length))), (6, u32 (stL o i)), (10, .int .i64 (Int.ofNat n)), (11, .int .i64 (Int.ofNat i)), (7, .int .i64 (Int.ofNat i)), (17, .int .i64 (Int.ofNat (o i))), (18, .int .i64 (Int.ofNat (j + 1)))], (960, .own b2 92 [.int .i64 (Int.ofNat n), .fn 61 [.sl 1002 ab n n] [], .mpv 1003 bm]) :: (1002, .ro ab n 104 1 (nu bs)) :: (1003, .mp bm kvG f3) :: (1001, .ro ao n eo 1 (nf o)) :: rest, (addL ((Q + 500) * (5 - (j + 1)) + ((5 * Q + 3000) * (n - (i + 1)) + R)) 300), 970, by omega, ⟨eqF_rfl _, eqF_rfl _, by rw [hs]; exact eqF_rfl _, eqF_rfl _, eqF_rfl _, eqF_rfl _, eqF_rfl _, eqF_rfl _, ⟨congrArg (Value.int .i64) (smn (i := j + 1) (by omega)), rfl⟩, trivial⟩, by exact WV, nM1, j + 1, f3, by omega, hI3, rfl, rfl, rfl, rfl, rfl⟩
    · have e2 : j = o i := by omega
      have h2 : iLt (Int.ofNat j) (Int.ofNat (o i)) = false := iLt_f (by omega)
      repeat' ((conv => whnf); first | refine eqS_rfl ?_ | refine eqA_rfl ?_ | refine eqA_of (by assumption) ?_ | refine eqS_of (by rfl) ?_ | refine eqL_rfl ?_ | refine eqJ_rfl ?_ | refine gE ?_ | refine seS_rfl ?_ | refine lsS_of hup ?_ | refine lsS_rfl ?_ | refine brS_tt ?_ | refine brS_ff ?_ | refine brS_not ?_ | refine gI ?_ | refine gT ?_ | refine gF ?_ | refine brS_intro (fun _ => ?_) (fun _ => ?_) | refine gL ?_ | refine gX ?_ | refine gO ?_ | refine gN ?_ | refine call_pure (c80 F _ (stL o i) (o i) hg32 (by omega)) ?_ | intro _)
      conv => whnf
      exact ⟨n - (i + 1) + 1, [(1, .sl 1001 ao n co), (2, .ptr 960 b2 0), (5, .int .i64 (Int.ofNat (ps n (fo bs) o (i + 1)))), (6, u32 (stL o (i + 1))), (10, .int .i64 (Int.ofNat n)), (11, .int .i64 (Int.ofNat (i + 1)))], (960, .own b2 92 [.int .i64 (Int.ofNat n), .fn 61 [.sl 1002 ab n n] [], .mpv 1003 bm]) :: (1002, .ro ab n 104 1 (nu bs)) :: (1003, .mp bm kvG f3) :: (1001, .ro ao n eo 1 (nf o)) :: rest, (addL ((5 * Q + 3000) * (n - (i + 1)) + R) 200), 970, by omega, ⟨eqF_rfl _, eqF_rfl _, by rw [e2]; exact eqF_rfl _, eqF_rfl _, eqF_rfl _, ⟨congrArg (Value.int .i64) (smn (i := i + 1) (by omega)), rfl⟩, trivial⟩, by exact WV, nM1, i + 1, f3, by omega, hI3, rfl, rfl, rfl, rfl, rfl⟩
  · have e2 : n = i := by omega
    have h1 : iLt (Int.ofNat i) (Int.ofNat n) = false := iLt_f (by omega)
    repeat' ((conv => whnf); first | refine eqS_rfl ?_ | refine eqA_rfl ?_ | refine eqA_of (by assumption) ?_ | refine eqS_of (by rfl) ?_ | refine eqL_rfl ?_ | refine eqJ_rfl ?_ | refine gE ?_ | refine seS_rfl ?_ | refine lsS_of hup ?_ | refine lsS_rfl ?_ | refine brS_tt ?_ | refine brS_ff ?_ | refine brS_not ?_ | refine gI ?_ | refine gT ?_ | refine gF ?_ | refine brS_intro (fun _ => ?_) (fun _ => ?_) | refine gL ?_ | refine gX ?_ | refine gO ?_ | refine gN ?_ | intro _)
    conv => whnf
    exact ⟨nM1, by rw [e2]; rfl⟩
end Go.Proofs.Ytefnljdfgjjpjaa
namespace Go.Proofs.Ytefnljdfgjjpjaa
open Go.Ab
attribute [local irreducible] aggOk drwOK
set_option maxRecDepth 100000
set_option maxHeartbeats 4000000
set_option linter.unusedVariables false
set_option linter.unusedSimpArgs false
theorem callV {call : CallT} {g : FuncId} {args args0 : List SV} {mm MM0 : Mem} {N R0 : Nat} (v : SV) (h : callS call (.fn g [] []) args0 MM0 (addL R0 N) 3000 fun w m' R' _ => R0 ≤ R' ∧ den w = den v) {R ni : Nat} {K : SV → Mem → Nat → Nat → Prop} (ha : dens args = dens args0) (hw : WkM mm MM0) (hN : R0 + N ≤ R)
    (hK : K v [] R0 ni) : callS call (.fn g [] []) args mm R ni K := by
  refine callS.cast (fv' := .fn g [] []) (args' := args0) rfl ha (callS.wk hw (callS.less (R' := addL R0 N) (by rw [addL_eq]; exact hN) (callS.ni 3000 ?_)))
  exact call_post h fun w m' R' n' ⟨hR, hd⟩ => ⟨v, [], R0, ni, hd, WkL.wk (WkL.nil _), hR, hK⟩
theorem c33 (F d : Nat) (hF : 200 < F) (am : Option Addr) (n em cm : Nat) (lo hi : Nat → Nat) (hn0 : 0 < n) (hn : n ≤ 5) (hlh : ∀ j, j < n → lo j ≤ hi j ∧ hi j ≤ 100000) (hFo : StepF n (fo (fun z => bsF lo hi z n))) (ao : Option Addr) (eo co : Nat) (o : Nat → Nat) (ho : ∀ j, j < n → o j < n) (hin : ∀ i j, i < n → j < n → o i = o j → i = j) (hno : ∀ p q, p < n → q < n → isF lo hi o p q = false) :
    ReadC (CL F (d + 3 * n + 7)) 33 [.sl 1000 am n cm, .sl 1001 ao n co] [(1000, .ro am n em 2 (mf lo hi)), (1001, .ro ao n eo 1 (nf o))] (5 * (5 * cst n n + 3000) + 800000 + 200) (.tup [.int .i64 (Int.ofNat (ps n (fo (fun z => bsF lo hi z n)) o n)), .int .i64 (Int.ofNat 0)]) := by
  have hbs : ∀ j, j < n → bsF lo hi j n < 4294967296 := fun j _ => bsF_lt (by omega)
  intro R
  have k68 := fun ab bm f R (hI : InvW n (fun z => bsF lo hi z n) f) => c68 F n hF hn0 hn (fun z => bsF lo hi z n) hbs hFo ab bm f ao eo co o ho hin [(1000, .ro am n em 2 (mf lo hi))] R d hI
  obtain ⟨Q, hQ⟩ : ∃ Q, Q = 5 * (5 * cst n n + 3000) := ⟨_, rfl⟩
  rw [← hQ] at k68 ⊢
  have k64 := c64 F (d + 3 * n + 2) hF am n em cm lo hi (by omega) [(1001, .ro ao n eo 1 (nf o))] (Q + 20000 + R)
  have k63 := c63 F (d + 3 * n + 4) hF am n em cm lo hi hn0 (by omega) hlh
  have k19 := c19 F (d + 3 * n + 2) hF am n em cm lo hi hn0 (by omega) hlh ao eo co o ho hin hno
  rw [show d + 3 * n + 2 + 4 = d + 3 * n + 6 from rfl] at k64 k19
  rw [show d + 3 * n + 4 + 2 = d + 3 * n + 6 from rfl] at k63
  rw [show Q + 800000 + 200 = (Q + 800000) + 200 from rfl, addL_eq, ← Nat.add_assoc, ← addL_eq _ 200, Nat.add_comm R (Q + 800000)]
  refine call_in (n := 23) Try.func33 rfl rfl rfl rfl rfl rfl rfl ?_
  repeat' ((conv => whnf); first | refine eqS_rfl ?_ | refine eqA_rfl ?_ | refine eqA_of (by assumption) ?_ | refine eqS_of (by rfl) ?_ | refine eqL_rfl ?_ | refine eqJ_rfl ?_ | refine gE ?_ | refine seS_rfl ?_ | refine lsS_of hup ?_ | refine lsS_rfl ?_ | refine brS_tt ?_ | refine brS_ff ?_ | refine brS_not ?_ | refine gI ?_ | refine gT ?_ | refine gF ?_ | refine brS_intro (fun _ => ?_) (fun _ => ?_) | refine gL ?_ | refine gX ?_ | refine gO ?_ | refine gN ?_ | refine call_readL (k63) (addL (Q + 790000 + R) 150) (by rfl) (by exact SeesM.cons 1000 (sees_ro (i := 1000) (by rfl)) (SeesM.nil _) (fun _ _ _ _ _ _ x hx => by cases hx)) (nM1) ?_ | refine call_readL (k19) (addL (Q + 270000 + R) 150) (by rfl) (by exact SeesM.cons 1000 (sees_ro (i := 1000) (by rfl)) (SeesM.cons 1001 (sees_ro (i := 1001) (by rfl)) (SeesM.nil _) (fun _ _ _ _ _ _ x hx => by cases hx)) (fun _ _ _ _ _ _ x hx => by rcases List.mem_singleton.1 hx with rfl; exact fun _ h => h)) (nM1) ?_ | refine callCT k64 (by rfl) (by exact WS) (nM1) ?_ | refine callV (.int .i64 (Int.ofNat (ps n (fo (fun z => bsF lo hi z n)) o n))) (k68 _ _ _ (R + 50) (by assumption)) (by rfl) (by exact WV) (nM1) ?_ | intro _)
  conv => whnf
  exact ⟨rfl, nM1⟩
end Go.Proofs.Ytefnljdfgjjpjaa
namespace Go.Proofs.Ytefnljdfgjjpjaa
open Go.Ab
attribute [local irreducible] aggOk drwOK
set_option maxRecDepth 100000
set_option maxHeartbeats 4000000
set_option linter.unusedVariables false
set_option linter.unusedSimpArgs false
theorem c88 (F n : Nat) (hF : 200 < F) (hn0 : 0 < n) (hn : n ≤ 5) (bs : Nat → Nat) (hbs : ∀ j, j < n → bs j < 4294967296) (hFo : StepF n (fo bs)) (ab : Option Addr) (bm bx by_ D : Nat) : StepC (CL F (D + (3 * n + 6))) (.fn 88 [] [.ptr 961 bx 0, .ptr 962 by_ 0]) (fun (st : Nat) m => ∃ f2, InvW n bs f2 ∧ st ≤ 100000 ∧ m = (961, .own bx 92 [.int .i64 (Int.ofNat n), .fn 61 [.sl 1002 ab n n] [], .mpv 1003 bm]) :: (962, .own by_ 3 [.int .i64 (Int.ofNat st)]) :: (1002, .ro ab n 104 1 (nu bs)) :: (1003, .mp bm kvG f2) :: []) (stN (fo bs) (Wg n (fo bs))) n (cst n n + 800) := by
  intro st g d m1 rest R hg hd hM
  obtain ⟨f, hI, hst, rfl⟩ := hM
  have hg32 : g < 4294967296 := Nat.lt_of_lt_of_le hg (Nat.le_trans (Nat.pow_le_pow_right (by omega) hn) (by decide))
  have hp := pcF hn hg
  have k87 := fun rest R => c87u F n hF hn0 hn bs hbs hFo ab bm (wt g d) (hp.lt d hd) f rest R D hI
  have hWle : Wg n (fo bs) (wt g d) ≤ 3125 := Nat.le_trans (oW_le n (fo bs) _ _) (pow5 hn (by omega))
  rw [show D + (3 * n + 6) = D + 3 * n + 6 by omega]
  rw [show addL R (cst n n + 800) = addL (cst n n + 300 + R) 500 by rw [addL_eq, addL_eq]; omega]
  unfold stN
  generalize cst n n = Q at k87 ⊢
  cases hfo : fo bs g d with
  | false =>
    have k61 := c61 F (D + 3 * n + 3) ab 104 n n bs hbs (by omega) g d hg32 hd false hfo
    show callS _ _ _ _ _ _ _
    refine call_in (n := 25) Try.func88 rfl rfl rfl rfl rfl rfl rfl ?_
    repeat' ((conv => whnf); first | refine eqS_rfl ?_ | refine eqA_rfl ?_ | refine eqA_of (by assumption) ?_ | refine eqS_of (by rfl) ?_ | refine eqL_rfl ?_ | refine eqJ_rfl ?_ | refine gE ?_ | refine seS_rfl ?_ | refine lsS_of hup ?_ | refine lsS_rfl ?_ | refine brS_tt ?_ | refine brS_ff ?_ | refine brS_not ?_ | refine gI ?_ | refine gT ?_ | refine gF ?_ | refine brS_intro (fun _ => ?_) (fun _ => ?_) | refine gL ?_ | refine gX ?_ | refine gO ?_ | refine gN ?_ | refine call_fs (l := [.sl 1002 ab n n, u32 g, .int .i64 (Int.ofNat d)]) rfl rfl rfl (call_readL k61 (addL (Q + 300 + R) 200) (by rfl) (by exact SeesM.cons 1002 (sees_ro (i := 1002) (by rfl)) (SeesM.nil _) (fun _ _ _ _ _ _ x hx => by cases hx)) (nM1) ?_) | intro _)
    conv => whnf
    exact ⟨nM1, rfl, _, ⟨f, hI, hst, rfl⟩, WkM.refl _⟩
  | true =>
    have k61 := c61 F (D + 3 * n + 3) ab 104 n n bs hbs (by omega) g d hg32 hd true hfo
    generalize Wg n (fo bs) (wt g d) = W at k87 hWle ⊢
    by_cases hlt : st < W
    · have h1 := iLt_t hlt
      rw [cond_true, decide_eq_true hlt, cond_true]
      refine call_in (n := 25) Try.func88 rfl rfl rfl rfl rfl rfl rfl ?_
      repeat' ((conv => whnf); first | refine eqS_rfl ?_ | refine eqA_rfl ?_ | refine eqA_of (by assumption) ?_ | refine eqS_of (by rfl) ?_ | refine eqL_rfl ?_ | refine eqJ_rfl ?_ | refine gE ?_ | refine seS_rfl ?_ | refine lsS_of hup ?_ | refine lsS_rfl ?_ | refine brS_tt ?_ | refine brS_ff ?_ | refine brS_not ?_ | refine gI ?_ | refine gT ?_ | refine gF ?_ | refine brS_intro (fun _ => ?_) (fun _ => ?_) | refine gL ?_ | refine gX ?_ | refine gO ?_ | refine gN ?_ | refine call_fs (l := [.sl 1002 ab n n, u32 g, .int .i64 (Int.ofNat d)]) rfl rfl rfl (call_readL k61 (addL (Q + 300 + R) 200) (by rfl) (by exact SeesM.cons 1002 (sees_ro (i := 1002) (by rfl)) (SeesM.nil _) (fun _ _ _ _ _ _ x hx => by cases hx)) (nM1) ?_) | refine call_pure (c80 F _ g d hg32 (by omega)) ?_ | refine callW (k87 ((961, .own bx 92 [.int .i64 (Int.ofNat n), .fn 61 [.sl 1002 ab n n] [], .mpv 1003 bm]) :: (962, .own by_ 3 [.int .i64 (Int.ofNat st)]) :: rest) (addL R 200)) (by rfl) (by exact WV) (nM1) ?_ | intro _)
      rename_i f3 hI3
      conv => whnf
      exact ⟨nM1, rfl, _, ⟨f3, hI3, hst, rfl⟩, by exact WV⟩
    · have h1 : iLt (Int.ofNat st) (Int.ofNat W) = false := iLt_f (by omega)
      have hs : wr .i64 (Int.sub (Int.ofNat st) (Int.ofNat W)) = Int.ofNat (st - W) := (sm (n := (st : Int) - (W : Int)) (by omega)).trans (by show (st : Int) - W = ((st - W : Nat) : Int); omega)
      rw [cond_true, decide_eq_false hlt, cond_false]
      refine call_in (n := 25) Try.func88 rfl rfl rfl rfl rfl rfl rfl ?_
      repeat' ((conv => whnf); first | refine eqS_rfl ?_ | refine eqA_rfl ?_ | refine eqA_of (by assumption) ?_ | refine eqS_of (by rfl) ?_ | refine eqL_rfl ?_ | refine eqJ_rfl ?_ | refine gE ?_ | refine seS_rfl ?_ | refine lsS_of hup ?_ | refine lsS_rfl ?_ | refine brS_tt ?_ | refine brS_ff ?_ | refine brS_not ?_ | refine gI ?_ | refine gT ?_ | refine gF ?_ | refine brS_intro (fun _ => ?_) (fun _ => ?_) | refine gL ?_ | refine gX ?_ | refine gO ?_ | refine gN ?_ | refine call_fs (l := [.sl 1002 ab n n, u32 g, .int .i64 (Int.ofNat d)]) rfl rfl rfl (call_readL k61 (addL (Q + 300 + R) 200) (by rfl) (by exact SeesM.cons 1002 (sees_ro (i := 1002) (by rfl)) (SeesM.nil _) (fun _ _ _ _ _ _ x hx => by cases hx)) (nM1) ?_) | refine call_pure (c80 F _ g d hg32 (by omega)) ?_ | refine callW (k87 ((961, .own bx 92 [.int .i64 (Int.ofNat n), .fn 61 [.sl 1002 ab n n] [], .mpv 1003 bm]) :: (962, .own by_ 3 [.int .i64 (Int.ofNat st)]) :: rest) (addL R 200)) (by rfl) (by exact WV) (nM1) ?_ | intro _)
      rename_i f3 hI3
      conv => whnf
      rw [hs]
      exact ⟨nM1, rfl, _, ⟨f3, hI3, by show st - W ≤ 100000; omega, rfl⟩, by exact WV⟩
theorem c70 (F n : Nat) (hF : 200 < F) (hn0 : 0 < n) (hn : n ≤ 5) (bs : Nat → Nat) (hbs : ∀ j, j < n → bs j < 4294967296) (hFo : StepF n (fo bs)) (ab : Option Addr) (bm : Nat) (f : Nat → Option SV) (hI : InvW n bs f) (q : Nat) (hq : q ≤ 100000) (LL : List Nat) (hL : LL.length = n) (st9 : Nat) (hrun : Run n (stN (fo bs) (Wg n (fo bs))) q 0 LL st9) (rest : Mem) (R d C : Nat) (hC : C = ((cst n n + 800 + 60) * n + 300) * (n + 1)) :
    callS (CL F (d + 4 * n + 9)) (.fn 70 [] []) [.agg [.int .i64 (Int.ofNat n), .fn 61 [.sl 1002 ab n n] [], .mpv 1003 bm], .int .i64 (Int.ofNat q)] ((1002, .ro ab n 104 1 (nu bs)) :: (1003, .mp bm kvG f) :: rest) (addL R (C + 300)) 3000 fun w m' R' _ => R ≤ R' ∧ ∃ (a2 : Option Addr) (m2 : Mem), True ∧ den w = Value.slice a2 n n ∧ WkM m' ((920, .gr a2 n 3 1 (nf fun z => List.getD LL z 0)) :: (m2 ++ rest)) := by
  match LL, hrun, hL with
  | [], _, ho => exact absurd ho (by show ¬ 0 = n; omega)
  | dd :: l, hrun, ho =>
    have k59 := fun bx by_ f3 (hI3 : InvW n bs f3) C hC rest R => c59 F (3 * n + 6) n (cst n n + 800) hF hn (fun (st : Nat) m => ∃ f2, InvW n bs f2 ∧ st ≤ 100000 ∧ m = (961, .own bx 92 [.int .i64 (Int.ofNat n), .fn 61 [.sl 1002 ab n n] [], .mpv 1003 bm]) :: (962, .own by_ 3 [.int .i64 (Int.ofNat st)]) :: (1002, .ro ab n 104 1 (nu bs)) :: (1003, .mp bm kvG f2) :: []) (stN (fo bs) (Wg n (fo bs))) 88 [] [.ptr 961 bx 0, .ptr 962 by_ 0] rfl (fun D => c88 F n hF hn0 hn bs hbs hFo ab bm bx by_ D) hrun d ((961, .own bx 92 [.int .i64 (Int.ofNat n), .fn 61 [.sl 1002 ab n n] [], .mpv 1003 bm]) :: (962, .own by_ 3 [.int .i64 (Int.ofNat q)]) :: (1002, .ro ab n 104 1 (nu bs)) :: (1003, .mp bm kvG f3) :: []) rest C R hC (by omega) ⟨f3, hI3, hq, rfl⟩
    rw [ho] at k59
    have k59 := fun bx by_ f3 hI3 rest R => k59 bx by_ f3 hI3 C hC rest R
    generalize dd :: l = LL at k59 ho ⊢
    rw [show d + n + (3 * n + 6) + 2 = d + 4 * n + 8 by omega] at k59
    rw [show C + 300 = (C) + 300 from rfl, addL_eq, ← Nat.add_assoc, ← addL_eq _ 300, Nat.add_comm R C]
    refine call_in (n := 9) Try.func70 rfl rfl rfl rfl rfl rfl rfl ?_
    repeat' ((conv => whnf); first | refine eqS_rfl ?_ | refine eqA_rfl ?_ | refine eqA_of (by assumption) ?_ | refine eqS_of (by rfl) ?_ | refine eqL_rfl ?_ | refine eqJ_rfl ?_ | refine gE ?_ | refine seS_rfl ?_ | refine lsS_of hup ?_ | refine lsS_rfl ?_ | refine brS_tt ?_ | refine brS_ff ?_ | refine brS_not ?_ | refine gI ?_ | refine gT ?_ | refine gF ?_ | refine brS_intro (fun _ => ?_) (fun _ => ?_) | refine gL ?_ | refine gX ?_ | refine gO ?_ | refine gN ?_ | refine callGr (i := 920) (k59 _ _ f hI rest (R + 0)) (by rfl) (by exact WV) (nM1) ?_ | intro _)
    rename_i a2 m2 hM2
    conv => whnf
    exact ⟨nM1, a2, m2, trivial, rfl, WkM.refl _⟩
end Go.Proofs.Ytefnljdfgjjpjaa
namespace Go.Proofs.Ytefnljdfgjjpjaa
open Go.Ab
attribute [local irreducible] aggOk drwOK
set_option maxRecDepth 100000
set_option maxHeartbeats 4000000
set_option linter.unusedVariables false
set_option linter.unusedSimpArgs false
theorem callM {call : CallT} {g : FuncId} {args args0 : List SV} {mm MM0 : Mem} {N q R0 i : Nat} {FF : Option Addr → Mem → Mem} (h : callS call (.fn g [] []) args0 MM0 (addL R0 N) 3000 fun w m' R' _ => R0 ≤ R' ∧ ∃ (a2 : Option Addr) (m2 : Mem), True ∧ den w = Value.slice a2 q q ∧ WkM m' (FF a2 m2)) {R ni : Nat} {K : SV → Mem → Nat → Nat → Prop} (ha : dens args = dens args0) (hw : WkM mm MM0) (hN : R0 + N ≤ R)
    (hK : ∀ a2 m2, K (.sl i a2 q q) (FF a2 m2) R0 ni) : callS call (.fn g [] []) args mm R ni K :=
  callGr (MM := fun _ => True) h ha hw hN fun a2 m2 _ => hK a2 m2
theorem c35 (F d i : Nat) (hF : 200 < F) (am : Option Addr) (n em cm : Nat) (lo hi : Nat → Nat) (hn0 : 0 < n) (hn : n ≤ 5) (hlh : ∀ j, j < n → lo j ≤ hi j ∧ hi j ≤ 100000) (hFo : StepF n (fo (fun z => bsF lo hi z n))) (q : Nat) (LL : List Nat) (hL : LL.length = n) (st9 : Nat) (hrun : Run n (stN (fo (fun z => bsF lo hi z n)) (Wg n (fo (fun z => bsF lo hi z n)))) q 0 LL st9) (hq : q < Wg n (fo (fun z => bsF lo hi z n)) 0) (R : Nat) :
    callS (CL F (d + 4 * n + 10)) (.fn 35 [] []) [.sl 1000 am n cm, .int .i64 (Int.ofNat q)] [(1000, .ro am n em 2 (mf lo hi))] (addL R (((cst n n + 800 + 60) * n + 300) * (n + 1) + cst n n + 400000 + 300)) 0 fun w m' R' _ => (∃ wv mm, QE i n (fun z => LL.getD z 0) wv mm ∧ den w = den wv ∧ WkM m' mm) ∧ R ≤ R' := by
  have hbs : ∀ j, j < n → bsF lo hi j n < 4294967296 := fun j _ => bsF_lt (by omega)
  have hqW : Wg n (fo (fun z => bsF lo hi z n)) 0 ≤ 3125 := Nat.le_trans (oW_le n _ _ _) (pow5 hn (by omega))
  have k65 := fun ab bm f rest R (hI : InvW n (fun z => bsF lo hi z n) f) => c65 F n hF hn0 hn (fun z => bsF lo hi z n) hbs hFo ab bm f rest R (d + n + 3) hI
  obtain ⟨C, hC⟩ : ∃ C, C = ((cst n n + 800 + 60) * n + 300) * (n + 1) := ⟨_, rfl⟩
  have k70 := fun ab bm f rest R (hI : InvW n (fun z => bsF lo hi z n) f) => c70 F n hF hn0 hn (fun z => bsF lo hi z n) hbs hFo ab bm f hI q (by omega) LL hL st9 hrun rest R d C hC
  rw [← hC]
  have k64 := c64 F (d + 4 * n + 5) hF am n em cm lo hi (by omega) [] (addL (C + cst n n + 20000 + R) 150)
  have k63 := c63 F (d + 4 * n + 7) hF am n em cm lo hi hn0 (by omega) hlh
  rw [show d + n + 3 + 3 * n + 6 = d + 4 * n + 9 by omega] at k65
  rw [show d + 4 * n + 5 + 4 = d + 4 * n + 9 from rfl] at k64
  rw [show d + 4 * n + 7 + 2 = d + 4 * n + 9 from rfl] at k63
  obtain ⟨Q, hQ⟩ : ∃ Q, Q = cst n n := ⟨_, rfl⟩
  rw [← hQ] at k64 ⊢
  rw [← hQ] at k65
  have k56 := c56 F (d + 4 * n + 8) q _ hq
  rw [show C + Q + 400000 + 300 = (C + Q + 400000) + 300 from rfl, addL_eq, ← Nat.add_assoc, ← addL_eq _ 300, Nat.add_comm R (C + Q + 400000)]
  refine call_in (n := 23) Try.func35 rfl rfl rfl rfl rfl rfl rfl ?_
  repeat' ((conv => whnf); first | refine eqS_rfl ?_ | refine eqA_rfl ?_ | refine eqA_of (by assumption) ?_ | refine eqS_of (by rfl) ?_ | refine eqL_rfl ?_ | refine eqJ_rfl ?_ | refine gE ?_ | refine seS_rfl ?_ | refine lsS_of hup ?_ | refine lsS_rfl ?_ | refine brS_tt ?_ | refine brS_ff ?_ | refine brS_not ?_ | refine gI ?_ | refine gT ?_ | refine gF ?_ | refine brS_intro (fun _ => ?_) (fun _ => ?_) | refine gL ?_ | refine gX ?_ | refine gO ?_ | refine gN ?_ | refine call_readL (k63) (addL (C + Q + 390000 + R) 250) (by rfl) (by exact SeesM.cons 1000 (sees_ro (i := 1000) (by rfl)) (SeesM.nil _) (fun _ _ _ _ _ _ x hx => by cases hx)) (nM1) ?_ | refine callCT k64 (by rfl) (by exact WS) (nM1) ?_ | refine callW (k65 _ _ _ _ (addL (C + 10000 + R) 150) (by assumption)) (by rfl) (by exact WkM.mid3 [(_, _)] [(_, _), (_, _)] _) (nM1) ?_ | refine call_pure k56 ?_ | refine callM (i := i) (k70 _ _ _ _ (R + 0) (by assumption)) (by rfl) (WkM.refl _) (nM1) ?_ | intro _)
  rename_i a2 m2
  conv => whnf
  exact ⟨⟨_, _, ⟨a2, rfl, rfl⟩, rfl, by exact WkM.sub (by simp)⟩, by omega⟩
theorem c56f (F k x n : Nat) (h : n ≤ x) : PureC (CL F (k + 1)) 56 [.int .i64 (Int.ofNat x), .int .i64 (Int.ofNat n)] 2 (.bool false) := by
  have h1 := iLt_f h
  have h0 : iLt (Int.ofNat x) 0 = false := iLt_0 x
  intro m R
  refine call_in (n := 12) Try.func56 rfl rfl rfl rfl rfl rfl rfl ?_
  repeat' ((conv => whnf); first | refine eqS_rfl ?_ | refine eqA_rfl ?_ | refine eqA_of (by assumption) ?_ | refine eqS_of (by rfl) ?_ | refine eqL_rfl ?_ | refine eqJ_rfl ?_ | refine gE ?_ | refine seS_rfl ?_ | refine lsS_of hup ?_ | refine lsS_rfl ?_ | refine brS_tt ?_ | refine brS_ff ?_ | refine brS_not ?_ | refine gI ?_ | refine gT ?_ | refine gF ?_ | refine brS_intro (fun _ => ?_) (fun _ => ?_) | refine gL ?_ | refine gX ?_ | refine gO ?_ | refine gN ?_ | intro _)
  all_goals (conv => whnf)
  all_goals refine ⟨?_, by repeat' (first | exact WkM.refl _ | refine WkM.drop ?_), by repeat' (first | exact Nat.le_refl _ | refine Nat.le_succ_of_le ?_)⟩
  all_goals (exact congrArg Value.bool h1)

theorem c56m (F k n : Nat) : PureC (CL F (k + 1)) 56 [.int .i64 (-1), .int .i64 (Int.ofNat n)] 2 (.bool false) := by
  have h0 : iLt (-1) 0 = true := rfl
  intro m R
  refine call_in (n := 12) Try.func56 rfl rfl rfl rfl rfl rfl rfl ?_
  repeat' ((conv => whnf); first | refine eqS_rfl ?_ | refine eqA_rfl ?_ | refine eqA_of (by assumption) ?_ | refine eqS_of (by rfl) ?_ | refine eqL_rfl ?_ | refine eqJ_rfl ?_ | refine gE ?_ | refine seS_rfl ?_ | refine lsS_of hup ?_ | refine lsS_rfl ?_ | refine brS_tt ?_ | refine brS_ff ?_ | refine brS_not ?_ | refine gI ?_ | refine gT ?_ | refine gF ?_ | refine brS_intro (fun _ => ?_) (fun _ => ?_) | refine gL ?_ | refine gX ?_ | refine gO ?_ | refine gN ?_ | intro _)
  all_goals (conv => whnf)
  all_goals refine ⟨?_, by repeat' (first | exact WkM.refl _ | refine WkM.drop ?_), by repeat' (first | exact Nat.le_refl _ | refine Nat.le_succ_of_le ?_)⟩
  all_goals (rfl)

theorem c35e (F d : Nat) (hF : 200 < F) (am : Option Addr) (n em cm : Nat) (lo hi : Nat → Nat) (hn0 : 0 < n) (hn : n ≤ 5) (hlh : ∀ j, j < n → lo j ≤ hi j ∧ hi j ≤ 100000) (hFo : StepF n (fo (fun z => bsF lo hi z n))) (x : Int) (k56 : PureC (CL F (d + 4 * n + 9)) 56 [.int .i64 x, .int .i64 (Int.ofNat (Wg n (fo (fun z => bsF lo hi z n)) 0))] 2 (.bool false)) :
    ReadC (CL F (d + 4 * n + 10)) 35 [.sl 1000 am n cm, .int .i64 x] [(1000, .ro am n em 2 (mf lo hi))] (cst n n + 400000 + 300) (.tup [.val (.slice none 0 0), .int .i64 (Int.ofNat 1)]) := by
  have hbs : ∀ j, j < n → bsF lo hi j n < 4294967296 := fun j _ => bsF_lt (by omega)
  intro R
  have k65 := fun ab bm f rest R (hI : InvW n (fun z => bsF lo hi z n) f) => c65 F n hF hn0 hn (fun z => bsF lo hi z n) hbs hFo ab bm f rest R (d + n + 3) hI
  have k64 := c64 F (d + 4 * n + 5) hF am n em cm lo hi (by omega) [] (addL (cst n n + 20000 + R) 150)
  have k63 := c63 F (d + 4 * n + 7) hF am n em cm lo hi hn0 (by omega) hlh
  rw [show d + n + 3 + 3 * n + 6 = d + 4 * n + 9 by omega] at k65
  rw [show d + 4 * n + 5 + 4 = d + 4 * n + 9 from rfl] at k64
  rw [show d + 4 * n + 7 + 2 = d + 4 * n + 9 from rfl] at k63
  generalize Wg n (fo (fun z => bsF lo hi z n)) 0 = W at k65 k56
  obtain ⟨Q, hQ⟩ : ∃ Q, Q = cst n n := ⟨_, rfl⟩
  rw [← hQ] at k64 ⊢
  rw [← hQ] at k65
  rw [show Q + 400000 + 300 = (Q + 400000) + 300 from rfl, addL_eq, ← Nat.add_assoc, ← addL_eq _ 300, Nat.add_comm R (Q + 400000)]
  refine call_in (n := 23) Try.func35 rfl rfl rfl rfl rfl rfl rfl ?_
  repeat' ((conv => whnf); first | refine eqS_rfl ?_ | refine eqA_rfl ?_ | refine eqA_of (by assumption) ?_ | refine eqS_of (by rfl) ?_ | refine eqL_rfl ?_ | refine eqJ_rfl ?_ | refine gE ?_ | refine seS_rfl ?_ | refine lsS_of hup ?_ | refine lsS_rfl ?_ | refine brS_tt ?_ | refine brS_ff ?_ | refine brS_not ?_ | refine gI ?_ | refine gT ?_ | refine gF ?_ | refine brS_intro (fun _ => ?_) (fun _ => ?_) | refine gL ?_ | refine gX ?_ | refine gO ?_ | refine gN ?_ | refine call_readL (k63) (addL (Q + 390000 + R) 250) (by rfl) (by exact SeesM.cons 1000 (sees_ro (i := 1000) (by rfl)) (SeesM.nil _) (fun _ _ _ _ _ _ x hx => by cases hx)) (nM1) ?_ | refine callCT k64 (by rfl) (by exact WS) (nM1) ?_ | refine callW (k65 _ _ _ _ (addL (10000 + R) 150) (by assumption)) (by rfl) (by exact WkM.mid3 [(_, _)] [(_, _), (_, _)] _) (nM1) ?_ | refine call_pure k56 ?_ | intro _)
  conv => whnf
  exact ⟨rfl, nM1⟩
end Go.Proofs.Ytefnljdfgjjpjaa
namespace Go.Proofs.Ytefnljdfgjjpjaa
open Go.Ab
attribute [local irreducible] aggOk drwOK
set_option maxRecDepth 100000
set_option maxHeartbeats 4000000
set_option linter.unusedVariables false
set_option linter.unusedSimpArgs false
theorem flatMap_cg {α β : Type} {f g : α → List β} : ∀ {l : List α}, (∀ a, a ∈ l → f a = g a) → l.flatMap f = l.flatMap g
  | [], _ => rfl
  | x :: l, h => by rw [List.flatMap_cons, List.flatMap_cons, h x (by simp), flatMap_cg fun a ha => h a (by simp [ha])]
abbrev oD (L : List Nat) (z : Nat) : Nat := L.getD z 0
theorem oD_app {L : List Nat} {i z : Nat} (h : z < L.length) : oD (L ++ [i]) z = oD L z := app_getD_lt h
theorem oD_mem {L : List Nat} {z : Nat} (h : z < L.length) : oD L z ∈ L := getD_mem h
theorem oD_inj {L : List Nat} (hn : L.Nodup) {i j : Nat} (hi : i < L.length) (hj : j < L.length) (e : oD L i = oD L j) : i = j := by
  have e : L.getD i 0 = L.getD j 0 := e
  rw [List.getD_eq_getElem?_getD, List.getD_eq_getElem?_getD, List.getElem?_eq_getElem hi, List.getElem?_eq_getElem hj] at e
  exact (List.getElem_inj hn).1 e
theorem stL_congr {o o' : Nat → Nat} : ∀ {j : Nat}, (∀ i, i < j → o i = o' i) → stL o j = stL o' j
  | 0, _ => rfl
  | j + 1, h => by
    show wt (stL o j) (o j) = wt (stL o' j) (o' j)
    rw [stL_congr fun i hi => h i (by omega), h j (by omega)]
/-- the set of a list's days -/
def stG (L : List Nat) : Nat := stL (oD L) L.length
theorem stG_app (L : List Nat) (i : Nat) : stG (L ++ [i]) = wt (stG L) i := by
  unfold stG
  rw [List.length_append]
  show wt (stL (oD (L ++ [i])) L.length) (oD (L ++ [i]) L.length) = _
  rw [stL_congr fun z hz => oD_app hz, show oD (L ++ [i]) L.length = i from app_getD]
theorem stG_bit (L : List Nat) (e : Nat) : (stG L).testBit e = true ↔ e ∈ L := by
  unfold stG
  rw [stL_bit]
  constructor
  · rintro ⟨i, hi, h⟩; rw [← h]; exact oD_mem hi
  · intro h; obtain ⟨k, hk, e⟩ := mem_getD h; exact ⟨k, hk, e⟩
section
variable (n : Nat) (lo hi : Nat → Nat)
/-- ranges can rise along a list -/
def rsP (L : List Nat) : Prop := ∀ j, j < L.length → lsM lo (oD L) (j + 1) ≤ hi (oD L j)
noncomputable def oL0 (L : List Nat) : List (List Nat) := @ite _ (rsP lo hi L) (Classical.propDecidable _) [L] []
/-- all orders that continue a list, along which ranges can rise -/
noncomputable def oL : Nat → List Nat → List (List Nat)
  | 0, L => oL0 lo hi L
  | k + 1, L => (List.range n).flatMap fun i => if decide (i ∈ L) = true then [] else oL k (L ++ [i])
noncomputable def oM (k : Nat) (L : List Nat) (j : Nat) : List (List Nat) := (List.range j).flatMap fun i => if decide (i ∈ L) = true then [] else oL n lo hi k (L ++ [i])
theorem oM_succ (k : Nat) (L : List Nat) (j : Nat) : oM n lo hi k L (j + 1) = oM n lo hi k L j ++ (if decide (j ∈ L) = true then [] else oL n lo hi k (L ++ [j])) := by
  unfold oM
  rw [List.range_succ, List.flatMap_append]
  simp
/-- no day that has to come before one of a list is missing there -/
def Good (L : List Nat) : Prop := ∀ p e, p < L.length → e < n → qt lo hi e (oD L p) = true → e ∈ L.take p
end
theorem fo_iff {n : Nat} (hn : n ≤ 30) {lo hi : Nat → Nat} {g d : Nat} (hg : g < 4294967296) : fo (fun z => bsF lo hi z n) g d = true ↔ g.testBit d = false ∧ ∀ e, e < n → qt lo hi e d = true → g.testBit e = true := by
  unfold fo
  rw [Bool.and_eq_true, decide_eq_true_eq]
  have hb : ∀ e, (4294967295 - g).testBit e = (decide (e < 32) && !g.testBit e) := fun e => by
    have := Nat.testBit_two_pow_sub_succ (x := g) (n := 32) hg e
    rw [show 4294967295 - g = 2 ^ 32 - (g + 1) by omega]
    exact this
  constructor
  · rintro ⟨h1, h2⟩
    refine ⟨by cases h : g.testBit d <;> simp_all, fun e he hq => ?_⟩
    have h3 : (bsF lo hi d n &&& (4294967295 - g)).testBit e = false := by rw [h2]; simp
    rw [Nat.testBit_and, bsF_bit, hb, decide_eq_true he, hq, decide_eq_true (show e < 32 by omega)] at h3
    simpa using h3
  · rintro ⟨h1, h2⟩
    refine ⟨by rw [h1]; rfl, Nat.eq_of_testBit_eq fun e => ?_⟩
    rw [Nat.testBit_and, bsF_bit, hb, Nat.zero_testBit]
    by_cases he : e < n
    · cases hq : qt lo hi e d with
      | false => simp
      | true => rw [h2 e he hq]; simp
    · rw [decide_eq_false he]; simp
theorem stepF {n : Nat} (hn : n ≤ 5) {lo hi : Nat → Nat} (hlh : ∀ j, j < n → lo j ≤ hi j) : StepF n (fo fun z => bsF lo hi z n) := by
  refine ⟨fun g d h => ?_, fun g hg hpc => ?_⟩
  · unfold fo at h
    rw [Bool.and_eq_true] at h
    cases hb : g.testBit d with
    | false => rfl
    | true => rw [hb] at h; cases h.1
  · have hg32 : g < 4294967296 := Nat.lt_of_lt_of_le hg (Nat.le_trans (Nat.pow_le_pow_right (by omega) hn) (by decide))
    obtain ⟨d, hd, hb⟩ := (pcF hn hg).some hpc
    have key : ∀ m d, lo d < m → d < n → g.testBit d = false → ∃ d, d < n ∧ g.testBit d = false ∧ ∀ e, e < n → g.testBit e = false → lo d ≤ lo e := by
      intro m
      induction m with
      | zero => intro d h; omega
      | succ m ih =>
        intro d h hd hb
        by_cases h2 : ∃ e, e < n ∧ g.testBit e = false ∧ lo e < lo d
        · obtain ⟨e, h3, h4, h5⟩ := h2
          exact ih e (by omega) h3 h4
        · exact ⟨d, hd, hb, fun e he hbe => Nat.not_lt.1 fun h3 => h2 ⟨e, he, hbe, h3⟩⟩
    obtain ⟨d, hd, hb, hm⟩ := key _ d (Nat.lt_succ_self _) hd hb
    refine ⟨d, hd, (fo_iff (by omega) hg32).2 ⟨hb, fun e he hq => ?_⟩⟩
    cases hbe : g.testBit e with
    | true => rfl
    | false =>
      have h1 := hm e he hbe
      have h2 := hlh e he
      unfold qt at hq
      rw [decide_eq_true_eq] at hq
      omega
theorem oL_oC {n : Nat} (hn : n ≤ 5) {lo hi : Nat → Nat} (hlh : ∀ j, j < n → lo j ≤ hi j) : ∀ (k : Nat) (L : List Nat), L.length + k = n → L.Nodup → (∀ x, x ∈ L → x < n) →
    (Good n lo hi L → oL n lo hi k L = (oC n (fo fun z => bsF lo hi z n) k (stG L)).map (L ++ ·)) ∧ (¬ Good n lo hi L → oL n lo hi k L = [])
  | 0, L, hl, hnd, hlt => by
    have hlen : L.length = n := hl
    have ho : ∀ j, j < n → oD L j < n := fun j hj => hlt _ (oD_mem (by omega))
    have hin : ∀ i j, i < n → j < n → oD L i = oD L j → i = j := fun i j hi hj e => oD_inj hnd (by omega) (by omega) e
    obtain ⟨h1, h2⟩ := stL_pc hn ho hin (Nat.le_refl n)
    have hall : ∀ e, e < n → e ∈ L := fun e he => by
      rw [← stG_bit]; unfold stG; rw [hlen]
      exact (pcF hn h1).full h2 e he
    have hrs : Good n lo hi L → rsP lo hi L := fun hG j hj => lsM_le fun i hi' => by
      by_cases e : i = j
      · subst e; exact hlh _ (ho _ (by omega))
      · refine Nat.not_lt.1 fun hbad => ?_
        have hm := hG i (oD L j) (by omega) (ho j (by omega)) (by unfold qt; exact decide_eq_true hbad)
        obtain ⟨q, hq, e2⟩ := mem_getD hm
        rw [List.length_take] at hq
        have e3 : oD L q = oD L j := by
          rw [← e2]
          show L.getD q 0 = (L.take i).getD q 0
          rw [List.getD_eq_getElem?_getD, List.getD_eq_getElem?_getD, List.getElem?_take_of_lt (by omega)]
        have := oD_inj hnd (by omega) hj e3
        omega
    refine ⟨fun hG => ?_, fun hG => ?_⟩
    · show oL0 lo hi L = _
      unfold oL0
      rw [if_pos (hrs hG)]
      show [L] = [L ++ []]
      rw [List.append_nil]
    · show oL0 lo hi L = _
      unfold oL0
      rw [if_neg fun hr => hG fun p e hp he hq => ?_]
      by_cases hm : e ∈ L.take p
      · exact hm
      · exfalso
        obtain ⟨q, hq2, e2⟩ := mem_getD (hall e he)
        have e2 : oD L q = e := e2
        unfold qt at hq
        rw [decide_eq_true_eq] at hq
        have hpq : p ≤ q := Nat.not_lt.1 fun h => hm (by
          rw [← e2]
          have : (L.take p).getD q 0 = oD L q := by
            show (L.take p).getD q 0 = L.getD q 0
            rw [List.getD_eq_getElem?_getD, List.getD_eq_getElem?_getD, List.getElem?_take_of_lt (by omega)]
          rw [← this]
          exact getD_mem (by rw [List.length_take]; omega))
        have hne : p ≠ q := fun h => by
          subst h
          rw [e2] at hq
          have := hlh e he
          omega
        have h3 := hr q (by omega)
        rw [e2] at h3
        have h4 := le_lsM (lo := lo) (o := oD L) (show p < q + 1 by omega)
        omega
  | k + 1, L, hl, hnd, hlt => by
    have hlen : L.length < n := by omega
    have hgl : stG L < 4294967296 := stL_lt (n := L.length) (fun j hj => by have := hlt _ (oD_mem hj); omega) (Nat.le_refl _)
    have hnew : ∀ i, i < n → i ∉ L → (L ++ [i]).length + k = n ∧ (L ++ [i]).Nodup ∧ ∀ x, x ∈ L ++ [i] → x < n := fun i hi' hni => by
      refine ⟨by rw [List.length_append]; show L.length + 1 + k = n; omega, ?_, fun x hx => ?_⟩
      · rw [List.nodup_append]
        refine ⟨hnd, by simp, fun a ha b hb => ?_⟩
        rw [List.mem_singleton] at hb
        subst hb
        exact fun e => hni (e ▸ ha)
      · rcases List.mem_append.1 hx with hx | hx
        · exact hlt x hx
        · rw [List.mem_singleton.1 hx]; exact hi'
    refine ⟨fun hG => ?_, fun hG => ?_⟩
    · rw [oC_oJ]
      show (List.range n).flatMap _ = ((List.range n).flatMap _).map _
      rw [List.map_flatMap]
      refine flatMap_cg fun i hi' => ?_
      have hi' := List.mem_range.1 hi'
      by_cases hm : i ∈ L
      · rw [if_pos (decide_eq_true hm)]
        have : fo (fun z => bsF lo hi z n) (stG L) i = false := by
          cases hf : fo (fun z => bsF lo hi z n) (stG L) i with
          | false => rfl
          | true =>
            have := (fo_iff (by omega) hgl).1 hf
            rw [(stG_bit L i).2 hm] at this
            cases this.1
        rw [this]; rfl
      · rw [if_neg (by rw [decide_eq_false hm]; simp)]
        obtain ⟨n1, n2, n3⟩ := hnew i hi' hm
        obtain ⟨g1, g2⟩ := oL_oC hn hlh k (L ++ [i]) n1 n2 n3
        have hfi : fo (fun z => bsF lo hi z n) (stG L) i = true ↔ Good n lo hi (L ++ [i]) := by
          rw [fo_iff (by omega) hgl]
          constructor
          · rintro ⟨_, h2⟩ p e hp he hq
            rw [List.length_append] at hp
            by_cases hpl : p < L.length
            · rw [oD_app hpl] at hq
              rw [List.take_append_of_le_length (by omega)]
              exact hG p e hpl he hq
            · have e3 : p = L.length := by have : p < L.length + 1 := hp; omega
              subst e3
              rw [show oD (L ++ [i]) L.length = i from app_getD] at hq
              rw [List.take_append_of_le_length (Nat.le_refl _), List.take_length]
              exact (stG_bit L e).1 (h2 e he hq)
          · intro h
            refine ⟨bool_tf fun hb => hm ((stG_bit L i).1 hb), fun e he hq => (stG_bit L e).2 ?_⟩
            have := h L.length e (by rw [List.length_append]; exact Nat.lt_succ_self _) he (by rw [show oD (L ++ [i]) L.length = i from app_getD]; exact hq)
            rw [List.take_append_of_le_length (Nat.le_refl _), List.take_length] at this
            exact this
        cases hf : fo (fun z => bsF lo hi z n) (stG L) i with
        | true =>
          rw [g1 (hfi.1 hf), stG_app, if_pos rfl, List.map_map]
          refine List.map_congr_left fun l _ => ?_
          show L ++ [i] ++ l = L ++ (i :: l)
          rw [List.append_assoc]; rfl
        | false =>
          rw [g2 fun hg2 => by rw [hfi.2 hg2] at hf; cases hf]
          rfl
    · show (List.range n).flatMap _ = []
      rw [List.flatMap_eq_nil_iff]
      intro i hi'
      have hi' := List.mem_range.1 hi'
      by_cases hm : i ∈ L
      · rw [if_pos (decide_eq_true hm)]
      · rw [if_neg (by rw [decide_eq_false hm]; simp)]
        obtain ⟨n1, n2, n3⟩ := hnew i hi' hm
        refine (oL_oC hn hlh k (L ++ [i]) n1 n2 n3).2 fun h => hG fun p e hp he hq => ?_
        have := h p e (by rw [List.length_append]; omega) he (by rw [oD_app hp]; exact hq)
        rw [List.take_append_of_le_length (by omega)] at this
        exact this
/-- what an order that is found is -/
theorem oL_mem {n : Nat} {lo hi : Nat → Nat} {o : List Nat} : ∀ (k : Nat) (L : List Nat), L.length + k = n → L.Nodup → (∀ x, x ∈ L → x < n) → o ∈ oL n lo hi k L → o.length = n ∧ o.Nodup ∧ (∀ x, x ∈ o → x < n) ∧ rsP lo hi o
  | 0, L, hl, hnd, hlt, h => by
    have h : o ∈ oL0 lo hi L := h
    unfold oL0 at h
    by_cases hr : rsP lo hi L
    · rw [if_pos hr, List.mem_singleton] at h
      subst h
      exact ⟨hl, hnd, hlt, hr⟩
    · rw [if_neg hr] at h; cases h
  | k + 1, L, hl, hnd, hlt, h => by
    have h : o ∈ (List.range n).flatMap _ := h
    rw [List.mem_flatMap] at h
    obtain ⟨i, hi', h⟩ := h
    have hi' := List.mem_range.1 hi'
    by_cases hm : i ∈ L
    · rw [if_pos (decide_eq_true hm)] at h; cases h
    · rw [if_neg (by rw [decide_eq_false hm]; simp)] at h
      refine oL_mem k (L ++ [i]) (by rw [List.length_append]; show L.length + 1 + k = n; omega) ?_ (fun x hx => ?_) h
      · rw [List.nodup_append]
        refine ⟨hnd, by simp, fun a ha b hb => ?_⟩
        rw [List.mem_singleton] at hb
        subst hb
        exact fun e => hm (e ▸ ha)
      · rcases List.mem_append.1 hx with hx | hx
        · exact hlt x hx
        · rw [List.mem_singleton.1 hx]; exact hi'
theorem oL_all {n : Nat} (hn : n ≤ 5) {lo hi : Nat → Nat} (hlh : ∀ j, j < n → lo j ≤ hi j) : oL n lo hi n [] = oC n (fo fun z => bsF lo hi z n) n 0 := by
  have h := (oL_oC hn hlh n [] (by simp) List.nodup_nil (fun x hx => by cases hx)).1 fun p e hp => absurd hp (Nat.not_lt_zero _)
  rw [h]
  show (oC n _ n 0).map (fun l => [] ++ l) = _
  simp
theorem rsP_no {lo hi : Nat → Nat} {o : List Nat} (h : rsP lo hi o) : ∀ p q, p < o.length → q < o.length → isF lo hi (oD o) p q = false := fun p q hp hq => by
  unfold isF qt
  by_cases hpq : p < q
  · have h1 := h q hq
    have h2 := le_lsM (lo := lo) (o := oD o) (show p < q + 1 by omega)
    rw [decide_eq_false (show ¬ hi (oD o q) < lo (oD o p) by omega), Bool.and_false]
  · rw [decide_eq_false hpq, Bool.false_and]
theorem ps_nm {n : Nat} {f : Nat → Nat → Bool} {o : List Nat} (ho : o.length = n) : ∀ i, i ≤ n → nm n f n 0 o = ps n f (oD o) i + nm n f (n - i) (stL (oD o) i) (o.drop i)
  | 0, _ => by rw [List.drop_zero]; show _ = 0 + nm n f (n - 0) 0 o; rw [Nat.zero_add]; rfl
  | i + 1, hi => by
    rw [ps_nm ho i (by omega)]
    have e : o.drop i = oD o i :: o.drop (i + 1) := by
      rw [← List.getElem_cons_drop (show i < o.length by omega)]
      congr 1
      show _ = o.getD i 0
      rw [List.getD_eq_getElem?_getD, List.getElem?_eq_getElem (by omega)]
      rfl
    rw [e, show n - i = (n - (i + 1)) + 1 by omega]
    show ps n f (oD o) i + ((oJ n f (n - (i + 1)) (stL (oD o) i) (oD o i)).length + nm n f (n - (i + 1)) (wt (stL (oD o) i) (oD o i)) (o.drop (i + 1))) = ps n f (oD o) i + (oJ n f (n - 1 - i) (stL (oD o) i) (oD o i)).length + nm n f (n - (i + 1)) (wt (stL (oD o) i) (oD o i)) (o.drop (i + 1))
    rw [show n - 1 - i = n - (i + 1) by omega, Nat.add_assoc]
end Go.Proofs.Ytefnljdfgjjpjaa
