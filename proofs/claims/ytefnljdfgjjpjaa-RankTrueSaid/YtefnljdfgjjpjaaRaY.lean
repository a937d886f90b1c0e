/- Rank: Quietest, has. -/
import Derived.Test.YtefnljdfgjjpjaaRaX
import Derived.KernelRfl
namespace Go.Proofs.Ytefnljdfgjjpjaa
open Go.Ab
attribute [local irreducible] aggOk drwOK
set_option maxRecDepth 100000
set_option maxHeartbeats 4000000
set_option linter.unusedVariables false
set_option linter.unusedSimpArgs false
/-- the days whose number is at most k -/
def caL (r : Nat → Nat) (k j : Nat) : List Nat := (List.range j).filter fun d => decide (r d ≤ k)
theorem caL_t {r : Nat → Nat} {k j : Nat} (h : r j ≤ k) : caL r k (j + 1) = caL r k j ++ [j] := by
  unfold caL; rw [List.range_succ, List.filter_append]; simp [h]
theorem caL_f {r : Nat → Nat} {k j : Nat} (h : ¬ r j ≤ k) : caL r k (j + 1) = caL r k j := by
  unfold caL; rw [List.range_succ, List.filter_append]; simp [h]
theorem caL_len (r : Nat → Nat) (k j : Nat) : (caL r k j).length ≤ j := by
  have := List.length_filter_le (fun d => decide (r d ≤ k)) (List.range j)
  rw [List.length_range] at this
  exact this
theorem caL_mem {r : Nat → Nat} {k j x : Nat} : x ∈ caL r k j ↔ x < j ∧ r x ≤ k := by
  unfold caL
  rw [List.mem_filter, List.mem_range, decide_eq_true_eq]
theorem growL {L : List Nat} {x : Nat} : ∀ z, z < L.length + 1 → grow L.length 1 (nf (oD L)) [.int .i64 (Int.ofNat x)] z = nf (oD (L ++ [x])) z :=
  growT (n := L.length) (sz := 1) (f := nf (oD L)) (g := nf (oD (L ++ [x]))) (l := [.int .i64 (Int.ofNat x)]) (fun q hq => by show [SV.int .i64 (Int.ofNat (L.getD q 0))] = [SV.int .i64 (Int.ofNat ((L ++ [x]).getD q 0))]; rw [app_getD_lt hq]) rfl (by show [SV.int .i64 (Int.ofNat ((L ++ [x]).getD L.length 0))] = _; rw [app_getD])
theorem c47t (F k : Nat) (hF : 200 < F) (a : Option Addr) (n e c x : Nat) (L : List Nat) (hL : L.length = n) (hn : n ≤ 60) (q : Nat) (hq : q < n) (hx : oD L q = x) (hb : ∀ j, j < q → oD L j ≠ x) : ReadC (CL F (k + 1)) 47 [.sl 1001 a n c, .int .i64 (Int.ofNat x)] [(1001, .ro a n e 1 (nf (oD L)))] (2000 + 100) (.bool true) := by
  intro R
  rw [show 2000 + 100 = (2000) + 100 from rfl, addL_eq, ← Nat.add_assoc, ← addL_eq _ 100, Nat.add_comm R (2000)]
  refine call_in (n := 17) Try.func47 rfl rfl rfl rfl rfl rfl rfl ?_
  repeat' ((conv => whnf); first | refine eqS_rfl ?_ | refine eqA_rfl ?_ | refine eqA_of (by assumption) ?_ | refine eqS_of (by rfl) ?_ | refine eqL_rfl ?_ | refine eqJ_rfl ?_ | refine gE ?_ | refine seS_rfl ?_ | refine lsS_of hup ?_ | refine lsS_rfl ?_ | refine brS_tt ?_ | refine brS_ff ?_ | refine brS_not ?_ | refine gI ?_ | refine gT ?_ | refine gF ?_ | refine brS_intro (fun _ => ?_) (fun _ => ?_) | refine gL ?_ | refine gX ?_ | refine gO ?_ | refine gN ?_ | intro _)
  conv => whnf
  refine loS_i (fun jj f mm R' ni => ∃ j : Nat, j ≤ q ∧ jj = n - j + 1 ∧ f = [(1, .int .i64 (Int.ofNat x)), (7, .sl 1001 a n c), (8, .int .i64 (Int.ofNat n)), (9, .int .i64 (Int.ofNat j))] ∧ mm = [(1001, .ro a n e 1 (nf (oD L)))] ∧ R' = (addL (20 * (n - j) + R) 20) ∧ ni = 10) (n + 1) (by omega)
    ⟨[(1, .int .i64 (Int.ofNat x)), (7, .sl 1001 a n c), (8, .int .i64 (Int.ofNat n)), (9, .int .i64 (Int.ofNat 0))], [(1001, .ro a n e 1 (nf (oD L)))], (addL (20 * (n - 0) + R) 20), 10, ⟨eqF_rfl _, eqF_rfl _, eqF_rfl _, eqF_rfl _, trivial⟩, WkM.refl _, nM1, 0, by omega, by omega, rfl, rfl, rfl, rfl⟩ ?_
  rintro _ _ _ _ _ ⟨j, hj, rfl, rfl, rfl, rfl, rfl⟩
  have h1 : iLt (Int.ofNat j) (Int.ofNat n) = true := iLt_t (by omega)
  by_cases ej : j = q
  · have h2 : iEq (Int.ofNat (oD L j)) (Int.ofNat x) = true := by rw [iEq_n, ej, hx]; exact decide_eq_true rfl
    repeat' ((conv => whnf); first | refine eqS_rfl ?_ | refine eqA_rfl ?_ | refine eqA_of (by assumption) ?_ | refine eqS_of (by rfl) ?_ | refine eqL_rfl ?_ | refine eqJ_rfl ?_ | refine gE ?_ | refine seS_rfl ?_ | refine lsS_of hup ?_ | refine lsS_rfl ?_ | refine brS_tt ?_ | refine brS_ff ?_ | refine brS_not ?_ | refine gI ?_ | refine gT ?_ | refine gF ?_ | refine brS_intro (fun _ => ?_) (fun _ => ?_) | refine gL ?_ | refine gX ?_ | refine gO ?_ | refine gN ?_ | intro _)
    conv => whnf
    exact ⟨rfl, nM1⟩
  · have h2 : iEq (Int.ofNat (oD L j)) (Int.ofNat x) = false := by rw [iEq_n]; exact decide_eq_false (hb j (by omega))
    repeat' ((conv => whnf); first | refine eqS_rfl ?_ | refine eqA_rfl ?_ | refine eqA_of (by assumption) ?_ | refine eqS_of (by rfl) ?_ | refine eqL_rfl ?_ | refine eqJ_rfl ?_ | refine gE ?_ | refine seS_rfl ?_ | refine lsS_of hup ?_ | refine lsS_rfl ?_ | refine brS_tt ?_ | refine brS_ff ?_ | refine brS_not ?_ | refine gI ?_ | refine gT ?_ | refine gF ?_ | refine brS_intro (fun _ => ?_) (fun _ => ?_) | refine gL ?_ | refine gX ?_ | refine gO ?_ | refine gN ?_ | intro _)
    conv => whnf
    exact ⟨n - (j + 1) + 1, [(1, .int .i64 (Int.ofNat x)), (7, .sl 1001 a n c), (8, .int .i64 (Int.ofNat n)), (9, .int .i64 (Int.ofNat (j + 1)))], _, (addL (20 * (n - (j + 1)) + R) 20), 10, by omega, ⟨eqF_rfl _, eqF_rfl _, eqF_rfl _, ⟨congrArg (Value.int .i64) (smn (i := j + 1) (by omega)), rfl⟩, trivial⟩, WkM.refl _, nM1, j + 1, by omega, rfl, rfl, rfl, rfl, rfl⟩
theorem c47f (F k : Nat) (hF : 200 < F) (a : Option Addr) (n e c x : Nat) (L : List Nat) (hL : L.length = n) (hn : n ≤ 60) (hb : x ∉ L) : ReadC (CL F (k + 1)) 47 [.sl 1001 a n c, .int .i64 (Int.ofNat x)] [(1001, .ro a n e 1 (nf (oD L)))] (2000 + 100) (.bool false) := by
  intro R
  rw [show 2000 + 100 = (2000) + 100 from rfl, addL_eq, ← Nat.add_assoc, ← addL_eq _ 100, Nat.add_comm R (2000)]
  refine call_in (n := 17) Try.func47 rfl rfl rfl rfl rfl rfl rfl ?_
  repeat' ((conv => whnf); first | refine eqS_rfl ?_ | refine eqA_rfl ?_ | refine eqA_of (by assumption) ?_ | refine eqS_of (by rfl) ?_ | refine eqL_rfl ?_ | refine eqJ_rfl ?_ | refine gE ?_ | refine seS_rfl ?_ | refine lsS_of hup ?_ | refine lsS_rfl ?_ | refine brS_tt ?_ | refine brS_ff ?_ | refine brS_not ?_ | refine gI ?_ | refine gT ?_ | refine gF ?_ | refine brS_intro (fun _ => ?_) (fun _ => ?_) | refine gL ?_ | refine gX ?_ | refine gO ?_ | refine gN ?_ | intro _)
  conv => whnf
  refine loS_i (fun jj f mm R' ni => ∃ j : Nat, j ≤ n ∧ jj = n - j + 1 ∧ f = [(1, .int .i64 (Int.ofNat x)), (7, .sl 1001 a n c), (8, .int .i64 (Int.ofNat n)), (9, .int .i64 (Int.ofNat j))] ∧ mm = [(1001, .ro a n e 1 (nf (oD L)))] ∧ R' = (addL (20 * (n - j) + R) 20) ∧ ni = 10) (n + 1) (by omega)
    ⟨[(1, .int .i64 (Int.ofNat x)), (7, .sl 1001 a n c), (8, .int .i64 (Int.ofNat n)), (9, .int .i64 (Int.ofNat 0))], [(1001, .ro a n e 1 (nf (oD L)))], (addL (20 * (n - 0) + R) 20), 10, ⟨eqF_rfl _, eqF_rfl _, eqF_rfl _, eqF_rfl _, trivial⟩, WkM.refl _, nM1, 0, by omega, by omega, rfl, rfl, rfl, rfl⟩ ?_
  rintro _ _ _ _ _ ⟨j, hj, rfl, rfl, rfl, rfl, rfl⟩
  by_cases hlt : j < n
  · have h1 := iLt_t hlt
    have h2 : iEq (Int.ofNat (oD L j)) (Int.ofNat x) = false := by rw [iEq_n]; exact decide_eq_false fun e => hb (e ▸ oD_mem (by omega))
    repeat' ((conv => whnf); first | refine eqS_rfl ?_ | refine eqA_rfl ?_ | refine eqA_of (by assumption) ?_ | refine eqS_of (by rfl) ?_ | refine eqL_rfl ?_ | refine eqJ_rfl ?_ | refine gE ?_ | refine seS_rfl ?_ | refine lsS_of hup ?_ | refine lsS_rfl ?_ | refine brS_tt ?_ | refine brS_ff ?_ | refine brS_not ?_ | refine gI ?_ | refine gT ?_ | refine gF ?_ | refine brS_intro (fun _ => ?_) (fun _ => ?_) | refine gL ?_ | refine gX ?_ | refine gO ?_ | refine gN ?_ | intro _)
    conv => whnf
    exact ⟨n - (j + 1) + 1, [(1, .int .i64 (Int.ofNat x)), (7, .sl 1001 a n c), (8, .int .i64 (Int.ofNat n)), (9, .int .i64 (Int.ofNat (j + 1)))], _, (addL (20 * (n - (j + 1)) + R) 20), 10, by omega, ⟨eqF_rfl _, eqF_rfl _, eqF_rfl _, ⟨congrArg (Value.int .i64) (smn (i := j + 1) (by omega)), rfl⟩, trivial⟩, WkM.refl _, nM1, j + 1, by omega, rfl, rfl, rfl, rfl, rfl⟩
  · have e2 : n = j := by omega
    subst e2
    have h1 := iLt_f (Nat.le_refl n)
    repeat' ((conv => whnf); first | refine eqS_rfl ?_ | refine eqA_rfl ?_ | refine eqA_of (by assumption) ?_ | refine eqS_of (by rfl) ?_ | refine eqL_rfl ?_ | refine eqJ_rfl ?_ | refine gE ?_ | refine seS_rfl ?_ | refine lsS_of hup ?_ | refine lsS_rfl ?_ | refine brS_tt ?_ | refine brS_ff ?_ | refine brS_not ?_ | refine gI ?_ | refine gT ?_ | refine gF ?_ | refine brS_intro (fun _ => ?_) (fun _ => ?_) | refine gL ?_ | refine gX ?_ | refine gO ?_ | refine gN ?_ | intro _)
    conv => whnf
    exact ⟨rfl, nM1⟩
theorem first_in {L : List Nat} {x : Nat} (h : x ∈ L) : ∃ q, q < L.length ∧ oD L q = x ∧ ∀ j, j < q → oD L j ≠ x := by
  obtain ⟨k, hk, e⟩ := mem_getD h
  have key : ∀ m q, q < m → q < L.length → oD L q = x → ∃ q, q < L.length ∧ oD L q = x ∧ ∀ j, j < q → oD L j ≠ x := by
    intro m
    induction m with
    | zero => intro q hq; omega
    | succ m ih =>
      intro q hq hqn hx
      by_cases h2 : ∃ i, i < q ∧ oD L i = x
      · obtain ⟨i, hi', h3⟩ := h2
        exact ih i (by omega) (by omega) h3
      · exact ⟨q, hqn, hx, fun j hj e => h2 ⟨j, hj, e⟩⟩
  exact key _ k (Nat.lt_succ_self _) hk e
/-- two lists and no error, of their own -/
def QQ (i i2 : Nat) (A B : List Nat) (wv : SV) (mm : Mem) : Prop := ∃ a b, wv = .tup [.sl i a A.length A.length, .sl i2 b B.length B.length, .int .i64 0] ∧ mm = [(i, .gr a A.length 3 1 (nf (oD A))), (i2, .gr b B.length 3 1 (nf (oD B)))]
theorem callQQ {call : CallT} {g : FuncId} {args args0 : List SV} {m0 : Mem} {N i i2 : Nat} {A B : List Nat} (h : ∀ R, callS call (.fn g [] []) args0 m0 (addL R N) 0 fun w m' R' _ => (∃ wv mm, QQ i i2 A B wv mm ∧ den w = den wv ∧ WkM m' mm) ∧ R ≤ R') (R2 : Nat) {m : Mem} {R ni : Nat} {K : SV → Mem → Nat → Nat → Prop} (ha : dens args = dens args0) (hs : SeesM m m0) (hN : R2 + N ≤ R)
    (hK : ∀ a b, K (.tup [.sl i a A.length A.length, .sl i2 b B.length B.length, .int .i64 0]) ((i, .gr a A.length 3 1 (nf (oD A))) :: (i2, .gr b B.length 3 1 (nf (oD B))) :: m) R2 ni) : callS call (.fn g [] []) args m R ni K :=
  call_freshL (QQ i i2 A B) h (fun wv mm hq => by
    obtain ⟨a, b, _, rfl⟩ := hq
    intro x hx
    rcases List.mem_cons.1 hx with rfl | hx
    · exact ⟨_, _, _, _, _, rfl⟩
    · rw [List.mem_singleton.1 hx]; exact ⟨_, _, _, _, _, rfl⟩) R2 ha hs hN (fun wv mm hq => by obtain ⟨a, b, rfl, rfl⟩ := hq; exact hK a b)
theorem c27 (F k i i2 : Nat) (hF : 200 < F) (am : Option Addr) (n em cm : Nat) (lo hi : Nat → Nat) (hn0 : 0 < n) (hn : n ≤ 5) (hlh : ∀ j, j < n → lo j ≤ hi j ∧ hi j ≤ 100000) (k0 : Nat) (hk0 : 1 ≤ k0) (hk1 : k0 ≤ n) (R : Nat) : callS (CL F (k + 6)) (.fn 27 [] []) [.sl 1000 am n cm, .int .i64 (Int.ofNat k0)] [(1000, .ro am n em 2 (mf lo hi))] (addL R (520000 + 400)) 0 fun w m' R' _ => (∃ wv mm, QQ i i2 (caL (rkL lo hi n) k0 n) (caL (rkH lo hi n) k0 n) wv mm ∧ den w = den wv ∧ WkM m' mm) ∧ R ≤ R' := by
  have k62 := c62 F k 810 hF am n em cm lo hi hn hlh
  obtain ⟨rl, hrl⟩ : ∃ rl, rl = rkL lo hi n := ⟨_, rfl⟩
  obtain ⟨rh, hrh⟩ : ∃ rh, rh = rkH lo hi n := ⟨_, rfl⟩
  rw [← hrl, ← hrh] at k62 ⊢
  have t1 : iLt (Int.ofNat k0) 1 = false := iLt_f (a := k0) (b := 1) hk0
  have t2 : iLt (Int.ofNat n) (Int.ofNat k0) = false := iLt_f hk1
  rw [show 520000 + 400 = (520000) + 400 from rfl, addL_eq, ← Nat.add_assoc, ← addL_eq _ 400, Nat.add_comm R (520000)]
  refine call_in (n := 50) Try.func27 rfl rfl rfl rfl rfl rfl rfl ?_
  repeat' ((conv => whnf); first | refine eqS_rfl ?_ | refine eqA_rfl ?_ | refine eqA_of (by assumption) ?_ | refine eqS_of (by rfl) ?_ | refine eqL_rfl ?_ | refine eqJ_rfl ?_ | refine gE ?_ | refine seS_rfl ?_ | refine lsS_of hup ?_ | refine lsS_rfl ?_ | refine brS_tt ?_ | refine brS_ff ?_ | refine brS_not ?_ | refine gI ?_ | refine gT ?_ | refine gF ?_ | refine brS_intro (fun _ => ?_) (fun _ => ?_) | refine gL ?_ | refine gX ?_ | refine gO ?_ | refine gN ?_ | refine call_readL (c21 F _ hF am n em cm lo hi hn0 (by omega) hlh) (addL (515000 + R) 350) (by rfl) (by exact SeesM.cons 1000 (sees_ro (i := 1000) (by rfl)) (SeesM.nil _) (fun _ _ _ _ _ _ x hx => by cases hx)) (nM1) ?_ | refine callQM k62 (addL (5000 + R) 300) (by rfl) (by exact SeesM.cons 1000 (sees_ro (i := 1000) (by rfl)) (SeesM.nil _) (fun _ _ _ _ _ _ x hx => by cases hx)) (nM1) ?_ | intro _)
  rename_i a2
  conv => whnf
  refine loS_i (fun jj f mm R' ni => ∃ (j : Nat) (a3 a4 : Option Addr), j ≤ n ∧ jj = n - j + 1 ∧ f = [(1, .int .i64 (Int.ofNat k0)), (4, .sl 600 a3 (caL rl k0 j).length (caL rl k0 j).length), (5, .sl 601 a4 (caL rh k0 j).length (caL rh k0 j).length), (24, .sl 810 a2 n n), (25, .int .i64 (Int.ofNat n)), (26, .int .i64 (Int.ofNat j))] ∧ mm = [(600, .gr a3 (caL rl k0 j).length 3 1 (nf (oD (caL rl k0 j)))), (601, .gr a4 (caL rh k0 j).length 3 1 (nf (oD (caL rh k0 j)))), (810, .gr a2 n 63 2 (mf rl rh))] ∧ R' = (addL (100 * (n - j) + R) 300) ∧ ni = 700) (n + 1) (by omega)
    ⟨[(1, .int .i64 (Int.ofNat k0)), (4, .sl 600 none (caL rl k0 0).length (caL rl k0 0).length), (5, .sl 601 none (caL rh k0 0).length (caL rh k0 0).length), (24, .sl 810 a2 n n), (25, .int .i64 (Int.ofNat n)), (26, .int .i64 (Int.ofNat 0))], [(600, .gr none (caL rl k0 0).length 3 1 (nf (oD (caL rl k0 0)))), (601, .gr none (caL rh k0 0).length 3 1 (nf (oD (caL rh k0 0)))), (810, .gr a2 n 63 2 (mf rl rh))], (addL (100 * (n - 0) + R) 300), 700, ⟨eqF_rfl _, ⟨rfl, rfl⟩, ⟨rfl, rfl⟩, eqF_rfl _, eqF_rfl _, eqF_rfl _, trivial⟩, by exact WkM.gr0 (WkM.gr0 WG), nM1, 0, none, none, by omega, by omega, rfl, rfl, rfl, rfl⟩ ?_
  rintro _ _ _ _ _ ⟨j, a3, a4, hj, rfl, rfl, rfl, rfl, rfl⟩
  by_cases hjn : j < n
  · have h1 := iLt_t hjn
    have l1 := caL_len rl k0 j
    have l2 := caL_len rh k0 j
    have s1 : wr .i64 (Int.add (Int.ofNat j) 1) = Int.ofNat (j + 1) := smn (i := j + 1) (by omega)
    have z1 : ltS ((caL rl k0 j).length * 1 + 1) 32769 True := ltS_intro (by omega) trivial
    by_cases c1 : rl j ≤ k0 <;> by_cases c2 : rh j ≤ k0
    · have d1 : iLt (Int.ofNat k0) (Int.ofNat (rl j)) = false := iLt_f c1
      have d2 : iLt (Int.ofNat k0) (Int.ofNat (rh j)) = false := iLt_f c2
      have g1 := growL (L := caL rl k0 j) (x := j)
      have g2 := growL (L := caL rh k0 j) (x := j)
      repeat' ((conv => whnf); first | refine eqS_rfl ?_ | refine eqA_rfl ?_ | refine eqA_of (by assumption) ?_ | refine eqS_of (by rfl) ?_ | refine eqL_rfl ?_ | refine eqJ_rfl ?_ | refine gE ?_ | refine seS_rfl ?_ | refine lsS_of hup ?_ | refine lsS_rfl ?_ | refine brS_tt ?_ | refine brS_ff ?_ | refine brS_not ?_ | refine gI ?_ | refine gT ?_ | refine gF ?_ | refine brS_intro (fun _ => ?_) (fun _ => ?_) | refine gL ?_ | refine gX ?_ | refine gO ?_ | refine gN ?_ | refine ltS_intro (show (caL rl k0 j).length * 1 + 1 < 32769 by omega) ?_ | refine ltS_intro (show (caL rh k0 j).length * 1 + 1 < 32769 by omega) ?_ | intro _)
      conv => whnf
      refine ⟨n - (j + 1) + 1, [(1, .int .i64 (Int.ofNat k0)), (4, .sl 600 _ (caL rl k0 (j + 1)).length (caL rl k0 (j + 1)).length), (5, .sl 601 _ (caL rh k0 (j + 1)).length (caL rh k0 (j + 1)).length), (24, .sl 810 a2 n n), (25, .int .i64 (Int.ofNat n)), (26, .int .i64 (Int.ofNat (j + 1)))], [(600, .gr _ (caL rl k0 (j + 1)).length 3 1 (nf (oD (caL rl k0 (j + 1))))), (601, .gr _ (caL rh k0 (j + 1)).length 3 1 (nf (oD (caL rh k0 (j + 1))))), (810, .gr a2 n 63 2 (mf rl rh))], (addL (100 * (n - (j + 1)) + R) 300), 700, by omega, ⟨eqF_rfl _, eqSl (by rw [caL_t c1, List.length_append]; rfl), eqSl (by rw [caL_t c2, List.length_append]; rfl), eqF_rfl _, eqF_rfl _, ⟨congrArg (Value.int .i64) s1, rfl⟩, trivial⟩, ?_, nM1, j + 1, _, _, by omega, rfl, rfl, rfl, rfl, rfl⟩
      rw [caL_t c1, caL_t c2, List.length_append, List.length_append]
      exact WG
    · have d1 : iLt (Int.ofNat k0) (Int.ofNat (rl j)) = false := iLt_f c1
      have d2 : iLt (Int.ofNat k0) (Int.ofNat (rh j)) = true := iLt_t (by omega)
      have g1 := growL (L := caL rl k0 j) (x := j)
      repeat' ((conv => whnf); first | refine eqS_rfl ?_ | refine eqA_rfl ?_ | refine eqA_of (by assumption) ?_ | refine eqS_of (by rfl) ?_ | refine eqL_rfl ?_ | refine eqJ_rfl ?_ | refine gE ?_ | refine seS_rfl ?_ | refine lsS_of hup ?_ | refine lsS_rfl ?_ | refine brS_tt ?_ | refine brS_ff ?_ | refine brS_not ?_ | refine gI ?_ | refine gT ?_ | refine gF ?_ | refine brS_intro (fun _ => ?_) (fun _ => ?_) | refine gL ?_ | refine gX ?_ | refine gO ?_ | refine gN ?_ | refine ltS_intro (show (caL rl k0 j).length * 1 + 1 < 32769 by omega) ?_ | refine ltS_intro (show (caL rh k0 j).length * 1 + 1 < 32769 by omega) ?_ | intro _)
      conv => whnf
      refine ⟨n - (j + 1) + 1, [(1, .int .i64 (Int.ofNat k0)), (4, .sl 600 _ (caL rl k0 (j + 1)).length (caL rl k0 (j + 1)).length), (5, .sl 601 _ (caL rh k0 (j + 1)).length (caL rh k0 (j + 1)).length), (24, .sl 810 a2 n n), (25, .int .i64 (Int.ofNat n)), (26, .int .i64 (Int.ofNat (j + 1)))], [(600, .gr _ (caL rl k0 (j + 1)).length 3 1 (nf (oD (caL rl k0 (j + 1))))), (601, .gr _ (caL rh k0 (j + 1)).length 3 1 (nf (oD (caL rh k0 (j + 1))))), (810, .gr a2 n 63 2 (mf rl rh))], (addL (100 * (n - (j + 1)) + R) 300), 700, by omega, ⟨eqF_rfl _, eqSl (by rw [caL_t c1, List.length_append]; rfl), eqSl (by rw [caL_f c2]), eqF_rfl _, eqF_rfl _, ⟨congrArg (Value.int .i64) s1, rfl⟩, trivial⟩, ?_, nM1, j + 1, _, _, by omega, rfl, rfl, rfl, rfl, rfl⟩
      rw [caL_t c1, caL_f c2, List.length_append]
      exact WG
    · have d1 : iLt (Int.ofNat k0) (Int.ofNat (rl j)) = true := iLt_t (by omega)
      have d2 : iLt (Int.ofNat k0) (Int.ofNat (rh j)) = false := iLt_f c2
      have g2 := growL (L := caL rh k0 j) (x := j)
      repeat' ((conv => whnf); first | refine eqS_rfl ?_ | refine eqA_rfl ?_ | refine eqA_of (by assumption) ?_ | refine eqS_of (by rfl) ?_ | refine eqL_rfl ?_ | refine eqJ_rfl ?_ | refine gE ?_ | refine seS_rfl ?_ | refine lsS_of hup ?_ | refine lsS_rfl ?_ | refine brS_tt ?_ | refine brS_ff ?_ | refine brS_not ?_ | refine gI ?_ | refine gT ?_ | refine gF ?_ | refine brS_intro (fun _ => ?_) (fun _ => ?_) | refine gL ?_ | refine gX ?_ | refine gO ?_ | refine gN ?_ | refine ltS_intro (show (caL rl k0 j).length * 1 + 1 < 32769 by omega) ?_ | refine ltS_intro (show (caL rh k0 j).length * 1 + 1 < 32769 by omega) ?_ | intro _)
      conv => whnf
      refine ⟨n - (j + 1) + 1, [(1, .int .i64 (Int.ofNat k0)), (4, .sl 600 _ (caL rl k0 (j + 1)).length (caL rl k0 (j + 1)).length), (5, .sl 601 _ (caL rh k0 (j + 1)).length (caL rh k0 (j + 1)).length), (24, .sl 810 a2 n n), (25, .int .i64 (Int.ofNat n)), (26, .int .i64 (Int.ofNat (j + 1)))], [(600, .gr _ (caL rl k0 (j + 1)).length 3 1 (nf (oD (caL rl k0 (j + 1))))), (601, .gr _ (caL rh k0 (j + 1)).length 3 1 (nf (oD (caL rh k0 (j + 1))))), (810, .gr a2 n 63 2 (mf rl rh))], (addL (100 * (n - (j + 1)) + R) 300), 700, by omega, ⟨eqF_rfl _, eqSl (by rw [caL_f c1]), eqSl (by rw [caL_t c2, List.length_append]; rfl), eqF_rfl _, eqF_rfl _, ⟨congrArg (Value.int .i64) s1, rfl⟩, trivial⟩, ?_, nM1, j + 1, _, _, by omega, rfl, rfl, rfl, rfl, rfl⟩
      rw [caL_f c1, caL_t c2, List.length_append]
      exact WG
    · have d1 : iLt (Int.ofNat k0) (Int.ofNat (rl j)) = true := iLt_t (by omega)
      have d2 : iLt (Int.ofNat k0) (Int.ofNat (rh j)) = true := iLt_t (by omega)
      repeat' ((conv => whnf); first | refine eqS_rfl ?_ | refine eqA_rfl ?_ | refine eqA_of (by assumption) ?_ | refine eqS_of (by rfl) ?_ | refine eqL_rfl ?_ | refine eqJ_rfl ?_ | refine gE ?_ | refine seS_rfl ?_ | refine lsS_of hup ?_ | refine lsS_rfl ?_ | refine brS_tt ?_ | refine brS_ff ?_ | refine brS_not ?_ | refine gI ?_ | refine gT ?_ | refine gF ?_ | refine brS_intro (fun _ => ?_) (fun _ => ?_) | refine gL ?_ | refine gX ?_ | refine gO ?_ | refine gN ?_ | intro _)
      conv => whnf
      refine ⟨n - (j + 1) + 1, [(1, .int .i64 (Int.ofNat k0)), (4, .sl 600 _ (caL rl k0 (j + 1)).length (caL rl k0 (j + 1)).length), (5, .sl 601 _ (caL rh k0 (j + 1)).length (caL rh k0 (j + 1)).length), (24, .sl 810 a2 n n), (25, .int .i64 (Int.ofNat n)), (26, .int .i64 (Int.ofNat (j + 1)))], [(600, .gr _ (caL rl k0 (j + 1)).length 3 1 (nf (oD (caL rl k0 (j + 1))))), (601, .gr _ (caL rh k0 (j + 1)).length 3 1 (nf (oD (caL rh k0 (j + 1))))), (810, .gr a2 n 63 2 (mf rl rh))], (addL (100 * (n - (j + 1)) + R) 300), 700, by omega, ⟨eqF_rfl _, eqSl (by rw [caL_f c1]), eqSl (by rw [caL_f c2]), eqF_rfl _, eqF_rfl _, ⟨congrArg (Value.int .i64) s1, rfl⟩, trivial⟩, ?_, nM1, j + 1, _, _, by omega, rfl, rfl, rfl, rfl, rfl⟩
      rw [caL_f c1, caL_f c2]
      exact WG
  · have e2 : n = j := by omega
    subst e2
    have h1 := iLt_f (Nat.le_refl n)
    repeat' ((conv => whnf); first | refine eqS_rfl ?_ | refine eqA_rfl ?_ | refine eqA_of (by assumption) ?_ | refine eqS_of (by rfl) ?_ | refine eqL_rfl ?_ | refine eqJ_rfl ?_ | refine gE ?_ | refine seS_rfl ?_ | refine lsS_of hup ?_ | refine lsS_rfl ?_ | refine brS_tt ?_ | refine brS_ff ?_ | refine brS_not ?_ | refine gI ?_ | refine gT ?_ | refine gF ?_ | refine brS_intro (fun _ => ?_) (fun _ => ?_) | refine gL ?_ | refine gX ?_ | refine gO ?_ | refine gN ?_ | intro _)
    conv => whnf
    exact ⟨⟨_, _, ⟨a3, a4, rfl, rfl⟩, rfl, by exact WG⟩, nM1⟩
end Go.Proofs.Ytefnljdfgjjpjaa
