/- Rank: the law: all orders. -/
import Derived.Test.YtefnljdfgjjpjaaRmC
import Derived.KernelRfl
namespace Go.Proofs.Ytefnljdfgjjpjaa
open Go.Ab
attribute [local irreducible] aggOk drwOK
set_option maxRecDepth 100000
set_option maxHeartbeats 4000000
set_option linter.unusedVariables false
set_option linter.unusedSimpArgs false
theorem oM2 {A B : Prop} (h : A ∧ B := by constructor <;> (first | omega | (simp only [Nat.add_eq, Nat.sub_eq, Nat.mul_eq, Nat.succ_eq_add_one]; omega))) : A ∧ B := h
theorem oL_len (n : Nat) (lo hi : Nat → Nat) : ∀ k L, (oL n lo hi k L).length ≤ n ^ k
  | 0, L => by
    show (oL0 lo hi L).length ≤ 1
    unfold oL0
    by_cases h : rsP lo hi L
    · rw [if_pos h]; exact Nat.le_refl _
    · rw [if_neg h]; exact Nat.zero_le _
  | k + 1, L => by
    have key : ∀ j, (oM n lo hi k L j).length ≤ j * n ^ k := by
      intro j
      induction j with
      | zero => rw [Nat.zero_mul]; exact Nat.le_refl 0
      | succ j ih =>
        rw [oM_succ, List.length_append, Nat.succ_mul]
        have := oL_len n lo hi k (L ++ [j])
        split
        · show _ + 0 ≤ _; omega
        · omega
    have := key n
    rw [Nat.pow_succ, Nat.mul_comm]
    exact this
theorem oM_len {n : Nat} (hn : n ≤ 5) (lo hi : Nat → Nat) {k : Nat} (hk : k ≤ 5) (L : List Nat) : ∀ {j : Nat}, j ≤ 5 → (oM n lo hi k L j).length ≤ j * 3125
  | 0, _ => by rw [Nat.zero_mul]; exact Nat.le_refl 0
  | j + 1, hj => by
    rw [oM_succ, List.length_append, Nat.succ_mul]
    have h1 := oM_len hn lo hi hk L (j := j) (by omega)
    have h2 := oL_len n lo hi k (L ++ [j])
    have h3 := pow5 hn hk
    split
    · show _ + 0 ≤ _; omega
    · omega
/-- the heads of rows -/
def hd (rows : List Row) (j : Nat) : List SV := [.sl 5000 (rows.getD j (none, 0, 0, fun _ => [])).1 (rows.getD j (none, 0, 0, fun _ => [])).2.1 (rows.getD j (none, 0, 0, fun _ => [])).2.2.1]
/-- rows that are orders -/
def RO (n : Nat) : List (List Nat) → List Row → Prop
  | [], rows => rows = []
  | o :: A, rows => ∃ r rs, rows = r :: rs ∧ (r.2.1 = n ∧ r.2.2.1 = n ∧ ∀ z, z < n → r.2.2.2 z = nf (oD o) z) ∧ RO n A rs
theorem RO.len {n : Nat} : ∀ {A : List (List Nat)} {rows : List Row}, RO n A rows → rows.length = A.length
  | [], _, h => by have h : _ = [] := h; subst h; rfl
  | o :: A, _, h => by obtain ⟨r, rs, rfl, _, h2⟩ := h; rw [List.length_cons, List.length_cons, h2.len]
theorem RO.app {n : Nat} : ∀ {A B : List (List Nat)} {r1 r2 : List Row}, RO n A r1 → RO n B r2 → RO n (A ++ B) (r1 ++ r2)
  | [], _, _, _, h, k => by have h : _ = [] := h; subst h; exact k
  | o :: A, _, _, _, h, k => by obtain ⟨r, rs, rfl, h1, h2⟩ := h; exact ⟨r, rs ++ _, rfl, h1, h2.app k⟩
theorem RO.get {n : Nat} : ∀ {A : List (List Nat)} {rows : List Row}, RO n A rows → ∀ {j : Nat} {o : List Nat}, A[j]? = some o → ∃ r, rows[j]? = some r ∧ r ∈ rows ∧ r.2.1 = n ∧ r.2.2.1 = n ∧ ∀ z, z < n → r.2.2.2 z = nf (oD o) z
  | [], _, _, j, o, h => by cases h
  | o' :: A, _, h, j, o, hj => by
    obtain ⟨r, rs, rfl, h1, h2⟩ := h
    cases j with
    | zero => cases hj; exact ⟨r, rfl, by simp, h1⟩
    | succ j =>
      obtain ⟨r', q1, q2, q3⟩ := h2.get (j := j) (o := o) hj
      exact ⟨r', q1, by simp [q2], q3⟩
theorem hd_app {r1 r2 : List Row} {n1 n2 : Nat} (h1 : r1.length = n1) (j : Nat) (_ : j < Nat.add n1 n2) : growF n1 (hd r1) (hd r2) j = hd (r1 ++ r2) j := by
  subst h1
  unfold growF
  by_cases hj : j < r1.length
  · rw [blt_of hj, cond_true]
    unfold hd
    simp [List.getD_eq_getElem?_getD, List.getElem?_append_left hj]
  · rw [show Nat.blt j r1.length = false from bool_tf fun e => hj (blt_true e), cond_false]
    unfold hd
    show [SV.sl 5000 (r2.getD (j - r1.length) _).1 (r2.getD (j - r1.length) _).2.1 (r2.getD (j - r1.length) _).2.2.1] = _
    simp [List.getD_eq_getElem?_getD, List.getElem?_append_right (show r1.length ≤ j by omega)]
/-- whether a day is among the first ones of a list -/
def us (L : List Nat) (i j : Nat) : Bool := decide (i ∈ L.take j)
theorem us_succ {L : List Nat} {i j : Nat} (hj : j < L.length) : us L i (j + 1) = (us L i j || decide (oD L j = i)) := by
  unfold us
  rw [List.take_add_one, List.getElem?_eq_getElem hj]
  have e : oD L j = L[j] := by show L.getD j 0 = _; rw [List.getD_eq_getElem?_getD, List.getElem?_eq_getElem hj]; rfl
  rw [e, Bool.eq_iff_iff]
  simp only [Option.toList_some, List.mem_append, List.mem_singleton, Bool.or_eq_true, decide_eq_true_eq]
  constructor
  · rintro (h | h)
    · exact .inl h
    · exact .inr h.symm
  · rintro (h | h)
    · exact .inl h
    · exact .inr h.symm
theorem WkM.own_gr1 {m' m : Mem} {i j b e : Nat} {v : SV} {f : Nat → List SV} (hf : dens (f 0) = [den v]) (hl : (f 0).length = 1) (h : WkM m' ((i, .own b e [v]) :: m)) : WkM m' ((j, .gr (some ⟨b, 0, none⟩) 1 e 1 f) :: m) :=
  h.trans (WkL.wk (WkM.keep (e := .own b e [v]) (e' := .gr (some ⟨b, 0, none⟩) 1 e 1 f) ⟨rfl, rfl, rfl, fun q hq => by rw [show q = 0 by omega]; exact hl, by show [] ++ dens (f 0) = [den v]; rw [hf]; rfl⟩ (WkL.refl m)))
def cN (n : Nat) : Nat → Nat
  | 0 => 4000
  | k + 1 => n * (cN n k + 1000) + 1000
theorem callRows {call : CallT} {g : FuncId} {args args0 : List SV} {mm MM0 : Mem} {N R0 n : Nat} {A : List (List Nat)} {FF : Mem} (h : callS call (.fn g [] []) args0 MM0 (addL R0 N) 3000 fun w m' R' _ => R0 ≤ R' ∧ ∃ (a : Option Addr) (rows : List Row), RO n A rows ∧ den w = Value.slice a rows.length rows.length ∧ WkM m' ((980, .gr a rows.length 23 1 (hd rows)) :: (981, .fam 4 1 rows) :: FF)) {R ni : Nat} {K : SV → Mem → Nat → Nat → Prop} (ha : dens args = dens args0) (hw : WkM mm MM0) (hN : R0 + N ≤ R)
    (hK : ∀ a rows nB, RO n A rows → rows.length = nB → nB = A.length → K (.sl 980 a nB nB) ((980, .gr a nB 23 1 (hd rows)) :: (981, .fam 4 1 rows) :: FF) R0 ni) : callS call (.fn g [] []) args mm R ni K := by
  refine callS.cast (fv' := .fn g [] []) (args' := args0) rfl ha (callS.wk hw (callS.less (R' := addL R0 N) (by rw [addL_eq]; exact hN) (callS.ni 3000 ?_)))
  exact call_post h fun w m' R' n' ⟨hR, a, rows, hI, hd, hwk⟩ => ⟨.sl 980 a rows.length rows.length, _, R0, ni, hd, hwk, hR, hK a rows _ hI rfl hI.len⟩
theorem c44 (F : Nat) (hF : 200 < F) (am : Option Addr) (n em cm : Nat) (lo hi : Nat → Nat) (hn0 : 0 < n) (hn : n ≤ 5) (hlh : ∀ j, j < n → lo j ≤ hi j) : ∀ (k : Nat) (L : List Nat) (nL : Nat) (ab : Option Addr) (rest : Mem) (R d : Nat), L.length = nL → nL + k = n → L.Nodup → (∀ x, x ∈ L → x < n) → (nL = 0 → ab = none) →
    callS (CL F (d + k + 2)) (.fn 44 [] []) [.sl 1000 am n cm, .sl 1001 ab nL nL] ((1000, .ro am n em 2 (mf lo hi)) :: (1001, .ro ab nL 4 1 (nf (oD L))) :: rest) (addL R (cN n k)) 3000 fun w m' R' _ => R ≤ R' ∧ ∃ (a : Option Addr) (rows : List Row), RO n (oL n lo hi k L) rows ∧ den w = Value.slice a rows.length rows.length ∧ WkM m' ((980, .gr a rows.length 23 1 (hd rows)) :: (981, .fam 4 1 rows) :: (1000, .ro am n em 2 (mf lo hi)) :: rest) := by
  intro k
  induction k with
  | zero =>
    intro L nL ab rest R d hL hk hnd hlt hnil
    have e0 : n = nL := by omega
    subst e0
    have ho : ∀ j, j < n → oD L j < n := fun j hj => hlt _ (oD_mem (by omega))
    have t1 : iEq (Int.ofNat n) (Int.ofNat n) = true := iEq_self _
    rw [show addL R (cN n 0) = addL (3000 + R) 1000 by rw [addL_eq, addL_eq]; show R + 4000 = _; omega]
    by_cases hr : rsP lo hi L
    · have k46 := c46 F d hF am n em cm lo hi (by omega) ab 4 n (oD L) ho (fun j hj => hr j (by omega))
      have hA : oL n lo hi 0 L = [L] := by show oL0 lo hi L = _; unfold oL0; rw [if_pos hr]
      rw [hA]
      refine call_in (n := 52) Try.func44 rfl rfl rfl rfl rfl rfl rfl ?_
      repeat' ((conv => whnf); first | refine eqS_rfl ?_ | refine eqA_rfl ?_ | refine eqA_of (by assumption) ?_ | refine eqS_of (by rfl) ?_ | refine eqL_rfl ?_ | refine eqJ_rfl ?_ | refine gE ?_ | refine seS_rfl ?_ | refine lsS_of hup ?_ | refine lsS_rfl ?_ | refine brS_tt ?_ | refine brS_ff ?_ | refine brS_not ?_ | refine gI ?_ | refine gT ?_ | refine gF ?_ | refine brS_intro (fun _ => ?_) (fun _ => ?_) | refine gL ?_ | refine gX ?_ | refine gO ?_ | refine gN ?_ | refine call_readL (k46) (addL (500 + R) 300) (by rfl) (by exact SeesM.cons 1000 (sees_ro (i := 1000) (by rfl)) (SeesM.cons 1001 (sees_ro (i := 1001) (by rfl)) (SeesM.nil _) (fun _ _ _ _ _ _ x hx => by cases hx)) (fun _ _ _ _ _ _ x hx => by rcases List.mem_singleton.1 hx with rfl; exact fun _ h => h)) (nM1) ?_ | intro _)
      rename_i b1
      conv => whnf
      exact ⟨nM1, some ⟨b1, 0, none⟩, [(ab, n, n, nf (oD L))], ⟨_, _, rfl, ⟨rfl, rfl, fun _ _ => rfl⟩, rfl⟩, rfl, by exact WkM.own_gr1 (i := 0) (v := .sl 1001 ab n n) rfl rfl (WkM.swapR (WkM.fam1 (j := 0) WG))⟩
    · have hA : oL n lo hi 0 L = [] := by show oL0 lo hi L = _; unfold oL0; rw [if_neg hr]
      rw [hA]
      rcases rise_or (lo := lo) (hi := hi) (o := oD L) (n := n) (fun j hj => hlh _ (ho j hj)) with ⟨h1, _⟩ | ⟨⟨q0, h1, h2, h3⟩, _⟩
      · exact absurd (fun j hj => h1 j (by omega)) hr
      · have k46 := c46f F d hF am n em cm lo hi (by omega) ab 4 n (oD L) ho q0 h1 h2 h3
        refine call_in (n := 52) Try.func44 rfl rfl rfl rfl rfl rfl rfl ?_
        repeat' ((conv => whnf); first | refine eqS_rfl ?_ | refine eqA_rfl ?_ | refine eqA_of (by assumption) ?_ | refine eqS_of (by rfl) ?_ | refine eqL_rfl ?_ | refine eqJ_rfl ?_ | refine gE ?_ | refine seS_rfl ?_ | refine lsS_of hup ?_ | refine lsS_rfl ?_ | refine brS_tt ?_ | refine brS_ff ?_ | refine brS_not ?_ | refine gI ?_ | refine gT ?_ | refine gF ?_ | refine brS_intro (fun _ => ?_) (fun _ => ?_) | refine gL ?_ | refine gX ?_ | refine gO ?_ | refine gN ?_ | refine call_readL (k46) (addL (500 + R) 300) (by rfl) (by exact SeesM.cons 1000 (sees_ro (i := 1000) (by rfl)) (SeesM.cons 1001 (sees_ro (i := 1001) (by rfl)) (SeesM.nil _) (fun _ _ _ _ _ _ x hx => by cases hx)) (fun _ _ _ _ _ _ x hx => by rcases List.mem_singleton.1 hx with rfl; exact fun _ h => h)) (nM1) ?_ | intro _)
        conv => whnf
        exact ⟨nM1, none, [], rfl, rfl, by exact WkM.gr0 (WkM.fam0 WG)⟩
  | succ k ih =>
    intro L nL ab rest R d hL hk hnd hlt hnil
    have hnL : nL < n := by omega
    have t1 : iEq (Int.ofNat nL) (Int.ofNat n) = false := by rw [iEq_n, decide_eq_false (by omega)]
    obtain ⟨Q, hQ⟩ : ∃ Q, Q = cN n k := ⟨_, rfl⟩
    rw [← hQ] at ih
    rw [show addL R (cN n (k + 1)) = addL ((Q + 1000) * n + R) 1000 by rw [addL_eq, addL_eq, hQ, Nat.mul_comm]; show R + (n * (cN n k + 1000) + 1000) = _; rw [Nat.mul_comm n]; omega]
    rw [show d + (k + 1) + 2 = d + k + 3 by omega]
    refine call_in (n := 52) Try.func44 rfl rfl rfl rfl rfl rfl rfl ?_
    repeat' ((conv => whnf); first | refine eqS_rfl ?_ | refine eqA_rfl ?_ | refine eqA_of (by assumption) ?_ | refine eqS_of (by rfl) ?_ | refine eqL_rfl ?_ | refine eqJ_rfl ?_ | refine gE ?_ | refine seS_rfl ?_ | refine lsS_of hup ?_ | refine lsS_rfl ?_ | refine brS_tt ?_ | refine brS_ff ?_ | refine brS_not ?_ | refine gI ?_ | refine gT ?_ | refine gF ?_ | refine brS_intro (fun _ => ?_) (fun _ => ?_) | refine gL ?_ | refine gX ?_ | refine gO ?_ | refine gN ?_ | intro _)
    conv => whnf
    refine loS_i (fun jj f mm R' ni => ∃ (i : Nat) (a1 : Option Addr) (nA : Nat) (rows : List Row), i ≤ n ∧ RO n (oM n lo hi k L i) rows ∧ rows.length = nA ∧ jj = n - i + 1 ∧ f = [(0, .sl 1000 am n cm), (1, .sl 1001 ab nL nL), (5, .sl 970 a1 nA nA), (21, .int .i64 (Int.ofNat n)), (22, .int .i64 (Int.ofNat i))] ∧ mm = (970, .gr a1 nA 23 1 (hd rows)) :: (971, .fam 4 1 rows) :: (1000, .ro am n em 2 (mf lo hi)) :: (1001, .ro ab nL 4 1 (nf (oD L))) :: rest ∧ R' = (addL ((Q + 1000) * (n - i) + R) 300) ∧ ni = 960) (n + 1) (by omega)
      ⟨[(0, .sl 1000 am n cm), (1, .sl 1001 ab nL nL), (5, .sl 970 none 0 0), (21, .int .i64 (Int.ofNat n)), (22, .int .i64 (Int.ofNat 0))], (970, .gr none 0 23 1 (hd [])) :: (971, .fam 4 1 []) :: (1000, .ro am n em 2 (mf lo hi)) :: (1001, .ro ab nL 4 1 (nf (oD L))) :: rest, (addL ((Q + 1000) * (n - 0) + R) 300), 960, ⟨eqF_rfl _, eqF_rfl _, ⟨rfl, rfl⟩, eqF_rfl _, eqF_rfl _, trivial⟩, by exact WkM.gr0 (WkM.fam0 WG), by rw [Nat.sub_zero]; (first | (simp only [addL_eq, addL_rec]; omega) | omega | exact Nat.le_refl _), 0, none, 0, [], by omega, rfl, rfl, by omega, rfl, rfl, rfl, rfl⟩ ?_
    rintro _ _ _ _ _ ⟨i, a1, nA, rows, hi', hRows, hrl, rfl, rfl, rfl, rfl, rfl⟩
    by_cases hin : i < n
    · have h1 := iLt_t hin
      have hb : (Q + 1000) * (n - i) = (Q + 1000) * (n - (i + 1)) + (Q + 1000) := by rw [← Nat.mul_succ]; congr 1; omega
      have hu0 : us L i 0 = false := by unfold us; simp
      repeat' ((conv => whnf); first | refine eqS_rfl ?_ | refine eqA_rfl ?_ | refine eqA_of (by assumption) ?_ | refine eqS_of (by rfl) ?_ | refine eqL_rfl ?_ | refine eqJ_rfl ?_ | refine gE ?_ | refine seS_rfl ?_ | refine lsS_of hup ?_ | refine lsS_rfl ?_ | refine brS_tt ?_ | refine brS_ff ?_ | refine brS_not ?_ | refine gI ?_ | refine gT ?_ | refine gF ?_ | refine brS_intro (fun _ => ?_) (fun _ => ?_) | refine gL ?_ | refine gX ?_ | refine gO ?_ | refine gN ?_ | intro _)
      conv => whnf
      refine loS_i (fun jj f mm R' ni => ∃ j : Nat, j ≤ nL ∧ jj = nL - j + 1 ∧ f = [(0, .sl 1000 am n cm), (1, .sl 1001 ab nL nL), (5, .sl 970 a1 nA nA), (21, .int .i64 (Int.ofNat n)), (22, .int .i64 (Int.ofNat i)), (6, .int .i64 (Int.ofNat i)), (7, .bool (us L i j)), (25, .sl 1001 ab nL nL), (26, .int .i64 (Int.ofNat nL)), (27, .int .i64 (Int.ofNat j))] ∧ mm = (970, .gr a1 nA 23 1 (hd rows)) :: (971, .fam 4 1 rows) :: (1000, .ro am n em 2 (mf lo hi)) :: (1001, .ro ab nL 4 1 (nf (oD L))) :: rest ∧ R' = (addL (20 * (nL - j) + (Q + ((Q + 1000) * (n - (i + 1)) + R))) 500) ∧ ni = 960) (nL + 1) (by omega)
        ⟨[(0, .sl 1000 am n cm), (1, .sl 1001 ab nL nL), (5, .sl 970 a1 nA nA), (21, .int .i64 (Int.ofNat n)), (22, .int .i64 (Int.ofNat i)), (6, .int .i64 (Int.ofNat i)), (7, .bool (us L i 0)), (25, .sl 1001 ab nL nL), (26, .int .i64 (Int.ofNat nL)), (27, .int .i64 (Int.ofNat 0))], (970, .gr a1 nA 23 1 (hd rows)) :: (971, .fam 4 1 rows) :: (1000, .ro am n em 2 (mf lo hi)) :: (1001, .ro ab nL 4 1 (nf (oD L))) :: rest, (addL (20 * (nL - 0) + (Q + ((Q + 1000) * (n - (i + 1)) + R))) 500), 960, ⟨eqF_rfl _, eqF_rfl _, eqF_rfl _, eqF_rfl _, eqF_rfl _, eqF_rfl _, ⟨congrArg Value.bool hu0.symm, rfl⟩, eqF_rfl _, eqF_rfl _, eqF_rfl _, trivial⟩, WkM.refl _, nM1, 0, by omega, by omega, rfl, rfl, rfl, rfl⟩ ?_
      rintro _ _ _ _ _ ⟨j, hj, rfl, rfl, rfl, rfl, rfl⟩
      by_cases hjn : j < nL
      · have h2 := iLt_t hjn
        have hs := us_succ (L := L) (i := i) (j := j) (by omega)
        cases hu : us L i j with
        | true =>
          rw [hu, Bool.true_or] at hs
          have hu3 := hu
          repeat' ((conv => whnf); first | refine eqS_rfl ?_ | refine eqA_rfl ?_ | refine eqA_of (by assumption) ?_ | refine eqS_of (by rfl) ?_ | refine eqL_rfl ?_ | refine eqJ_rfl ?_ | refine gE ?_ | refine seS_rfl ?_ | refine lsS_of hup ?_ | refine lsS_rfl ?_ | refine brS_tt ?_ | refine brS_ff ?_ | refine brS_not ?_ | refine gI ?_ | refine gT ?_ | refine gF ?_ | refine brS_intro (fun _ => ?_) (fun _ => ?_) | refine gL ?_ | refine gX ?_ | refine gO ?_ | refine gN ?_ | intro _)
          conv => whnf
          exact ⟨nL - (j + 1) + 1, [(0, .sl 1000 am n cm), (1, .sl 1001 ab nL nL), (5, .sl 970 a1 nA nA), (21, .int .i64 (Int.ofNat n)), (22, .int .i64 (Int.ofNat i)), (6, .int .i64 (Int.ofNat i)), (7, .bool (us L i (j + 1))), (25, .sl 1001 ab nL nL), (26, .int .i64 (Int.ofNat nL)), (27, .int .i64 (Int.ofNat (j + 1)))], _, (addL (20 * (nL - (j + 1)) + (Q + ((Q + 1000) * (n - (i + 1)) + R))) 500), 960, by omega, ⟨eqF_rfl _, eqF_rfl _, eqF_rfl _, eqF_rfl _, eqF_rfl _, eqF_rfl _, ⟨congrArg Value.bool hs.symm, rfl⟩, eqF_rfl _, eqF_rfl _, ⟨congrArg (Value.int .i64) (smn (i := j + 1) (by omega)), rfl⟩, trivial⟩, WkM.refl _, nM1, j + 1, by omega, rfl, rfl, rfl, rfl, rfl⟩
        | false =>
          rw [hu, Bool.false_or] at hs
          have hu3 := hu
          have he : iEq (Int.ofNat (oD L j)) (Int.ofNat i) = decide (oD L j = i) := iEq_n
          repeat' ((conv => whnf); first | refine eqS_rfl ?_ | refine eqA_rfl ?_ | refine eqA_of (by assumption) ?_ | refine eqS_of (by rfl) ?_ | refine eqL_rfl ?_ | refine eqJ_rfl ?_ | refine gE ?_ | refine seS_rfl ?_ | refine lsS_of hup ?_ | refine lsS_rfl ?_ | refine brS_tt ?_ | refine brS_ff ?_ | refine brS_not ?_ | refine gI ?_ | refine gT ?_ | refine gF ?_ | refine brS_intro (fun _ => ?_) (fun _ => ?_) | refine gL ?_ | refine gX ?_ | refine gO ?_ | refine gN ?_ | intro _)
          conv => whnf
          exact ⟨nL - (j + 1) + 1, [(0, .sl 1000 am n cm), (1, .sl 1001 ab nL nL), (5, .sl 970 a1 nA nA), (21, .int .i64 (Int.ofNat n)), (22, .int .i64 (Int.ofNat i)), (6, .int .i64 (Int.ofNat i)), (7, .bool (us L i (j + 1))), (25, .sl 1001 ab nL nL), (26, .int .i64 (Int.ofNat nL)), (27, .int .i64 (Int.ofNat (j + 1)))], _, (addL (20 * (nL - (j + 1)) + (Q + ((Q + 1000) * (n - (i + 1)) + R))) 500), 960, by omega, ⟨eqF_rfl _, eqF_rfl _, eqF_rfl _, eqF_rfl _, eqF_rfl _, eqF_rfl _, ⟨congrArg Value.bool (he.trans hs.symm), rfl⟩, eqF_rfl _, eqF_rfl _, ⟨congrArg (Value.int .i64) (smn (i := j + 1) (by omega)), rfl⟩, trivial⟩, WkM.refl _, nM1, j + 1, by omega, rfl, rfl, rfl, rfl, rfl⟩
      · have e2 : nL = j := by omega
        subst e2
        have h2 := iLt_f (Nat.le_refl nL)
        have hus : us L i nL = decide (i ∈ L) := by unfold us; rw [← hL, List.take_length]
        have hM := oM_succ n lo hi k L i
        by_cases hm : i ∈ L
        · have hu := hus.trans (decide_eq_true hm)
          rw [if_pos (decide_eq_true hm), List.append_nil] at hM
          repeat' ((conv => whnf); first | refine eqS_rfl ?_ | refine eqA_rfl ?_ | refine eqA_of (by assumption) ?_ | refine eqS_of (by rfl) ?_ | refine eqL_rfl ?_ | refine eqJ_rfl ?_ | refine gE ?_ | refine seS_rfl ?_ | refine lsS_of hup ?_ | refine lsS_rfl ?_ | refine brS_tt ?_ | refine brS_ff ?_ | refine brS_not ?_ | refine gI ?_ | refine gT ?_ | refine gF ?_ | refine brS_intro (fun _ => ?_) (fun _ => ?_) | refine gL ?_ | refine gX ?_ | refine gO ?_ | refine gN ?_ | intro _)
          conv => whnf
          exact ⟨n - (i + 1) + 1, [(0, .sl 1000 am n cm), (1, .sl 1001 ab nL nL), (5, .sl 970 a1 nA nA), (21, .int .i64 (Int.ofNat n)), (22, .int .i64 (Int.ofNat (i + 1)))], (970, .gr a1 nA 23 1 (hd rows)) :: (971, .fam 4 1 rows) :: (1000, .ro am n em 2 (mf lo hi)) :: (1001, .ro ab nL 4 1 (nf (oD L))) :: rest, (addL ((Q + 1000) * (n - (i + 1)) + R) 300), 960, by omega, ⟨eqF_rfl _, eqF_rfl _, eqF_rfl _, eqF_rfl _, ⟨congrArg (Value.int .i64) (smn (i := i + 1) (by omega)), rfl⟩, trivial⟩, WkM.refl _, nM1, i + 1, a1, nA, rows, by omega, by rw [hM]; exact hRows, hrl, rfl, rfl, rfl, rfl, rfl⟩
        · have hu := hus.trans (decide_eq_false hm)
          rw [if_neg (by rw [decide_eq_false hm]; simp)] at hM
          have hnd2 : (L ++ [i]).Nodup := by
            rw [List.nodup_append]
            refine ⟨hnd, by simp, fun a ha b hb => ?_⟩
            rw [List.mem_singleton] at hb
            subst hb
            exact fun e => hm (e ▸ ha)
          have hlt2 : ∀ x, x ∈ L ++ [i] → x < n := fun x hx => by
            rcases List.mem_append.1 hx with hx | hx
            · exact hlt x hx
            · rw [List.mem_singleton.1 hx]; exact hin
          have kk := fun a => ih (L ++ [i]) (nL + 1) a ((970, .gr a1 nA 23 1 (hd rows)) :: (971, .fam 4 1 rows) :: (1001, .ro ab nL 4 1 (nf (oD L))) :: rest) (addL ((Q + 1000) * (n - (i + 1)) + R) 320) d (by rw [List.length_append, hL]; rfl) (by omega) hnd2 hlt2 (fun h => absurd h (by omega))
          have hg9 := growT (n := nL) (sz := 1) (f := nf (oD L)) (g := nf (oD (L ++ [i]))) (l := [.int .i64 (Int.ofNat i)]) (fun q hq => by show [SV.int .i64 (Int.ofNat (L.getD q 0))] = [SV.int .i64 (Int.ofNat ((L ++ [i]).getD q 0))]; rw [app_getD_lt (by omega)]) rfl (by show [SV.int .i64 (Int.ofNat ((L ++ [i]).getD nL 0))] = _; rw [← hL, app_getD])
          have hb1 := oM_len hn lo hi (k := k) (by omega) L (j := i) (by omega)
          rw [← hRows.len, hrl] at hb1
          have hb2 : (oL n lo hi k (L ++ [i])).length ≤ 3125 := Nat.le_trans (oL_len n lo hi k _) (pow5 hn (by omega))
          by_cases hz : nL = 0
          · have hab := hnil hz
            subst hz hab
            have hLn : L = [] := List.eq_nil_of_length_eq_zero hL
            have hg8 : ∀ z, z < 0 + 1 → grow 0 1 (grow 0 1 (fun _ => []) []) [SV.int .i64 (Int.ofNat i)] z = nf (oD (L ++ [i])) z := fun z hz => by
              have : z = 0 := by omega
              subst this; subst hLn; rfl
            by_cases hB : (oL n lo hi k (L ++ [i])).length = 0
            · skip
              repeat' ((conv => whnf); first | refine eqS_rfl ?_ | refine eqA_rfl ?_ | refine eqA_of (by assumption) ?_ | refine eqS_of (by rfl) ?_ | refine eqL_rfl ?_ | refine eqJ_rfl ?_ | refine gE ?_ | refine seS_rfl ?_ | refine lsS_of hup ?_ | refine lsS_rfl ?_ | refine brS_tt ?_ | refine brS_ff ?_ | refine brS_not ?_ | refine gI ?_ | refine gT ?_ | refine gF ?_ | refine brS_intro (fun _ => ?_) (fun _ => ?_) | refine gL ?_ | refine gX ?_ | refine gO ?_ | refine gN ?_ | refine ltS_2 (by kernel_rfl) oM1 ?_ | refine ltS_1 (by kernel_rfl) oM1 ?_ | refine ltS_intro oM1 ?_ | refine emS_z oM1 ?_ | refine emS_p oM1 ?_ | refine orS_l oM2 ?_ | refine orS_l oM1 ?_ | refine orS_r oM1 ?_ | refine gE ?_ | refine callRows (kk _) (by rfl) (by exact WkM.trans (m2 := ((0, .gr _ (0 + 1) 3 1 (nf (oD (L ++ [i])))) :: (1000, .ro am n em 2 (mf lo hi)) :: (970, .gr a1 nA 23 1 (hd rows)) :: (971, .fam 4 1 rows) :: (1001, .ro none 0 4 1 (nf (oD L))) :: rest)) WG WG) (nM1) ?_ | intro _)
              rename_i a2 rows2 nB hRO hlen2 hnB
              conv => whnf
              have hE : oL n lo hi k (L ++ [i]) = [] := List.eq_nil_of_length_eq_zero hB
              rw [hE, List.append_nil] at hM
              exact ⟨n - (i + 1) + 1, [(0, .sl 1000 am n cm), (1, .sl 1001 none 0 0), (5, .sl 970 _ nA nA), (21, .int .i64 (Int.ofNat n)), (22, .int .i64 (Int.ofNat (i + 1)))], (970, .gr _ nA 23 1 (hd rows)) :: (971, .fam 4 1 rows) :: (1000, .ro am n em 2 (mf lo hi)) :: (1001, .ro none 0 4 1 (nf (oD L))) :: rest, (addL ((Q + 1000) * (n - (i + 1)) + R) 300), 960, by omega, ⟨eqF_rfl _, eqF_rfl _, eqF_rfl _, eqF_rfl _, ⟨congrArg (Value.int .i64) (smn (i := i + 1) (by omega)), rfl⟩, trivial⟩, by exact WG, nM1, i + 1, _, _, rows, by omega, by rw [hM]; exact hRows, hrl, rfl, rfl, rfl, rfl, rfl⟩
            · skip
              repeat' ((conv => whnf); first | refine eqS_rfl ?_ | refine eqA_rfl ?_ | refine eqA_of (by assumption) ?_ | refine eqS_of (by rfl) ?_ | refine eqL_rfl ?_ | refine eqJ_rfl ?_ | refine gE ?_ | refine seS_rfl ?_ | refine lsS_of hup ?_ | refine lsS_rfl ?_ | refine brS_tt ?_ | refine brS_ff ?_ | refine brS_not ?_ | refine gI ?_ | refine gT ?_ | refine gF ?_ | refine brS_intro (fun _ => ?_) (fun _ => ?_) | refine gL ?_ | refine gX ?_ | refine gO ?_ | refine gN ?_ | refine ltS_2 (by kernel_rfl) oM1 ?_ | refine ltS_1 (by kernel_rfl) oM1 ?_ | refine ltS_intro oM1 ?_ | refine emS_z oM1 ?_ | refine emS_p oM1 ?_ | refine orS_l oM2 ?_ | refine orS_l oM1 ?_ | refine orS_r oM1 ?_ | refine gE ?_ | refine callRows (kk _) (by rfl) (by exact WkM.trans (m2 := ((0, .gr _ (0 + 1) 3 1 (nf (oD (L ++ [i])))) :: (1000, .ro am n em 2 (mf lo hi)) :: (970, .gr a1 nA 23 1 (hd rows)) :: (971, .fam 4 1 rows) :: (1001, .ro none 0 4 1 (nf (oD L))) :: rest)) WG WG) (nM1) ?_ | intro _)
              rename_i a2 rows2 nB hRO hlen2 hnB a9
              conv => whnf
              have hg7 := hd_app (r1 := rows) (r2 := rows2) (n1 := nA) (n2 := nB) hrl
              exact ⟨n - (i + 1) + 1, [(0, .sl 1000 am n cm), (1, .sl 1001 none 0 0), (5, .sl 970 _ (nA + nB) (nA + nB)), (21, .int .i64 (Int.ofNat n)), (22, .int .i64 (Int.ofNat (i + 1)))], (970, .gr _ (nA + nB) 23 1 (hd (rows ++ rows2))) :: (971, .fam 4 1 (rows ++ rows2)) :: (1000, .ro am n em 2 (mf lo hi)) :: (1001, .ro none 0 4 1 (nf (oD L))) :: rest, (addL ((Q + 1000) * (n - (i + 1)) + R) 300), 960, by omega, ⟨eqF_rfl _, eqF_rfl _, ⟨rfl, rfl⟩, eqF_rfl _, ⟨congrArg (Value.int .i64) (smn (i := i + 1) (by omega)), rfl⟩, trivial⟩, by exact WkM.swapR (WkM.famApp (i := 0) (j := 0) (Sel.wk (Sel.cons (pT (pT (pT (pT pH)))) (Sel.cons (pT (pT pH)) (Sel.consw pH ⟨rfl, rfl, rfl, rfl, hg7⟩ (Sel.drop Sel.all)))))), nM1, i + 1, _, _, (rows ++ rows2), by omega, by rw [hM]; exact hRows.app hRO, by rw [List.length_append, hrl, hlen2], rfl, rfl, rfl, rfl, rfl⟩
          · skip
            by_cases hB : (oL n lo hi k (L ++ [i])).length = 0
            · skip
              repeat' ((conv => whnf); first | refine eqS_rfl ?_ | refine eqA_rfl ?_ | refine eqA_of (by assumption) ?_ | refine eqS_of (by rfl) ?_ | refine eqL_rfl ?_ | refine eqJ_rfl ?_ | refine gE ?_ | refine seS_rfl ?_ | refine lsS_of hup ?_ | refine lsS_rfl ?_ | refine brS_tt ?_ | refine brS_ff ?_ | refine brS_not ?_ | refine gI ?_ | refine gT ?_ | refine gF ?_ | refine brS_intro (fun _ => ?_) (fun _ => ?_) | refine gL ?_ | refine gX ?_ | refine gO ?_ | refine gN ?_ | refine ltS_2 (by kernel_rfl) oM1 ?_ | refine ltS_1 (by kernel_rfl) oM1 ?_ | refine ltS_intro oM1 ?_ | refine emS_z oM1 ?_ | refine emS_p oM1 ?_ | refine orS_l oM2 ?_ | refine orS_l oM1 ?_ | refine orS_r oM1 ?_ | refine gE ?_ | refine callRows (kk _) (by rfl) (by exact WkM.trans (m2 := ((0, .gr _ (nL + 1) 3 1 (nf (oD (L ++ [i])))) :: (1000, .ro am n em 2 (mf lo hi)) :: (970, .gr a1 nA 23 1 (hd rows)) :: (971, .fam 4 1 rows) :: (1001, .ro ab nL 4 1 (nf (oD L))) :: rest)) WG WG) (nM1) ?_ | intro _)
              rename_i a2 rows2 nB hRO hlen2 hnB
              conv => whnf
              have hE : oL n lo hi k (L ++ [i]) = [] := List.eq_nil_of_length_eq_zero hB
              rw [hE, List.append_nil] at hM
              exact ⟨n - (i + 1) + 1, [(0, .sl 1000 am n cm), (1, .sl 1001 ab nL nL), (5, .sl 970 _ nA nA), (21, .int .i64 (Int.ofNat n)), (22, .int .i64 (Int.ofNat (i + 1)))], (970, .gr _ nA 23 1 (hd rows)) :: (971, .fam 4 1 rows) :: (1000, .ro am n em 2 (mf lo hi)) :: (1001, .ro ab nL 4 1 (nf (oD L))) :: rest, (addL ((Q + 1000) * (n - (i + 1)) + R) 300), 960, by omega, ⟨eqF_rfl _, eqF_rfl _, eqF_rfl _, eqF_rfl _, ⟨congrArg (Value.int .i64) (smn (i := i + 1) (by omega)), rfl⟩, trivial⟩, by exact WG, nM1, i + 1, _, _, rows, by omega, by rw [hM]; exact hRows, hrl, rfl, rfl, rfl, rfl, rfl⟩
            · skip
              repeat' ((conv => whnf); first | refine eqS_rfl ?_ | refine eqA_rfl ?_ | refine eqA_of (by assumption) ?_ | refine eqS_of (by rfl) ?_ | refine eqL_rfl ?_ | refine eqJ_rfl ?_ | refine gE ?_ | refine seS_rfl ?_ | refine lsS_of hup ?_ | refine lsS_rfl ?_ | refine brS_tt ?_ | refine brS_ff ?_ | refine brS_not ?_ | refine gI ?_ | refine gT ?_ | refine gF ?_ | refine brS_intro (fun _ => ?_) (fun _ => ?_) | refine gL ?_ | refine gX ?_ | refine gO ?_ | refine gN ?_ | refine ltS_2 (by kernel_rfl) oM1 ?_ | refine ltS_1 (by kernel_rfl) oM1 ?_ | refine ltS_intro oM1 ?_ | refine emS_z oM1 ?_ | refine emS_p oM1 ?_ | refine orS_l oM2 ?_ | refine orS_l oM1 ?_ | refine orS_r oM1 ?_ | refine gE ?_ | refine callRows (kk _) (by rfl) (by exact WkM.trans (m2 := ((0, .gr _ (nL + 1) 3 1 (nf (oD (L ++ [i])))) :: (1000, .ro am n em 2 (mf lo hi)) :: (970, .gr a1 nA 23 1 (hd rows)) :: (971, .fam 4 1 rows) :: (1001, .ro ab nL 4 1 (nf (oD L))) :: rest)) WG WG) (nM1) ?_ | intro _)
              rename_i a2 rows2 nB hRO hlen2 hnB a9
              conv => whnf
              have hg7 := hd_app (r1 := rows) (r2 := rows2) (n1 := nA) (n2 := nB) hrl
              exact ⟨n - (i + 1) + 1, [(0, .sl 1000 am n cm), (1, .sl 1001 ab nL nL), (5, .sl 970 _ (nA + nB) (nA + nB)), (21, .int .i64 (Int.ofNat n)), (22, .int .i64 (Int.ofNat (i + 1)))], (970, .gr _ (nA + nB) 23 1 (hd (rows ++ rows2))) :: (971, .fam 4 1 (rows ++ rows2)) :: (1000, .ro am n em 2 (mf lo hi)) :: (1001, .ro ab nL 4 1 (nf (oD L))) :: rest, (addL ((Q + 1000) * (n - (i + 1)) + R) 300), 960, by omega, ⟨eqF_rfl _, eqF_rfl _, ⟨rfl, rfl⟩, eqF_rfl _, ⟨congrArg (Value.int .i64) (smn (i := i + 1) (by omega)), rfl⟩, trivial⟩, by exact WkM.swapR (WkM.famApp (i := 0) (j := 0) (Sel.wk (Sel.cons (pT (pT (pT (pT pH)))) (Sel.cons (pT (pT pH)) (Sel.consw pH ⟨rfl, rfl, rfl, rfl, hg7⟩ (Sel.drop Sel.all)))))), nM1, i + 1, _, _, (rows ++ rows2), by omega, by rw [hM]; exact hRows.app hRO, by rw [List.length_append, hrl, hlen2], rfl, rfl, rfl, rfl, rfl⟩
    · have e2 : n = i := by omega
      subst e2
      have h1 := iLt_f (Nat.le_refl n)
      repeat' ((conv => whnf); first | refine eqS_rfl ?_ | refine eqA_rfl ?_ | refine eqA_of (by assumption) ?_ | refine eqS_of (by rfl) ?_ | refine eqL_rfl ?_ | refine eqJ_rfl ?_ | refine gE ?_ | refine seS_rfl ?_ | refine lsS_of hup ?_ | refine lsS_rfl ?_ | refine brS_tt ?_ | refine brS_ff ?_ | refine brS_not ?_ | refine gI ?_ | refine gT ?_ | refine gF ?_ | refine brS_intro (fun _ => ?_) (fun _ => ?_) | refine gL ?_ | refine gX ?_ | refine gO ?_ | refine gN ?_ | intro _)
      conv => whnf
      subst hrl
      exact ⟨nM1, a1, rows, hRows, rfl, by exact WG⟩
end Go.Proofs.Ytefnljdfgjjpjaa
