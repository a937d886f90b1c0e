/- CardTurns: the law. -/
import Derived.Test.YtogncjicndbahaaCmB
import Derived.KernelRfl
namespace Go.Proofs.Ytogncjicndbahaa
open Go.Ab
attribute [local irreducible] aggOk drwOK
set_option maxRecDepth 100000
set_option maxHeartbeats 4000000
set_option linter.unusedVariables false
set_option linter.unusedSimpArgs false
/-- a course counts 1 or -1 -/
def sgX (n : Nat) (h dv : Nat → Int) (m : Int) (x : Rat) : Int := if ((List.range n).any fun k => decide (0 < rs n h dv k) && decide (x ∈ csK n h dv m k)) = true then 1 else -1
def smS (n : Nat) (h dv : Nat → Int) (m : Int) : List Rat → Int
  | [] => 0
  | x :: l => sgX n h dv m x + smS n h dv m l
theorem smS_perm {n : Nat} {h dv : Nat → Int} {m : Int} {l l' : List Rat} (hp : l.Perm l') : smS n h dv m l = smS n h dv m l' := by
  induction hp with
  | nil => rfl
  | cons x _ ih => show sgX n h dv m x + _ = sgX n h dv m x + _; rw [ih]
  | swap x y l => show sgX n h dv m y + (sgX n h dv m x + _) = sgX n h dv m x + (sgX n h dv m y + _); omega
  | trans _ _ ih1 ih2 => rw [ih1, ih2]
theorem smS_app {n : Nat} {h dv : Nat → Int} {m : Int} (l l' : List Rat) : smS n h dv m (l ++ l') = smS n h dv m l + smS n h dv m l' := by
  induction l with
  | nil => show smS n h dv m l' = 0 + _; omega
  | cons x l ih => show sgX n h dv m x + smS n h dv m (l ++ l') = sgX n h dv m x + smS n h dv m l + _; rw [ih]; omega
theorem sgX_at {n : Nat} {h dv : Nat → Int} (hv : VC n h dv) {m : Int} (hm : 0 ≤ m ∧ m < 3600) {k : Nat} (hk : k < n) {x : Rat} (hx : x ∈ csK n h dv m k) : sgX n h dv m x = if 0 < rs n h dv k then 1 else -1 := by
  unfold sgX
  by_cases hr : 0 < rs n h dv k
  · rw [if_pos hr, if_pos]
    rw [List.any_eq_true]
    exact ⟨k, List.mem_range.2 hk, by rw [decide_eq_true hr, decide_eq_true hx]; rfl⟩
  · rw [if_neg hr, if_neg]
    intro ha
    obtain ⟨j, hj, hb⟩ := List.any_eq_true.1 ha
    rw [Bool.and_eq_true, decide_eq_true_eq, decide_eq_true_eq] at hb
    obtain ⟨w, c1⟩ := csI_of hv hm hk hx
    obtain ⟨v, c2⟩ := csI_of hv hm (List.mem_range.1 hj) hb.2
    have e := csU_same (csU_of hv hm hk c1) (csU_of hv hm (List.mem_range.1 hj) c2)
    rw [← e] at hb
    exact hr hb.1
theorem smS_const {n : Nat} {h dv : Nat → Int} {m : Int} {s : Int} : ∀ {l : List Rat}, (∀ x ∈ l, sgX n h dv m x = s) → smS n h dv m l = s * l.length
  | [], _ => by show (0 : Int) = s * (0 : Nat); simp
  | x :: l, hl => by
    show sgX n h dv m x + smS n h dv m l = _
    rw [hl x (by simp), smS_const fun y hy => hl y (by simp [hy]), List.length_cons]
    push_cast
    rw [Int.mul_add]; omega
/-- no point lies on the heading -/
def noV (n : Nat) (h dv : Nat → Int) (m : Int) : Prop := ∀ j, j < n → (h j + dv j - m) % 3600 ≠ 0
theorem noV_mS {n : Nat} {h dv : Nat → Int} {m : Int} (hn0 : 0 < n) (hN : noV n h dv m) (k : Nat) : (mS n h dv k - m) % 3600 ≠ 0 := by
  unfold mS
  split
  · rename_i hk; exact hN k hk
  · have := hN 0 hn0; omega
theorem smS_csA {n : Nat} {h dv : Nat → Int} (hv : VC n h dv) {m : Int} (hm : 0 ≤ m ∧ m < 3600) (hN : noV n h dv m) : ∀ k, k ≤ n → smS n h dv m (csA n h dv m k) = Fc m (mS n h dv k) - Fc m (mS n h dv 0)
  | 0, _ => by rw [Int.sub_self]; rfl
  | k + 1, hk => by
    have ih := smS_csA hv hm hN k (by omega)
    have hB := hv.sg (show k < n by omega)
    show smS n h dv m (csA n h dv m k ++ csK n h dv m k) = _
    have v1 := noV_mS hv.n0 hN k
    have v2 := noV_mS hv.n0 hN (k + 1)
    rw [mS_lt (show k < n by omega)] at v1
    rw [← mS_nx (show k < n by omega)] at v2
    rw [smS_app, ih, smS_const (s := if 0 < rs n h dv k then 1 else -1) fun x hx => sgX_at hv hm (show k < n by omega) hx, ← mS_nx (show k < n by omega), mS_lt (show k < n by omega)]
    unfold rs
    rcases Int.lt_trichotomy (nh n h k + nd n dv k - (h k + dv k)) 0 with h0 | h0 | h0
    · rw [if_neg (by omega)]
      have := cnt_neg hB hm h0
      unfold csK
      unfold Fc
      omega
    · rw [if_neg (by omega)]
      have := cnt_zero hB hm h0
      unfold csK
      unfold Fc
      omega
    · rw [if_pos h0]
      have := cnt_pos hB hm h0
      unfold csK
      unfold Fc at *
      omega
theorem smS_one {n : Nat} {h dv : Nat → Int} (hv : VC n h dv) {m : Int} (hm : 0 ≤ m ∧ m < 3600) (hN : noV n h dv m) {L : List Rat} (hp : L.Perm (csA n h dv m n)) : smS n h dv m L = 1 := by
  rw [smS_perm hp, smS_csA hv hm hN n (Nat.le_refl n), mS_lt hv.n0, show mS n h dv n = h 0 + dv 0 + 3600 from if_neg (Nat.lt_irrefl n)]
  unfold Fc
  omega
theorem noV_st {n : Nat} {h dv : Nat → Int} (hv : VC n h dv) {m : Int} (hN : noV n h dv m) : ¬ ∃ k, k < n ∧ stK n h dv m k := by
  rintro ⟨k, hk, _, hb⟩
  have := hN k hk
  unfold bkI at hb
  split at hb
  · omega
  · split at hb
    · omega
    · split at hb <;> omega
theorem smS_bd {n : Nat} {h dv : Nat → Int} {m : Int} : ∀ (l : List Rat), (smS n h dv m l).natAbs ≤ l.length
  | [] => Nat.le_refl 0
  | x :: l => by
    have := smS_bd (n := n) (h := h) (dv := dv) (m := m) l
    show (sgX n h dv m x + smS n h dv m l).natAbs ≤ _
    rw [List.length_cons]
    unfold sgX
    split <;> omega
theorem l4 (F d : Nat) (hF : 300 < F) (a : Option Addr) (N e c : Nat) (p0 p1 : Nat → Nat) (w : Nat) (hp0 : ∀ j, p0 j < 65536) (hp1 : ∀ j, p1 j < 65536) (hw : w < 256) (y : Nat) (hy : y < 65536) : ReadC (CL F (d + 10)) 4 [.agg [.sl 1000 a N c, .int .u8 (Int.ofNat w)], .int .u16 (Int.ofNat y)] [(1000, .ro a N e 2 fun j => [.int .u16 (Int.ofNat (p0 j)), .int .u16 (Int.ofNat (p1 j))])] (100000000 + 900) (.bool true) := by
  obtain ⟨n, en⟩ : ∃ n, n = rN N := ⟨_, rfl⟩
  obtain ⟨h, eh⟩ : ∃ h, h = rH N p0 := ⟨_, rfl⟩
  obtain ⟨dv, ed⟩ : ∃ dv, dv = rD N p1 w := ⟨_, rfl⟩
  have hv : VC n h dv := by rw [en, eh, ed]; exact rVC N p0 p1 w hw
  have hn5 : n ≤ 5 := by rw [en]; unfold rN; split <;> omega
  have hn0 := hv.n0
  obtain ⟨m, em⟩ : ∃ m : Int, m = ((y % 3600 : Nat) : Int) := ⟨_, rfl⟩
  have hm : 0 ≤ m ∧ m < 3600 := by rw [em]; have := Nat.mod_lt y (show 0 < 3600 by omega); omega
  have em2 : Int.tmod (wr .i64 (Int.ofNat y)) 3600 = m := by rw [smn (i := y) (by omega), em]; exact tmN y 3600
  intro R
  rw [show 100000000 + 900 = (100000000) + 900 from rfl, addL_eq, ← Nat.add_assoc, ← addL_eq _ 900, Nat.add_comm R (100000000)]
  refine call_in (n := 92) Try.func4 rfl rfl rfl rfl rfl rfl rfl ?_
  repeat' ((conv => whnf); first | refine eqS_rfl ?_ | refine eqA_rfl ?_ | refine eqA_of (by assumption) ?_ | refine eqS_of (by rfl) ?_ | refine eqL_rfl ?_ | refine eqJ_rfl ?_ | refine gE ?_ | refine seS_rfl ?_ | refine lsS_of hup ?_ | refine lsS_rfl ?_ | refine brS_tt ?_ | refine brS_ff ?_ | refine brS_not ?_ | refine gI ?_ | refine gT ?_ | refine gF ?_ | refine brS_intro (fun _ => ?_) (fun _ => ?_) | refine gL ?_ | refine gX ?_ | refine gO ?_ | refine gN ?_ | refine call11 F _ hF 600 a N e c p0 p1 w hp0 hp1 hw n h dv en eh ed (addL (90000000 + R) 900) (by rfl) (by exact SeesM.cons 1000 (sees_ro (i := 1000) (by rfl)) (SeesM.nil _) (fun _ _ _ _ _ _ x hx => by cases hx)) (nM1) ?_ | intro _)
  rename_i bx ac
  clear en eh ed
  conv => whnf
  refine loS_i (fun jj f mm R' ni => ∃ j : Nat, j ≤ n ∧ (∀ q, q < j → (h q + dv q - m) % 3600 ≠ 0) ∧ jj = n - j + 1 ∧ f = [(5, .sl 600 ac n n), (6, .int .i64 (m)), (23, .sl 600 ac n n), (24, .int .i64 (Int.ofNat n)), (25, .int .i64 (Int.ofNat j))] ∧ mm = [(600, .gr ac n 37 2 (fun j => [.int .i64 (h j), .int .i64 (dv j)]))] ∧ R' = (addL (200 * (n - j) + (40000000 + R)) 900) ∧ ni = 100) (n + 1) (by omega)
    ⟨[(5, .sl 600 ac n n), (6, .int .i64 (m)), (23, .sl 600 ac n n), (24, .int .i64 (Int.ofNat n)), (25, .int .i64 (Int.ofNat 0))], [(600, .gr ac n 37 2 (fun j => [.int .i64 (h j), .int .i64 (dv j)]))], (addL (200 * (n - 0) + (40000000 + R)) 900), 100, ⟨eqF_rfl _, ⟨congrArg (Value.int .i64) em2, rfl⟩, eqF_rfl _, eqF_rfl _, eqF_rfl _, trivial⟩, by exact WS, nM1, 0, by omega, fun q hq => absurd hq (Nat.not_lt_zero _), by omega, rfl, rfl, rfl, rfl⟩ ?_
  rintro _ _ _ _ _ ⟨j, hj, hbe, rfl, rfl, rfl, rfl, rfl⟩
  by_cases hlt : j < n
  · have t1 := iLt_t hlt
    have hh := hv.hb j hlt
    have hd := hv.db j hlt
    have e1 : wr .i64 (Int.sub (wr .i64 (Int.add (h j) (dv j))) m) = h j + dv j - m := by
      rw [show wr .i64 (Int.add (h j) (dv j)) = h j + dv j from smW (n := h j + dv j) (by omega)]
      exact smW (n := h j + dv j - m) (by omega)
    by_cases hvx : (h j + dv j - m) % 3600 = 0
    · have t2 : iEq (Int.tmod (wr .i64 (Int.sub (wr .i64 (Int.add (h j) (dv j))) m)) 3600) 0 = true := by rw [e1, tm_dvd]; exact decide_eq_true (Int.dvd_of_emod_eq_zero hvx)
      repeat' ((conv => whnf); first | refine eqS_rfl ?_ | refine eqA_rfl ?_ | refine eqA_of (by assumption) ?_ | refine eqS_of (by rfl) ?_ | refine eqL_rfl ?_ | refine eqJ_rfl ?_ | refine gE ?_ | refine seS_rfl ?_ | refine lsS_of hup ?_ | refine lsS_rfl ?_ | refine brS_tt ?_ | refine brS_ff ?_ | refine brS_not ?_ | refine gI ?_ | refine gT ?_ | refine gF ?_ | refine brS_intro (fun _ => ?_) (fun _ => ?_) | refine gL ?_ | refine gX ?_ | refine gO ?_ | refine gN ?_ | refine gM ?_ | refine gY ?_ | refine call_w rfl ?_ | intro _)
      conv => whnf
      exact ⟨rfl, nM1⟩
    · have t2 : iEq (Int.tmod (wr .i64 (Int.sub (wr .i64 (Int.add (h j) (dv j))) m)) 3600) 0 = false := by rw [e1, tm_dvd]; exact decide_eq_false fun hdv => hvx (Int.emod_eq_zero_of_dvd hdv)
      repeat' ((conv => whnf); first | refine eqS_rfl ?_ | refine eqA_rfl ?_ | refine eqA_of (by assumption) ?_ | refine eqS_of (by rfl) ?_ | refine eqL_rfl ?_ | refine eqJ_rfl ?_ | refine gE ?_ | refine seS_rfl ?_ | refine lsS_of hup ?_ | refine lsS_rfl ?_ | refine brS_tt ?_ | refine brS_ff ?_ | refine brS_not ?_ | refine gI ?_ | refine gT ?_ | refine gF ?_ | refine brS_intro (fun _ => ?_) (fun _ => ?_) | refine gL ?_ | refine gX ?_ | refine gO ?_ | refine gN ?_ | refine gM ?_ | refine gY ?_ | intro _)
      conv => whnf
      exact ⟨n - (j + 1) + 1, [(5, .sl 600 ac n n), (6, .int .i64 (m)), (23, .sl 600 ac n n), (24, .int .i64 (Int.ofNat n)), (25, .int .i64 (Int.ofNat (j + 1)))], _, (addL (200 * (n - (j + 1)) + (40000000 + R)) 900), 100, by omega, ⟨eqF_rfl _, eqF_rfl _, eqF_rfl _, eqF_rfl _, ⟨congrArg (Value.int .i64) (smn (i := j + 1) (by omega)), rfl⟩, trivial⟩, by exact WS, nM1, j + 1, by omega, fun q hq => by
        by_cases e : q = j
        · rw [e]; exact hvx
        · exact hbe q (by omega), rfl, rfl, rfl, rfl, rfl⟩
  · have e9 : j = n := by omega
    subst e9
    have t1 := iLt_f (Nat.le_refl j)
    have hst := noV_st hv hbe
    have h12 : (csA j h dv m j).length ≤ 12 := by have := csA_len j h dv m j; omega
    repeat' ((conv => whnf); first | refine eqS_rfl ?_ | refine eqA_rfl ?_ | refine eqA_of (by assumption) ?_ | refine eqS_of (by rfl) ?_ | refine eqL_rfl ?_ | refine eqJ_rfl ?_ | refine gE ?_ | refine seS_rfl ?_ | refine lsS_of hup ?_ | refine lsS_rfl ?_ | refine brS_tt ?_ | refine brS_ff ?_ | refine brS_not ?_ | refine gI ?_ | refine gT ?_ | refine gF ?_ | refine brS_intro (fun _ => ?_) (fun _ => ?_) | refine gL ?_ | refine gX ?_ | refine gO ?_ | refine gN ?_ | refine gM ?_ | refine gY ?_ | refine call12 F d hF 602 ac j 0 j h dv hv m hm hst h12 (addL (3000000 + R) 900) (by rfl) (by exact SeesM.cons 1000 (sees_gr (i := 600) (by rfl)) (SeesM.nil _) (fun _ _ _ _ _ _ x hx => by cases hx)) (nM1) ?_ | intro _)
    rename_i aL L2 hp hS
    have hl10 : L2.length ≤ 12 := by rw [hp.length_eq]; exact h12
    conv => whnf
    refine loS_i (fun jj f mm R' ni => ∃ i : Nat, i ≤ L2.length ∧ jj = L2.length - i + 1 ∧ f = [(5, .sl 600 ac j j), (11, .int .i64 (smS j h dv m (L2.take i))), (48, .sl 602 aL L2.length L2.length), (49, .int .i64 (Int.ofNat L2.length)), (50, .int .i64 (Int.ofNat i))] ∧ mm = [(602, .gr aL L2.length 42 2 (fRL L2)), (600, .gr ac j 37 2 (fun j => [.int .i64 (h j), .int .i64 (dv j)]))] ∧ R' = (addL (100000 * (L2.length - i) + R) 900) ∧ ni = 100) (L2.length + 1) (by omega)
      ⟨[(5, .sl 600 ac j j), (11, .int .i64 (smS j h dv m (L2.take 0))), (48, .sl 602 aL L2.length L2.length), (49, .int .i64 (Int.ofNat L2.length)), (50, .int .i64 (Int.ofNat 0))], [(602, .gr aL L2.length 42 2 (fRL L2)), (600, .gr ac j 37 2 (fun j => [.int .i64 (h j), .int .i64 (dv j)]))], (addL (100000 * (L2.length - 0) + R) 900), 100, ⟨eqF_rfl _, eqF_rfl _, eqF_rfl _, eqF_rfl _, eqF_rfl _, trivial⟩, by exact WS, nM1, 0, by omega, by omega, rfl, rfl, rfl, rfl⟩ ?_
    rintro _ _ _ _ _ ⟨i, hi, rfl, rfl, rfl, rfl, rfl⟩
    by_cases hil : i < L2.length
    · have u1 := iLt_t hil
      obtain ⟨v1, v2, v3⟩ := at_bd hv hm hp hil
      obtain ⟨k, w1, hk, hmem, cI, cU⟩ := at_seg hv hm hp hil
      have hd := (L2.getD i 0).den_pos
      have hd2 := v1.d
      have n0 : 0 ≤ (L2.getD i 0).num := Rat.num_nonneg.2 v2
      have n1 : (L2.getD i 0).num < 3600 * ((L2.getD i 0).den : Int) := lt_iff_num.1 v3
      have k16 := c16 F (d + 8) _ v1 v2 v3
      have k17 := c17 F (d + 7) hF ac j 0 j h dv hv (L2.getD i 0).num (L2.getD i 0).den _ rfl (by omega) ⟨n0, n1⟩ k hk cU.hi cU.be
      have hB := hv.sg hk
      have b1 := hB.h
      have b2 := hB.l
      have b3 := hB.d
      have b4 := hB.e
      have eA : wr .i64 (Int.add (h k) (dv k)) = h k + dv k := smW (n := h k + dv k) (by omega)
      have eB : wr .i64 (Int.add (nh j h k) (nd j dv k)) = nh j h k + nd j dv k := smW (n := nh j h k + nd j dv k) (by omega)
      have hsb := smS_bd (n := j) (h := h) (dv := dv) (m := m) (L2.take i)
      have htl : (L2.take i).length ≤ 12 := by rw [List.length_take]; omega
      have hsn : smS j h dv m (L2.take (i + 1)) = smS j h dv m (L2.take i) + sgX j h dv m (L2.getD i 0) := by rw [take_snoc hil, smS_app]; show _ + (sgX j h dv m _ + 0) = _; omega
      rw [sgX_at hv hm hk hmem] at hsn
      have u3 : iLt (Int.ofNat k) 0 = false := iLt_0 k
      by_cases hr : 0 < rs j h dv k
      · have u2 : iLt (wr .i64 (Int.add (h k) (dv k))) (wr .i64 (Int.add (nh j h k) (nd j dv k))) = true := by rw [eA, eB]; unfold rs at hr; exact ltT (by omega)
        rw [if_pos hr] at hsn
        have e5 : wr .i64 (Int.add (smS j h dv m (L2.take i)) 1) = smS j h dv m (L2.take (i + 1)) := by rw [hsn]; exact smW (n := smS j h dv m (L2.take i) + 1) (by omega)
        repeat' ((conv => whnf); first | refine eqS_rfl ?_ | refine eqA_rfl ?_ | refine eqA_of (by assumption) ?_ | refine eqS_of (by rfl) ?_ | refine eqL_rfl ?_ | refine eqJ_rfl ?_ | refine gE ?_ | refine seS_rfl ?_ | refine lsS_of hup ?_ | refine lsS_rfl ?_ | refine brS_tt ?_ | refine brS_ff ?_ | refine brS_not ?_ | refine gI ?_ | refine gT ?_ | refine gF ?_ | refine brS_intro (fun _ => ?_) (fun _ => ?_) | refine gL ?_ | refine gX ?_ | refine gO ?_ | refine gN ?_ | refine gM ?_ | refine gY ?_ | refine call_pure k16 ?_ | refine call_readL k17 (addL (50000 + (100000 * (L2.length - (i + 1)) + R)) 900) (by rfl) (by exact SeesM.cons 1000 (sees_gr (i := 600) (by rfl)) (SeesM.nil _) (fun _ _ _ _ _ _ x hx => by cases hx)) (nM1) ?_ | refine call_readL (c14 F (d + 8) ac j 0 j h dv hv k hk) (addL (20000 + (100000 * (L2.length - (i + 1)) + R)) 900) (by rfl) (by exact SeesM.cons 1000 (sees_gr (i := 600) (by rfl)) (SeesM.nil _) (fun _ _ _ _ _ _ x hx => by cases hx)) (nM1) ?_ | intro _)
        conv => whnf
        exact ⟨L2.length - (i + 1) + 1, [(5, .sl 600 ac j j), (11, .int .i64 (smS j h dv m (L2.take (i + 1)))), (48, .sl 602 aL L2.length L2.length), (49, .int .i64 (Int.ofNat L2.length)), (50, .int .i64 (Int.ofNat (i + 1)))], [(602, .gr aL L2.length 42 2 (fRL L2)), (600, .gr ac j 37 2 (fun j => [.int .i64 (h j), .int .i64 (dv j)]))], (addL (100000 * (L2.length - (i + 1)) + R) 900), 100, by omega, ⟨eqF_rfl _, ⟨congrArg (Value.int .i64) e5, rfl⟩, eqF_rfl _, eqF_rfl _, ⟨congrArg (Value.int .i64) (smn (i := i + 1) (by omega)), rfl⟩, trivial⟩, by exact WS, nM1, i + 1, by omega, rfl, rfl, rfl, rfl, rfl⟩
      · have u2 : iLt (wr .i64 (Int.add (h k) (dv k))) (wr .i64 (Int.add (nh j h k) (nd j dv k))) = false := by rw [eA, eB]; unfold rs at hr; exact ltF (by omega)
        rw [if_neg hr] at hsn
        have e5 : wr .i64 (Int.sub (smS j h dv m (L2.take i)) 1) = smS j h dv m (L2.take (i + 1)) := by rw [hsn]; exact (smW (n := smS j h dv m (L2.take i) - 1) (by omega)).trans (by omega)
        repeat' ((conv => whnf); first | refine eqS_rfl ?_ | refine eqA_rfl ?_ | refine eqA_of (by assumption) ?_ | refine eqS_of (by rfl) ?_ | refine eqL_rfl ?_ | refine eqJ_rfl ?_ | refine gE ?_ | refine seS_rfl ?_ | refine lsS_of hup ?_ | refine lsS_rfl ?_ | refine brS_tt ?_ | refine brS_ff ?_ | refine brS_not ?_ | refine gI ?_ | refine gT ?_ | refine gF ?_ | refine brS_intro (fun _ => ?_) (fun _ => ?_) | refine gL ?_ | refine gX ?_ | refine gO ?_ | refine gN ?_ | refine gM ?_ | refine gY ?_ | refine call_pure k16 ?_ | refine call_readL k17 (addL (50000 + (100000 * (L2.length - (i + 1)) + R)) 900) (by rfl) (by exact SeesM.cons 1000 (sees_gr (i := 600) (by rfl)) (SeesM.nil _) (fun _ _ _ _ _ _ x hx => by cases hx)) (nM1) ?_ | refine call_readL (c14 F (d + 8) ac j 0 j h dv hv k hk) (addL (20000 + (100000 * (L2.length - (i + 1)) + R)) 900) (by rfl) (by exact SeesM.cons 1000 (sees_gr (i := 600) (by rfl)) (SeesM.nil _) (fun _ _ _ _ _ _ x hx => by cases hx)) (nM1) ?_ | intro _)
        conv => whnf
        exact ⟨L2.length - (i + 1) + 1, [(5, .sl 600 ac j j), (11, .int .i64 (smS j h dv m (L2.take (i + 1)))), (48, .sl 602 aL L2.length L2.length), (49, .int .i64 (Int.ofNat L2.length)), (50, .int .i64 (Int.ofNat (i + 1)))], [(602, .gr aL L2.length 42 2 (fRL L2)), (600, .gr ac j 37 2 (fun j => [.int .i64 (h j), .int .i64 (dv j)]))], (addL (100000 * (L2.length - (i + 1)) + R) 900), 100, by omega, ⟨eqF_rfl _, ⟨congrArg (Value.int .i64) e5, rfl⟩, eqF_rfl _, eqF_rfl _, ⟨congrArg (Value.int .i64) (smn (i := i + 1) (by omega)), rfl⟩, trivial⟩, by exact WS, nM1, i + 1, by omega, rfl, rfl, rfl, rfl, rfl⟩
    · have e8 : i = L2.length := by omega
      subst e8
      have u1 := iLt_f (Nat.le_refl L2.length)
      have u2 : iEq (smS j h dv m (L2.take L2.length)) 1 = true := by rw [List.take_length]; exact eqT (smS_one hv hm hbe hp)
      repeat' ((conv => whnf); first | refine eqS_rfl ?_ | refine eqA_rfl ?_ | refine eqA_of (by assumption) ?_ | refine eqS_of (by rfl) ?_ | refine eqL_rfl ?_ | refine eqJ_rfl ?_ | refine gE ?_ | refine seS_rfl ?_ | refine lsS_of hup ?_ | refine lsS_rfl ?_ | refine brS_tt ?_ | refine brS_ff ?_ | refine brS_not ?_ | refine gI ?_ | refine gT ?_ | refine gF ?_ | refine brS_intro (fun _ => ?_) (fun _ => ?_) | refine gL ?_ | refine gX ?_ | refine gO ?_ | refine gN ?_ | refine gM ?_ | refine gY ?_ | refine call_w rfl ?_ | intro _)
      conv => whnf
      exact ⟨rfl, nM1⟩
end Go.Proofs.Ytogncjicndbahaa
