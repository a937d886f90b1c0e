/- RankAll: the law. -/
import Derived.Test.YtefnljdfgjjpjaaRaT
import Derived.KernelRfl
namespace Go.Proofs.Ytefnljdfgjjpjaa
open Go.Ab
attribute [local irreducible] aggOk drwOK
set_option maxRecDepth 100000
set_option maxHeartbeats 4000000
set_option linter.unusedVariables false
set_option linter.unusedSimpArgs false
theorem sees_fam {m : Mem} {i c sz : Nat} {l : List Row} {r : Row} (h : getM m i = some (.fam c sz l)) (hr : r ∈ l) : SeesE m (.ro r.1 r.2.1 c sz r.2.2.2) := fun X Z s0 R s hm => by
  have he := hm.get h r hr
  exact ⟨⟨he.1, he.2.imp_right fun ⟨b, p, h1, h2, _, h4⟩ => ⟨b, p, h1, h2, .inr (.inr trivial), h4⟩⟩, fun b hb => hb⟩
theorem c29 (F k : Nat) (hF : 200 < F) (a b : Option Addr) (n ca cb ea eb : Nat) (hn : n ≤ 60) (x : Nat → Nat) : ReadC (CL F (k + 1)) 29 [.sl 1000 a n ca, .sl 1001 b n cb] [(1000, .ro a n ea 1 (nf x)), (1001, .ro b n eb 1 (nf x))] (3000 + 100) (.bool true) := by
  have t1 : iEq (Int.ofNat n) (Int.ofNat n) = true := iEq_self _
  intro R
  rw [show 3000 + 100 = (3000) + 100 from rfl, addL_eq, ← Nat.add_assoc, ← addL_eq _ 100, Nat.add_comm R (3000)]
  refine call_in (n := 26) Try.func29 rfl rfl rfl rfl rfl rfl rfl ?_
  repeat' ((conv => whnf); first | refine eqS_rfl ?_ | refine eqA_rfl ?_ | refine eqA_of (by assumption) ?_ | refine eqS_of (by rfl) ?_ | refine eqL_rfl ?_ | refine eqJ_rfl ?_ | refine gE ?_ | refine seS_rfl ?_ | refine lsS_of hup ?_ | refine lsS_rfl ?_ | refine brS_tt ?_ | refine brS_ff ?_ | refine brS_not ?_ | refine gI ?_ | refine gT ?_ | refine gF ?_ | refine brS_intro (fun _ => ?_) (fun _ => ?_) | refine gL ?_ | refine gX ?_ | refine gO ?_ | refine gN ?_ | intro _)
  conv => whnf
  refine loS_i (fun jj f mm R' ni => ∃ j : Nat, j ≤ n ∧ jj = n - j + 1 ∧ f = [(0, .sl 1000 a n ca), (1, .sl 1001 b n cb), (5, .int .i64 (Int.ofNat j))] ∧ mm = [(1000, .ro a n ea 1 (nf x)), (1001, .ro b n eb 1 (nf x))] ∧ R' = (addL (40 * (n - j) + R) 40) ∧ ni = 10) (n + 1) (by omega)
    ⟨[(0, .sl 1000 a n ca), (1, .sl 1001 b n cb), (5, .int .i64 (Int.ofNat 0))], [(1000, .ro a n ea 1 (nf x)), (1001, .ro b n eb 1 (nf x))], (addL (40 * (n - 0) + R) 40), 10, ⟨eqF_rfl _, eqF_rfl _, eqF_rfl _, trivial⟩, WkM.refl _, nM1, 0, by omega, by omega, rfl, rfl, rfl, rfl⟩ ?_
  rintro _ _ _ _ _ ⟨j, hj, rfl, rfl, rfl, rfl, rfl⟩
  by_cases hlt : j < n
  · have h1 := iLt_t hlt
    repeat' ((conv => whnf); first | refine eqS_rfl ?_ | refine eqA_rfl ?_ | refine eqA_of (by assumption) ?_ | refine eqS_of (by rfl) ?_ | refine eqL_rfl ?_ | refine eqJ_rfl ?_ | refine gE ?_ | refine seS_rfl ?_ | refine lsS_of hup ?_ | refine lsS_rfl ?_ | refine brS_tt ?_ | refine brS_ff ?_ | refine brS_not ?_ | refine gI ?_ | refine gT ?_ | refine gF ?_ | refine brS_intro (fun _ => ?_) (fun _ => ?_) | refine gL ?_ | refine gX ?_ | refine gO ?_ | refine gN ?_ | intro _)
    conv => whnf
    exact ⟨n - (j + 1) + 1, [(0, .sl 1000 a n ca), (1, .sl 1001 b n cb), (5, .int .i64 (Int.ofNat (j + 1)))], _, (addL (40 * (n - (j + 1)) + R) 40), 10, by omega, ⟨eqF_rfl _, eqF_rfl _, ⟨congrArg (Value.int .i64) (smn (i := j + 1) (by omega)), rfl⟩, trivial⟩, WkM.refl _, nM1, j + 1, by omega, rfl, rfl, rfl, rfl, rfl⟩
  · have e2 : n = j := by omega
    subst e2
    have h1 := iLt_f (Nat.le_refl n)
    repeat' ((conv => whnf); first | refine eqS_rfl ?_ | refine eqA_rfl ?_ | refine eqA_of (by assumption) ?_ | refine eqS_of (by rfl) ?_ | refine eqL_rfl ?_ | refine eqJ_rfl ?_ | refine gE ?_ | refine seS_rfl ?_ | refine lsS_of hup ?_ | refine lsS_rfl ?_ | refine brS_tt ?_ | refine brS_ff ?_ | refine brS_not ?_ | refine gI ?_ | refine gT ?_ | refine gF ?_ | refine brS_intro (fun _ => ?_) (fun _ => ?_) | refine gL ?_ | refine gX ?_ | refine gO ?_ | refine gN ?_ | intro _)
    conv => whnf
    exact ⟨rfl, nM1⟩
theorem cst6 {n : Nat} (hn : n ≤ 5) : cst n n ≤ 4000000 := by
  match n, hn with
  | 0, _ => decide
  | 1, _ => decide
  | 2, _ => decide
  | 3, _ => decide
  | 4, _ => decide
  | 5, _ => decide
  | n + 6, h => omega
theorem cN6 {n : Nat} (hn : n ≤ 5) : cN n n ≤ 100000000 := by
  match n, hn with
  | 0, _ => decide
  | 1, _ => decide
  | 2, _ => decide
  | 3, _ => decide
  | 4, _ => decide
  | 5, _ => decide
  | n + 6, h => omega
theorem l7 (F d : Nat) (hF : 4000 < F) (aw : Option Addr) (nw ew cw : Nat) (w0 w1 : Nat → Nat) (hw0 : ∀ j, w0 j < 256) (hw1 : ∀ j, w1 j < 256) : ReadC (CL F (d + 60)) 7 [.sl 1000 aw nw cw] [(1000, .ro aw nw ew 2 fun j => [.int .u8 (Int.ofNat (w0 j)), .int .u8 (Int.ofNat (w1 j))])] (1000000000000 + 200) (.bool true) := by
  have hF2 : 200 < F := by omega
  have hT0 : 0 < mT nw := by unfold mT; split <;> omega
  have hT5 : mT nw ≤ 5 := by unfold mT; split <;> omega
  have k43 := fun a e c => c43 F (d + 57) 800 hF2 a nw e c w0 w1 hw0 hw1
  have hlh0 := mlh nw w0 w1
  generalize mT nw = T at k43 hT0 hT5
  generalize ml nw w0 = lo at k43 hlh0
  generalize mh nw w0 w1 = hi at k43 hlh0
  have hlh : ∀ j, j < T → lo j ≤ hi j ∧ hi j ≤ 100000 := fun j _ => ⟨(hlh0 j).1, by have := (hlh0 j).2; omega⟩
  have hlh1 : ∀ j, j < T → lo j ≤ hi j := fun j hj => (hlh j hj).1
  have hFo := stepF hT5 hlh1
  have hc6 := cst6 hT5
  have hN6 := cN6 hT5
  have hA := oL_all hT5 hlh1
  have hmem : ∀ o, o ∈ oL T lo hi T [] → o.length = T ∧ o.Nodup ∧ (∀ x, x ∈ o → x < T) ∧ rsP lo hi o := fun o ho => oL_mem T [] (by simp) List.nodup_nil (fun x hx => by cases hx) ho
  rw [hA] at hmem
  have hW0 : Wg T (fo fun z => bsF lo hi z T) 0 = (oC T (fo fun z => bsF lo hi z T) T 0).length := rfl
  have hWpos : 0 < (oC T (fo fun z => bsF lo hi z T) T 0).length := oC_ne hT5 hFo (Nat.pow_pos (by decide)) (by show 0 + T = T; omega)
  have hWle : (oC T (fo fun z => bsF lo hi z T) T 0).length ≤ 3125 := Nat.le_trans (oW_le T _ T 0) (pow5 hT5 hT5)
  have k44 := fun am R0 => c44 F hF2 am T 0 T lo hi hT0 hT5 hlh1 T [] 0 none [] R0 (d + 57 - T) rfl (by omega) List.nodup_nil (fun x hx => by cases hx) (fun _ => rfl)
  have k31 := fun am => c31 F (d + 52 - 3 * T) hF2 am T 0 T lo hi hT0 hT5 hlh hFo
  have k33 := fun am ao o ho hin hno => c33 F (d + 52 - 3 * T) hF2 am T 0 T lo hi hT0 hT5 hlh hFo ao 4 T o ho hin hno
  have k35 := fun am q LL hL st9 hrun hq => c35 F (d + 49 - 4 * T) 820 hF2 am T 0 T lo hi hT0 hT5 hlh hFo q LL hL st9 hrun hq
  have k35e := fun am x k56 => c35e F (d + 49 - 4 * T) hF2 am T 0 T lo hi hT0 hT5 hlh hFo x k56
  have k23 := fun am o ho hrun => c23 F (d + 54 - T) 810 hF2 am T 0 T lo hi hT0 hT5 hlh o ho hrun
  have k19 := fun am ao o ho hin hno => c19 F (d + 55) hF2 am T 0 T lo hi hT0 (by omega) hlh ao 4 T o ho hin hno
  have k29 := fun a b ea x => c29 F (d + 58) hF2 a b T T T ea 4 (by omega) x
  have kN := fun {k o} h => runN hT5 hFo (k := T) (g := 0) (q := k) (o := o) (Nat.pow_pos (by decide)) (by show 0 + T = T; omega) h
  have kF := fun {o} h => runF hT5 hFo (k := T) (g := 0) (o := o) (Nat.pow_pos (by decide)) (by show 0 + T = T; omega) h
  have kI := fun {k o} h => @nm_idx T (fo fun z => bsF lo hi z T) 0 T 0 k o h
  have kP := fun {o} ho => ps_nm (n := T) (f := fo fun z => bsF lo hi z T) (o := o) ho T (Nat.le_refl T)
  have k56 := fun x h => c56f F (d + 57) x (Wg T (fo fun z => bsF lo hi z T) 0) h
  have k56m := c56m F (d + 57) (Wg T (fo fun z => bsF lo hi z T) 0)
  rw [show d + 57 - T + T + 2 = d + 59 by omega, hA] at k44
  rw [show d + 52 - 3 * T + 3 * T + 7 = d + 59 by omega, hW0] at k31
  rw [show d + 52 - 3 * T + 3 * T + 7 = d + 59 by omega] at k33
  rw [show d + 49 - 4 * T + 4 * T + 10 = d + 59 by omega, hW0] at k35
  rw [show d + 49 - 4 * T + 4 * T + 10 = d + 59 by omega, show d + 49 - 4 * T + 4 * T + 9 = d + 57 + 1 by omega, hW0] at k35e
  rw [show d + 54 - T + T + 5 = d + 59 by omega] at k23
  rw [hW0] at k56 k56m
  obtain ⟨A, hAd⟩ : ∃ A, A = oC T (fo fun z => bsF lo hi z T) T 0 := ⟨_, rfl⟩
  rw [← hAd] at k44 k31 k35 k35e hmem hWpos hWle kN kF kI k56 k56m
  have kz := fun i => nm T (fo fun z => bsF lo hi z T) 0 i []
  obtain ⟨Q, hQ⟩ : ∃ Q, Q = cst T T := ⟨_, rfl⟩
  obtain ⟨N4, hN4⟩ : ∃ N4, N4 = cN T T := ⟨_, rfl⟩
  rw [← hQ] at hc6 k31 k33 k35 k35e
  rw [← hN4] at hN6 k44
  obtain ⟨C5, hC5⟩ : ∃ C5, C5 = ((Q + 800 + 60) * T + 300) * (T + 1) := ⟨_, rfl⟩
  have hC6 : C5 ≤ 121000000 := by
    have h1 := Nat.mul_le_mul (show Q + 800 + 60 ≤ 4000860 by omega) hT5
    have h2 := Nat.mul_le_mul (show (Q + 800 + 60) * T + 300 ≤ 20004600 by omega) (show T + 1 ≤ 6 by omega)
    omega
  rw [← hC5] at k35
  obtain ⟨o0, ho0⟩ : ∃ o0, A[0]? = some o0 := ⟨_, List.getElem?_eq_getElem hWpos⟩
  have hall : ∀ {k o}, A[k]? = some o → o.length = T ∧ (∀ j, j < T → oD o j < T) ∧ (∀ i j, i < T → j < T → oD o i = oD o j → i = j) ∧ (∀ p q, p < T → q < T → isF lo hi (oD o) p q = false) ∧ ps T (fo fun z => bsF lo hi z T) (oD o) T = k := fun {k o} hk => by
    obtain ⟨m1, m2, m3, m4⟩ := hmem o (List.mem_of_getElem? hk)
    have h1 := kP m1
    rw [Nat.sub_self, show nm T (fo fun z => bsF lo hi z T) 0 (stL (oD o) T) (o.drop T) = 0 by (cases o.drop T <;> rfl)] at h1
    exact ⟨m1, fun j hj => m3 _ (oD_mem (by omega)), fun i j hi hj e => oD_inj m2 (by omega) (by omega) e, fun p q hp hq => rsP_no m4 p q (by omega) (by omega), by rw [← kI hk]; omega⟩
  have hrow : ∀ {rows : List Row}, RO T A rows → ∀ {k o}, A[k]? = some o → ∃ b0 f0, (b0, T, T, f0) ∈ rows ∧ rows.getD k (none, 0, 0, fun _ => []) = (b0, T, T, f0) ∧ ∀ z, z < T → f0 z = nf (oD o) z := fun {rows} hR {k o} hk => by
    obtain ⟨⟨b0, n0, c0, f0⟩, q1, q2, q3, q4, q5⟩ := hR.get hk
    have q3 : n0 = T := q3
    have q4 : c0 = T := q4
    rw [q3, q4] at q1 q2
    exact ⟨b0, f0, q2, by rw [List.getD_eq_getElem?_getD, q1]; rfl, q5⟩
  obtain ⟨g1, _, _, _, _⟩ := hall ho0
  have k23 := fun am => k23 am o0 g1 (kF ho0)
  intro R
  rw [show 1000000000000 + 200 = (1000000000000) + 200 from rfl, addL_eq, ← Nat.add_assoc, ← addL_eq _ 200, Nat.add_comm R (1000000000000)]
  refine call_in (n := 116) Try.func7 rfl rfl rfl rfl rfl rfl rfl ?_
  repeat' ((conv => whnf); first | refine eqS_rfl ?_ | refine eqA_rfl ?_ | refine eqA_of (by assumption) ?_ | refine eqS_of (by rfl) ?_ | refine eqL_rfl ?_ | refine eqJ_rfl ?_ | refine gE ?_ | refine seS_rfl ?_ | refine lsS_of hup ?_ | refine lsS_rfl ?_ | refine brS_tt ?_ | refine brS_ff ?_ | refine brS_not ?_ | refine gI ?_ | refine gT ?_ | refine gF ?_ | refine brS_intro (fun _ => ?_) (fun _ => ?_) | refine gL ?_ | refine gX ?_ | refine gO ?_ | refine gN ?_ | refine callQM (k43 _ _ _) (addL (999000000000 + R) 150) (by rfl) (by exact SeesM.cons 1000 (sees_ro (i := 1000) (by rfl)) (SeesM.nil _) (fun _ _ _ _ _ _ x hx => by cases hx)) (nM1) ?_ | refine callRows (k44 _ (addL (998000000000 + R) 150)) (by rfl) (by exact (WkM.gr0 (i := 0) (e := 3) (sz := 1) (f := nf (oD [])) (WkM.refl _)).trans (Sel.wk (Sel.consw (pT pH) ⟨rfl, rfl, rfl, .inl rfl, fun _ _ => rfl⟩ (Sel.consw pH ⟨rfl, rfl, rfl, .inr rfl, fun _ _ => rfl⟩ (Sel.drop Sel.nil))))) (nM1) ?_ | intro _)
  rename_i am a9 rows nB hRO hrl hnB
  subst hnB
  obtain ⟨r0b, r0f, hrm, hrg, hrc⟩ := hrow hRO ho0
  have k29a := fun a5 => k29 a5 r0b 0 (oD o0)
  have tN : iLt (Int.ofNat A.length) 1 = false := iLt_f (a := A.length) (b := 1) hWpos
  repeat' ((conv => whnf); first | refine eqS_rfl ?_ | refine eqA_rfl ?_ | refine eqA_of (by assumption) ?_ | refine eqS_of (by rfl) ?_ | refine eqL_rfl ?_ | refine eqJ_rfl ?_ | refine gE ?_ | refine seS_rfl ?_ | refine lsS_of hup ?_ | refine lsS_rfl ?_ | refine brS_tt ?_ | refine brS_ff ?_ | refine brS_not ?_ | refine gI ?_ | refine gT ?_ | refine gF ?_ | refine brS_intro (fun _ => ?_) (fun _ => ?_) | refine gL ?_ | refine gX ?_ | refine gO ?_ | refine gN ?_ | refine call_readL (k31 am) (addL (997000000000 + R) 150) (by rfl) (by exact SeesM.cons 1000 (sees_ro (i := 1000) (by rfl)) (SeesM.nil _) (fun _ _ _ _ _ _ x hx => by cases hx)) (nM1) ?_ | refine callQE (k23 am) (addL (996000000000 + R) 150) (by rfl) (by exact SeesM.cons 1000 (sees_ro (i := 1000) (by rfl)) (SeesM.nil _) (fun _ _ _ _ _ _ x hx => by cases hx)) (nM1) ?_ | refine ixS_of (q := 0) rfl hWpos ?_ | refine call_readL (k29a _) (addL (995000000000 + R) 100) (by show [Value.slice _ _ _, Value.slice _ _ _] = [Value.slice _ _ _, Value.slice _ _ _]; rw [hrg]) (by exact SeesM.cons 1000 (sees_gr (i := 810) (by rfl)) (SeesM.cons 1001 (SeesE.ro_congr (sees_fam (i := 981) (by rfl) hrm) hrc) (SeesM.nil _) (fun _ _ _ _ _ _ x hx => by cases hx)) (fun _ _ _ _ _ _ x hx => by rcases List.mem_singleton.1 hx with rfl; exact fun _ h => h)) (nM1) ?_ | intro _)
  conv => whnf
  refine loS_i (fun jj f mm R' ni => ∃ k : Nat, k ≤ A.length ∧ jj = A.length - k + 1 ∧ f = [(3, .sl 800 am T T), (4, .sl 980 a9 A.length A.length), (5, .int .i64 (Int.ofNat A.length)), (53, .sl 980 a9 A.length A.length), (54, .int .i64 (Int.ofNat A.length)), (55, .int .i64 (Int.ofNat k))] ∧ mm = [(980, .gr a9 A.length 23 1 (hd rows)), (981, .fam 4 1 rows), (1000, .ro am T 0 2 (mf lo hi))] ∧ R' = (addL (300000000 * (A.length - k) + (300000000 + R)) 200) ∧ ni = 700) (A.length + 1) (by omega)
    ⟨[(3, .sl 800 am T T), (4, .sl 980 a9 A.length A.length), (5, .int .i64 (Int.ofNat A.length)), (53, .sl 980 a9 A.length A.length), (54, .int .i64 (Int.ofNat A.length)), (55, .int .i64 (Int.ofNat 0))], [(980, .gr a9 A.length 23 1 (hd rows)), (981, .fam 4 1 rows), (1000, .ro am T 0 2 (mf lo hi))], (addL (300000000 * (A.length - 0) + (300000000 + R)) 200), 700, ⟨eqF_rfl _, eqF_rfl _, eqF_rfl _, eqF_rfl _, eqF_rfl _, eqF_rfl _, trivial⟩, by exact WG, nM1, 0, by omega, by omega, rfl, rfl, rfl, rfl⟩ ?_
  rintro _ _ _ _ _ ⟨k, hk, rfl, rfl, rfl, rfl, rfl⟩
  by_cases hlt : k < A.length
  · have h1 := iLt_t hlt
    obtain ⟨o, hok⟩ : ∃ o, A[k]? = some o := ⟨_, List.getElem?_eq_getElem hlt⟩
    obtain ⟨q1, q2, q3, q4, q5⟩ := hall hok
    obtain ⟨rb, rf, hrm, hrg, hrc⟩ := hrow hRO hok
    obtain ⟨st9, hrun⟩ := kN hok
    have k33 := k33 am rb (oD o) q2 q3 q4
    rw [q5] at k33
    have k35 := k35 am k o q1 st9 hrun hlt
    have k19 := k19 am rb (oD o) q2 q3 q4
    have k29 := fun a5 => k29 a5 rb 0 (oD o)
    repeat' ((conv => whnf); first | refine eqS_rfl ?_ | refine eqA_rfl ?_ | refine eqA_of (by assumption) ?_ | refine eqS_of (by rfl) ?_ | refine eqL_rfl ?_ | refine eqJ_rfl ?_ | refine gE ?_ | refine seS_rfl ?_ | refine lsS_of hup ?_ | refine lsS_rfl ?_ | refine brS_tt ?_ | refine brS_ff ?_ | refine brS_not ?_ | refine gI ?_ | refine gT ?_ | refine gF ?_ | refine brS_intro (fun _ => ?_) (fun _ => ?_) | refine gL ?_ | refine gX ?_ | refine gO ?_ | refine gN ?_ | refine call_readL (k33) (addL (180000000 + (300000000 * (A.length - (k + 1)) + (300000000 + R))) 180) (by show [Value.slice _ _ _, Value.slice _ _ _] = [Value.slice _ _ _, Value.slice _ _ _]; rw [hrg]) (by exact SeesM.cons 1000 (sees_ro (i := 1000) (by rfl)) (SeesM.cons 1001 (SeesE.ro_congr (sees_fam (i := 981) (by rfl) hrm) hrc) (SeesM.nil _) (fun _ _ _ _ _ _ x hx => by cases hx)) (fun _ _ _ _ _ _ x hx => by rcases List.mem_singleton.1 hx with rfl; exact fun _ h => h)) (nM1) ?_ | refine callQE k35 (addL (20000000 + (300000000 * (A.length - (k + 1)) + (300000000 + R))) 170) (by rfl) (by exact SeesM.cons 1000 (sees_ro (i := 1000) (by rfl)) (SeesM.nil _) (fun _ _ _ _ _ _ x hx => by cases hx)) (nM1) ?_ | refine call_readL (k29 _) (addL (19000000 + (300000000 * (A.length - (k + 1)) + (300000000 + R))) 160) (by show [Value.slice _ _ _, Value.slice _ _ _] = [Value.slice _ _ _, Value.slice _ _ _]; rw [hrg]) (by exact SeesM.cons 1000 (sees_gr (i := 820) (by rfl)) (SeesM.cons 1001 (SeesE.ro_congr (sees_fam (i := 981) (by rfl) hrm) hrc) (SeesM.nil _) (fun _ _ _ _ _ _ x hx => by cases hx)) (fun _ _ _ _ _ _ x hx => by rcases List.mem_singleton.1 hx with rfl; exact fun _ h => h)) (nM1) ?_ | refine call_readL (k19) (addL (1000000 + (300000000 * (A.length - (k + 1)) + (300000000 + R))) 150) (by show [Value.slice _ _ _, Value.slice _ _ _] = [Value.slice _ _ _, Value.slice _ _ _]; rw [hrg]) (by exact SeesM.cons 1000 (sees_ro (i := 1000) (by rfl)) (SeesM.cons 1001 (SeesE.ro_congr (sees_fam (i := 981) (by rfl) hrm) hrc) (SeesM.nil _) (fun _ _ _ _ _ _ x hx => by cases hx)) (fun _ _ _ _ _ _ x hx => by rcases List.mem_singleton.1 hx with rfl; exact fun _ h => h)) (nM1) ?_ | intro _)
    conv => whnf
    exact ⟨A.length - (k + 1) + 1, [(3, .sl 800 am T T), (4, .sl 980 a9 A.length A.length), (5, .int .i64 (Int.ofNat A.length)), (53, .sl 980 a9 A.length A.length), (54, .int .i64 (Int.ofNat A.length)), (55, .int .i64 (Int.ofNat (k + 1)))], [(980, .gr a9 A.length 23 1 (hd rows)), (981, .fam 4 1 rows), (1000, .ro am T 0 2 (mf lo hi))], (addL (300000000 * (A.length - (k + 1)) + (300000000 + R)) 200), 700, by omega, ⟨eqF_rfl _, eqF_rfl _, eqF_rfl _, eqF_rfl _, eqF_rfl _, ⟨congrArg (Value.int .i64) (smn (i := k + 1) (by omega)), rfl⟩, trivial⟩, by exact WG, nM1, k + 1, by omega, rfl, rfl, rfl, rfl, rfl⟩
  · have e2 : k = A.length := by omega
    subst e2
    have h1 := iLt_f (Nat.le_refl A.length)
    have k35a := k35e am _ (k56 A.length (Nat.le_refl _))
    have k35b := k35e am _ k56m
    repeat' ((conv => whnf); first | refine eqS_rfl ?_ | refine eqA_rfl ?_ | refine eqA_of (by assumption) ?_ | refine eqS_of (by rfl) ?_ | refine eqL_rfl ?_ | refine eqJ_rfl ?_ | refine gE ?_ | refine seS_rfl ?_ | refine lsS_of hup ?_ | refine lsS_rfl ?_ | refine brS_tt ?_ | refine brS_ff ?_ | refine brS_not ?_ | refine gI ?_ | refine gT ?_ | refine gF ?_ | refine brS_intro (fun _ => ?_) (fun _ => ?_) | refine gL ?_ | refine gX ?_ | refine gO ?_ | refine gN ?_ | refine call_readL (k35a) (addL (200000000 + R) 150) (by rfl) (by exact SeesM.cons 1000 (sees_ro (i := 1000) (by rfl)) (SeesM.nil _) (fun _ _ _ _ _ _ x hx => by cases hx)) (nM1) ?_ | refine call_readL (k35b) (addL (100000000 + R) 100) (by rfl) (by exact SeesM.cons 1000 (sees_ro (i := 1000) (by rfl)) (SeesM.nil _) (fun _ _ _ _ _ _ x hx => by cases hx)) (nM1) ?_ | refine call_w rfl ?_ | intro _)
    conv => whnf
    exact ⟨rfl, nM1⟩
end Go.Proofs.Ytefnljdfgjjpjaa
