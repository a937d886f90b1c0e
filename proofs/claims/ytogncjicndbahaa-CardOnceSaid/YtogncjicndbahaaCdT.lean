/- CardOnce: the law, where no segment stays. -/
import Derived.Test.YtogncjicndbahaaCdS
import Derived.KernelRfl
namespace Go.Proofs.Ytogncjicndbahaa
open Go.Ab
attribute [local irreducible] aggOk drwOK
set_option maxRecDepth 100000
set_option maxHeartbeats 4000000
set_option linter.unusedVariables false
set_option linter.unusedSimpArgs false
theorem cu_bd {n : Nat} {h dv : Nat → Int} (hv : VC n h dv) {k : Nat} (hk : k < n) {D0 N0 : Int} (hD : 0 < D0 ∧ D0 ≤ 6000) (hN : 0 ≤ N0 ∧ N0 < 3600 * D0) : 0 < cuY n h D0 k ∧ cuY n h D0 k ≤ 100000000000000 ∧ (cuX n h dv (cuU h N0 D0) D0 k).natAbs ≤ 1000000000000000000 := by
  have hh := hv.hb k hk
  have hd := hv.db k hk
  have hl := nh_gt hv hk
  have hd2 := nd_bd hv k
  have hu : 0 ≤ cuU h N0 D0 ∧ cuU h N0 D0 < 7200 * D0 := by unfold cuU; split <;> omega
  unfold cuY cuX
  generalize cuU h N0 D0 = u at *
  generalize hl9 : nh n h k - h k = l at *
  have n3 : (u * l).natAbs ≤ 43200000 * 3600 := nab_mul (by omega) (by omega)
  have n4 : (dv k * l).natAbs ≤ 900 * 3600 := nab_mul (by omega) (by omega)
  have n5 : (dv k * l * D0).natAbs ≤ 900 * 3600 * 6000 := nab_mul n4 (by omega)
  have n8 : (h k * D0).natAbs ≤ 3600 * 6000 := nab_mul (by omega) (by omega)
  have n10 : ((nd n dv k - dv k) * (u - h k * D0)).natAbs ≤ 1800 * 64800000 := nab_mul (by omega) (by omega)
  have n11 : (l * D0).natAbs ≤ 3600 * 6000 := nab_mul (by omega) (by omega)
  have n12 : 0 < l * D0 := Int.mul_pos (by omega) hD.1
  exact ⟨n12, by omega, by omega⟩
theorem l3n (F d : Nat) (hF : 300 < F) (a : Option Addr) (N e c : Nat) (p0 p1 : Nat → Nat) (w : Nat) (hp0 : ∀ j, p0 j < 65536) (hp1 : ∀ j, p1 j < 65536) (hw : w < 256) (y : Nat) (hy : y < 65536) (n : Nat) (h dv : Nat → Int) (en : n = rN N) (eh : h = rH N p0) (ed : dv = rD N p1 w) (hv : VC n h dv) (hn5 : n ≤ 5) (m : Int) (hm : 0 ≤ m ∧ m < 3600) (em2 : Int.tmod (wr .i64 (Int.ofNat y)) 3600 = m) (hst : ¬ ∃ k, k < n ∧ stK n h dv m k) : ReadC (CL F (d + 10)) 3 [.agg [.sl 1000 a N c, .int .u8 (Int.ofNat w)], .int .u16 (Int.ofNat y)] [(1000, .ro a N e 2 fun j => [.int .u16 (Int.ofNat (p0 j)), .int .u16 (Int.ofNat (p1 j))])] (500000000 + 900) (.bool true) := by
  have h12 : (csA n h dv m n).length ≤ 12 := by have := csA_len n h dv m n; omega
  intro R
  rw [show 500000000 + 900 = (500000000) + 900 from rfl, addL_eq, ← Nat.add_assoc, ← addL_eq _ 900, Nat.add_comm R (500000000)]
  refine call_in (n := 244) Try.func3 rfl rfl rfl rfl rfl rfl rfl ?_
  repeat' ((conv => whnf); first | refine eqS_rfl ?_ | refine eqA_rfl ?_ | refine eqA_of (by assumption) ?_ | refine eqS_of (by rfl) ?_ | refine eqL_rfl ?_ | refine eqJ_rfl ?_ | refine gE ?_ | refine seS_rfl ?_ | refine lsS_of hup ?_ | refine lsS_rfl ?_ | refine brS_tt ?_ | refine brS_ff ?_ | refine brS_not ?_ | refine gI ?_ | refine gT ?_ | refine gF ?_ | refine brS_intro (fun _ => ?_) (fun _ => ?_) | refine gL ?_ | refine gX ?_ | refine gO ?_ | refine gN ?_ | refine call11 F _ hF 600 a N e c p0 p1 w hp0 hp1 hw n h dv en eh ed (addL (470000000 + R) 900) (by rfl) (by exact SeesM.cons 1000 (sees_ro (i := 1000) (by rfl)) (SeesM.nil _) (fun _ _ _ _ _ _ x hx => by cases hx)) (nM1) ?_ | refine call12 F d hF 602 _ n 0 n h dv hv m hm hst h12 (addL (400000000 + R) 900) (by rw [em2]; rfl) (by exact SeesM.cons 1000 (sees_gr (i := 600) (by rfl)) (SeesM.nil _) (fun _ _ _ _ _ _ x hx => by cases hx)) (nM1) ?_ | refine call13 F (d + 3) hF 603 _ n 0 n h dv hv (addL (300000000 + R) 900) (by rfl) (by exact SeesM.cons 1000 (sees_gr (i := 600) (by rfl)) (SeesM.nil _) (fun _ _ _ _ _ _ x hx => by cases hx)) (nM1) ?_ | intro _)
  rename_i bx ac aL L2 hp hS aF
  clear en eh ed
  have z1 : iEq 0 0 = true := iEq_self _
  have z2 : iEq 16 16 = true := iEq_self _
  have z3 : iEq 0 16 = false := eqFa (by omega)
  have z4 : iEq 16 0 = false := eqFa (by omega)
  conv => whnf
  refine loS_i (fun jj f mm R' ni => ∃ (i cn kf : Nat) (fl : Bool), i ≤ n ∧ cn = (csA n h dv m i).length ∧ kf = (foL n h dv i).length ∧ fl = stA n h dv m i ∧ jj = n - i + 1 ∧ f = [(5, .sl 600 ac n n), (6, .int .i64 (m)), (7, (.sl 602 aL L2.length L2.length)), (8, .int .i64 (0)), (9, .sl 603 aF (foL n h dv n).length (foL n h dv n).length), (10, .int .i64 (0)), (11, .int .i64 (Int.ofNat cn)), (12, .bool fl), (13, .int .i64 (Int.ofNat kf)), (44, .sl 600 ac n n), (45, .int .i64 (Int.ofNat n)), (46, .int .i64 (Int.ofNat i))] ∧ mm = [(600, .gr ac n 37 2 (fun j => [.int .i64 (h j), .int .i64 (dv j)])), (603, .gr aF (foL n h dv n).length 3 1 (nfL (foL n h dv n))), (602, .gr aL L2.length 42 2 (fRL L2))] ∧ R' = (addL (40000000 * (n - i) + (2000000 + R)) 900) ∧ ni = 100) (n + 1) (by omega)
    ⟨[(5, .sl 600 ac n n), (6, .int .i64 (m)), (7, (.sl 602 aL L2.length L2.length)), (8, .int .i64 (0)), (9, .sl 603 aF (foL n h dv n).length (foL n h dv n).length), (10, .int .i64 (0)), (11, .int .i64 (Int.ofNat 0)), (12, .bool false), (13, .int .i64 (Int.ofNat 0)), (44, .sl 600 ac n n), (45, .int .i64 (Int.ofNat n)), (46, .int .i64 (Int.ofNat 0))], [(600, .gr ac n 37 2 (fun j => [.int .i64 (h j), .int .i64 (dv j)])), (603, .gr aF (foL n h dv n).length 3 1 (nfL (foL n h dv n))), (602, .gr aL L2.length 42 2 (fRL L2))], (addL (40000000 * (n - 0) + (2000000 + R)) 900), 100, ⟨eqF_rfl _, ⟨congrArg (Value.int .i64) em2, rfl⟩, eqF_rfl _, eqF_rfl _, eqF_rfl _, eqF_rfl _, eqF_rfl _, eqF_rfl _, eqF_rfl _, eqF_rfl _, eqF_rfl _, eqF_rfl _, trivial⟩, by exact WS, nM1, 0, 0, 0, false, by omega, rfl, rfl, rfl, by omega, rfl, rfl, rfl, rfl⟩ ?_
  rintro _ _ _ _ _ ⟨i, cn, kf, fl, hi, hcn, hkf, hfl, rfl, rfl, rfl, rfl, rfl⟩
  have hcl2 := csA_len n h dv m i
  have hfl2' := foL_len n h dv i
  by_cases hlt : i < n
  · have t1 := iLt_t hlt
    have hB := hv.sg hlt
    have b1 := hB.h
    have b2 := hB.l
    have b3 := hB.d
    have b4 := hB.e
    obtain ⟨fr, hfr⟩ : ∃ fr, fr = h i + dv i := ⟨_, rfl⟩
    obtain ⟨to, hto⟩ : ∃ to, to = nh n h i + nd n dv i := ⟨_, rfl⟩
    have eA : wr .i64 (Int.add (h i) (dv i)) = fr := (smW (n := h i + dv i) (by omega)).trans hfr.symm
    have eB : wr .i64 (Int.add (nh n h i) (nd n dv i)) = to := (smW (n := nh n h i + nd n dv i) (by omega)).trans hto.symm
    have hrs : rs n h dv i = to - fr := by rw [hfr, hto]; rfl
    have hcT5 : cT fr to m 5 = (csK n h dv m i).length := by rw [hfr, hto]; exact cT5 hB hm
    have hfT5 : fT fr to m 5 = decide (stK n h dv m i) := by rw [hfr, hto, fT5 hB hm]; exact decide_eq_decide.2 Iff.rfl
    by_cases hr : rs n h dv i ≤ 0
    · have t2 : iLt (wr .i64 (Int.add (h i) (dv i))) (wr .i64 (Int.add (nh n h i) (nd n dv i))) = false := by rw [eA, eB]; exact ltF (by omega)
      obtain ⟨f1, f2⟩ := foL_at hlt hr
      rw [← hkf] at f1 f2
      have t3 := iLt_t f1
      have t4 : iEq (Int.ofNat ((foL n h dv n).getD kf 0)) (Int.ofNat i) = true := by rw [f2]; exact iEq_self _
      have hk1 : kf + 1 = (foL n h dv (i + 1)).length := by rw [foL_t hr, List.length_append, hkf]; rfl
      obtain ⟨r, hr0⟩ : ∃ r, r = fr % 3600 := ⟨_, rfl⟩
      have hrb : 0 ≤ r ∧ r < 3600 := by omega
      have eR : Int.tmod (wr .i64 (Int.add (Int.tmod (wr .i64 (Int.add (h i) (dv i))) 3600) 3600)) 3600 = r := by
        rw [eA]
        have q1 := Int.tmod_add_mul_tdiv fr 3600
        have q2 : -3600 < Int.tmod fr 3600 := Int.lt_tmod_of_pos fr (by omega)
        have q3 : Int.tmod fr 3600 < 3600 := Int.tmod_lt_of_pos fr (by omega)
        rw [show wr .i64 (Int.add (Int.tmod fr 3600) 3600) = Int.tmod fr 3600 + 3600 from smW (n := Int.tmod fr 3600 + 3600) (by omega), Int.tmod_eq_emod_of_nonneg (by omega)]
        omega
      by_cases h0 : rs n h dv i = 0
      · have t5 : iEq (wr .i64 (Int.add (h i) (dv i))) (wr .i64 (Int.add (nh n h i) (nd n dv i))) = true := by rw [eA, eB]; exact eqT (by omega)
        have t6 : iLt (wr .i64 (Int.add (nh n h i) (nd n dv i))) (wr .i64 (Int.add (h i) (dv i))) = false := by rw [eA, eB]; exact ltF (by omega)
        have hsr : ∃ k, k < n ∧ stK n h dv r k := ⟨i, hlt, h0, by unfold bkI; split <;> (try split) <;> (try split) <;> omega⟩
        repeat' ((conv => whnf); first | refine eqS_rfl ?_ | refine eqA_rfl ?_ | refine eqA_of (by assumption) ?_ | refine eqS_of (by rfl) ?_ | refine eqL_rfl ?_ | refine eqJ_rfl ?_ | refine gE ?_ | refine seS_rfl ?_ | refine lsS_of hup ?_ | refine lsS_rfl ?_ | refine brS_tt ?_ | refine brS_ff ?_ | refine brS_not ?_ | refine gI ?_ | refine gT ?_ | refine gF ?_ | refine brS_intro (fun _ => ?_) (fun _ => ?_) | refine gL ?_ | refine gX ?_ | refine gO ?_ | refine gN ?_ | refine gM ?_ | refine gY ?_ | refine call_readL (c14 F (d + 8) ac n 0 n h dv hv i hlt) (addL (35000000 + (40000000 * (n - (i + 1)) + (2000000 + R))) 900) (by rfl) (by exact SeesM.cons 1000 (sees_gr (i := 600) (by rfl)) (SeesM.nil _) (fun _ _ _ _ _ _ x hx => by cases hx)) (nM1) ?_ | refine call_readL (c12s F d hF ac n 0 n h dv hv r hrb hsr) (addL (1000 + (40000000 * (n - (i + 1)) + (2000000 + R))) 900) (by rw [eR]; rfl) (by exact SeesM.cons 1000 (sees_gr (i := 600) (by rfl)) (SeesM.nil _) (fun _ _ _ _ _ _ x hx => by cases hx)) (nM1) ?_ | intro _)
        conv => whnf
        refine loS_i (fun jj f mm R' ni => ∃ (t c2 : Nat) (fl : Bool), t ≤ 5 ∧ c2 = (csA n h dv m i).length + cT fr to m t ∧ fl = (stA n h dv m i || fT fr to m t) ∧ jj = 6 - t ∧ f = [(5, .sl 600 ac n n), (6, .int .i64 (m)), (7, (.sl 602 aL L2.length L2.length)), (8, .int .i64 (0)), (9, .sl 603 aF (foL n h dv n).length (foL n h dv n).length), (10, .int .i64 (0)), (11, .int .i64 (Int.ofNat c2)), (12, .bool fl), (13, .int .i64 (Int.ofNat (kf + 1))), (44, .sl 600 ac n n), (45, .int .i64 (Int.ofNat n)), (46, .int .i64 (Int.ofNat i)), (14, .int .i64 (Int.ofNat i)), (17, .int .i64 (fr)), (18, .int .i64 (to)), (22, .int .i64 ((t : Nat) - 2))] ∧ mm = [(600, .gr ac n 37 2 (fun j => [.int .i64 (h j), .int .i64 (dv j)])), (603, .gr aF (foL n h dv n).length 3 1 (nfL (foL n h dv n))), (602, .gr aL L2.length 42 2 (fRL L2))] ∧ R' = (addL (100 * (5 - t) + (40000000 * (n - (i + 1)) + (2000000 + R))) 900) ∧ ni = 100) 6 (by omega)
          ⟨[(5, .sl 600 ac n n), (6, .int .i64 (m)), (7, (.sl 602 aL L2.length L2.length)), (8, .int .i64 (0)), (9, .sl 603 aF (foL n h dv n).length (foL n h dv n).length), (10, .int .i64 (0)), (11, .int .i64 (Int.ofNat cn)), (12, .bool fl), (13, .int .i64 (Int.ofNat (kf + 1))), (44, .sl 600 ac n n), (45, .int .i64 (Int.ofNat n)), (46, .int .i64 (Int.ofNat i)), (14, .int .i64 (Int.ofNat i)), (17, .int .i64 (fr)), (18, .int .i64 (to)), (22, .int .i64 ((0 : Nat) - 2))], [(600, .gr ac n 37 2 (fun j => [.int .i64 (h j), .int .i64 (dv j)])), (603, .gr aF (foL n h dv n).length 3 1 (nfL (foL n h dv n))), (602, .gr aL L2.length 42 2 (fRL L2))], (addL (100 * (5 - 0) + (40000000 * (n - (i + 1)) + (2000000 + R))) 900), 100, ⟨eqF_rfl _, eqF_rfl _, eqF_rfl _, eqF_rfl _, eqF_rfl _, eqF_rfl _, eqF_rfl _, eqF_rfl _, ⟨congrArg (Value.int .i64) (smn (i := kf + 1) (by omega)), rfl⟩, eqF_rfl _, eqF_rfl _, eqF_rfl _, eqF_rfl _, ⟨congrArg (Value.int .i64) eA, rfl⟩, ⟨congrArg (Value.int .i64) eB, rfl⟩, eqF_rfl _, trivial⟩, by exact WS, nM1, 0, cn, fl, by omega, by rw [hcn]; rfl, by rw [hfl]; simp [fT], by omega, rfl, rfl, rfl, rfl⟩ ?_
        rintro _ _ _ _ _ ⟨t, c2, fl2, ht, hc2, hfl2, rfl, rfl, rfl, rfl, rfl⟩
        have hcl := cT_le fr to m t
        by_cases ht5 : t < 5
        · have t9 : iLt 2 ((t : Nat) - 2 : Int) = false := ltF (by omega)
          clear hcn hkf hfl hfr hto hrs hcT5 hfT5 hk1 hr
          have eN : wr .i64 (Int.add m (wr .i64 (Int.mul ((t : Nat) - 2 : Int) 3600))) = nT m t := by
            rw [show wr .i64 (Int.mul ((t : Nat) - 2 : Int) 3600) = ((t : Nat) - 2 : Int) * 3600 from smW (n := ((t : Nat) - 2 : Int) * 3600) (by omega)]
            exact smW (n := m + ((t : Nat) - 2 : Int) * 3600) (by omega)
          have eT : wr .i64 (Int.add ((t : Nat) - 2 : Int) 1) = ((t + 1 : Nat) - 2 : Int) := (smW (n := ((t : Nat) - 2 : Int) + 1) (by omega)).trans (by omega)
          repeat' ((conv => whnf); first | refine eqS_rfl ?_ | refine eqA_rfl ?_ | refine eqA_of (by assumption) ?_ | refine eqS_of (by rfl) ?_ | refine eqL_rfl ?_ | refine eqJ_rfl ?_ | refine gE ?_ | refine seS_rfl ?_ | refine lsS_of hup ?_ | refine lsS_rfl ?_ | refine brS_tt ?_ | refine brS_ff ?_ | refine brS_not ?_ | refine gI ?_ | refine gT ?_ | refine gF ?_ | refine brS_intro (fun _ => ?_) (fun _ => ?_) | refine gL ?_ | refine gX ?_ | refine gO ?_ | refine gN ?_ | refine gM ?_ | refine gY ?_ | intro _)
          all_goals conv => whnf
          all_goals rw [eN] at *
          all_goals first
            | exact ⟨6 - (t + 1), [(5, .sl 600 ac n n), (6, .int .i64 (m)), (7, (.sl 602 aL L2.length L2.length)), (8, .int .i64 (0)), (9, .sl 603 aF (foL n h dv n).length (foL n h dv n).length), (10, .int .i64 (0)), (11, .int .i64 (Int.ofNat (c2 + 1))), (12, .bool _), (13, .int .i64 (Int.ofNat (kf + 1))), (44, .sl 600 ac n n), (45, .int .i64 (Int.ofNat n)), (46, .int .i64 (Int.ofNat i)), (14, .int .i64 (Int.ofNat i)), (17, .int .i64 (fr)), (18, .int .i64 (to)), (22, .int .i64 (((t + 1) : Nat) - 2))], _, (addL (100 * (5 - (t + 1)) + (40000000 * (n - (i + 1)) + (2000000 + R))) 900), 100, by omega, ⟨eqF_rfl _, eqF_rfl _, eqF_rfl _, eqF_rfl _, eqF_rfl _, eqF_rfl _, ⟨congrArg (Value.int .i64) (smn (i := c2 + 1) (by omega)), rfl⟩, eqF_rfl _, eqF_rfl _, eqF_rfl _, eqF_rfl _, eqF_rfl _, eqF_rfl _, eqF_rfl _, eqF_rfl _, ⟨congrArg (Value.int .i64) eT, rfl⟩, trivial⟩, WkM.refl _, nM1, t + 1, c2 + 1, _, by omega, ctT hc2 (by first | exact hitA (by assumption) (by assumption) | exact hitB2 (by assumption) (by assumption)), by first | exact flT hfl2 (by assumption) | exact flF1 hfl2 (by assumption) (by assumption) | exact flF0 hfl2 (by assumption) (by assumption), rfl, rfl, rfl, rfl, rfl⟩
            | exact ⟨6 - (t + 1), [(5, .sl 600 ac n n), (6, .int .i64 (m)), (7, (.sl 602 aL L2.length L2.length)), (8, .int .i64 (0)), (9, .sl 603 aF (foL n h dv n).length (foL n h dv n).length), (10, .int .i64 (0)), (11, .int .i64 (Int.ofNat c2)), (12, .bool _), (13, .int .i64 (Int.ofNat (kf + 1))), (44, .sl 600 ac n n), (45, .int .i64 (Int.ofNat n)), (46, .int .i64 (Int.ofNat i)), (14, .int .i64 (Int.ofNat i)), (17, .int .i64 (fr)), (18, .int .i64 (to)), (22, .int .i64 (((t + 1) : Nat) - 2))], _, (addL (100 * (5 - (t + 1)) + (40000000 * (n - (i + 1)) + (2000000 + R))) 900), 100, by omega, ⟨eqF_rfl _, eqF_rfl _, eqF_rfl _, eqF_rfl _, eqF_rfl _, eqF_rfl _, eqF_rfl _, eqF_rfl _, eqF_rfl _, eqF_rfl _, eqF_rfl _, eqF_rfl _, eqF_rfl _, eqF_rfl _, eqF_rfl _, ⟨congrArg (Value.int .i64) eT, rfl⟩, trivial⟩, WkM.refl _, nM1, t + 1, c2, _, by omega, ctF hc2 (by first | exact hitN (.inl (by assumption)) (.inl (by assumption)) | exact hitN (.inl (by assumption)) (.inr (by assumption)) | exact hitN (.inr (by assumption)) (.inl (by assumption)) | exact hitN (.inr (by assumption)) (.inr (by assumption))), by first | exact flT hfl2 (by assumption) | exact flF1 hfl2 (by assumption) (by assumption) | exact flF0 hfl2 (by assumption) (by assumption), rfl, rfl, rfl, rfl, rfl⟩
            | trace_state
        · have e5 : t = 5 := by omega
          subst e5
          have t9 : iLt 2 (((5 : Nat) : Int) - 2) = true := rfl
          repeat' ((conv => whnf); first | refine eqS_rfl ?_ | refine eqA_rfl ?_ | refine eqA_of (by assumption) ?_ | refine eqS_of (by rfl) ?_ | refine eqL_rfl ?_ | refine eqJ_rfl ?_ | refine gE ?_ | refine seS_rfl ?_ | refine lsS_of hup ?_ | refine lsS_rfl ?_ | refine brS_tt ?_ | refine brS_ff ?_ | refine brS_not ?_ | refine gI ?_ | refine gT ?_ | refine gF ?_ | refine brS_intro (fun _ => ?_) (fun _ => ?_) | refine gL ?_ | refine gX ?_ | refine gO ?_ | refine gN ?_ | refine gM ?_ | refine gY ?_ | intro _)
          conv => whnf
          exact ⟨n - (i + 1) + 1, [(5, .sl 600 ac n n), (6, .int .i64 (m)), (7, (.sl 602 aL L2.length L2.length)), (8, .int .i64 (0)), (9, .sl 603 aF (foL n h dv n).length (foL n h dv n).length), (10, .int .i64 (0)), (11, .int .i64 (Int.ofNat c2)), (12, .bool fl2), (13, .int .i64 (Int.ofNat (kf + 1))), (44, .sl 600 ac n n), (45, .int .i64 (Int.ofNat n)), (46, .int .i64 (Int.ofNat (i + 1)))], _, (addL (40000000 * (n - (i + 1)) + (2000000 + R)) 900), 100, by omega, ⟨eqF_rfl _, eqF_rfl _, eqF_rfl _, eqF_rfl _, eqF_rfl _, eqF_rfl _, eqF_rfl _, eqF_rfl _, eqF_rfl _, eqF_rfl _, eqF_rfl _, ⟨congrArg (Value.int .i64) (smn (i := i + 1) (by omega)), rfl⟩, trivial⟩, WkM.refl _, nM1, i + 1, c2, (kf + 1), fl2, by omega, by rw [hc2, hcT5]; show _ = (csA n h dv m i ++ csK n h dv m i).length; rw [List.length_append], hk1, by rw [hfl2, hfT5]; rfl, rfl, rfl, rfl, rfl, rfl⟩
      · have t5 : iEq (wr .i64 (Int.add (h i) (dv i))) (wr .i64 (Int.add (nh n h i) (nd n dv i))) = false := by rw [eA, eB]; exact eqFa (by omega)
        have t6 : iLt (wr .i64 (Int.add (nh n h i) (nd n dv i))) (wr .i64 (Int.add (h i) (dv i))) = true := by rw [eA, eB]; exact ltT (by omega)
        by_cases hsr : ∃ k, k < n ∧ stK n h dv r k
        · skip
          repeat' ((conv => whnf); first | refine eqS_rfl ?_ | refine eqA_rfl ?_ | refine eqA_of (by assumption) ?_ | refine eqS_of (by rfl) ?_ | refine eqL_rfl ?_ | refine eqJ_rfl ?_ | refine gE ?_ | refine seS_rfl ?_ | refine lsS_of hup ?_ | refine lsS_rfl ?_ | refine brS_tt ?_ | refine brS_ff ?_ | refine brS_not ?_ | refine gI ?_ | refine gT ?_ | refine gF ?_ | refine brS_intro (fun _ => ?_) (fun _ => ?_) | refine gL ?_ | refine gX ?_ | refine gO ?_ | refine gN ?_ | refine gM ?_ | refine gY ?_ | refine call_readL (c14 F (d + 8) ac n 0 n h dv hv i hlt) (addL (35000000 + (40000000 * (n - (i + 1)) + (2000000 + R))) 900) (by rfl) (by exact SeesM.cons 1000 (sees_gr (i := 600) (by rfl)) (SeesM.nil _) (fun _ _ _ _ _ _ x hx => by cases hx)) (nM1) ?_ | refine call_readL (c12s F d hF ac n 0 n h dv hv r hrb hsr) (addL (1000 + (40000000 * (n - (i + 1)) + (2000000 + R))) 900) (by rw [eR]; rfl) (by exact SeesM.cons 1000 (sees_gr (i := 600) (by rfl)) (SeesM.nil _) (fun _ _ _ _ _ _ x hx => by cases hx)) (nM1) ?_ | intro _)
          conv => whnf
          refine loS_i (fun jj f mm R' ni => ∃ (t c2 : Nat) (fl : Bool), t ≤ 5 ∧ c2 = (csA n h dv m i).length + cT fr to m t ∧ fl = (stA n h dv m i || fT fr to m t) ∧ jj = 6 - t ∧ f = [(5, .sl 600 ac n n), (6, .int .i64 (m)), (7, (.sl 602 aL L2.length L2.length)), (8, .int .i64 (0)), (9, .sl 603 aF (foL n h dv n).length (foL n h dv n).length), (10, .int .i64 (0)), (11, .int .i64 (Int.ofNat c2)), (12, .bool fl), (13, .int .i64 (Int.ofNat (kf + 1))), (44, .sl 600 ac n n), (45, .int .i64 (Int.ofNat n)), (46, .int .i64 (Int.ofNat i)), (14, .int .i64 (Int.ofNat i)), (17, .int .i64 (fr)), (18, .int .i64 (to)), (22, .int .i64 ((t : Nat) - 2))] ∧ mm = [(600, .gr ac n 37 2 (fun j => [.int .i64 (h j), .int .i64 (dv j)])), (603, .gr aF (foL n h dv n).length 3 1 (nfL (foL n h dv n))), (602, .gr aL L2.length 42 2 (fRL L2))] ∧ R' = (addL (100 * (5 - t) + (40000000 * (n - (i + 1)) + (2000000 + R))) 900) ∧ ni = 100) 6 (by omega)
            ⟨[(5, .sl 600 ac n n), (6, .int .i64 (m)), (7, (.sl 602 aL L2.length L2.length)), (8, .int .i64 (0)), (9, .sl 603 aF (foL n h dv n).length (foL n h dv n).length), (10, .int .i64 (0)), (11, .int .i64 (Int.ofNat cn)), (12, .bool fl), (13, .int .i64 (Int.ofNat (kf + 1))), (44, .sl 600 ac n n), (45, .int .i64 (Int.ofNat n)), (46, .int .i64 (Int.ofNat i)), (14, .int .i64 (Int.ofNat i)), (17, .int .i64 (fr)), (18, .int .i64 (to)), (22, .int .i64 ((0 : Nat) - 2))], [(600, .gr ac n 37 2 (fun j => [.int .i64 (h j), .int .i64 (dv j)])), (603, .gr aF (foL n h dv n).length 3 1 (nfL (foL n h dv n))), (602, .gr aL L2.length 42 2 (fRL L2))], (addL (100 * (5 - 0) + (40000000 * (n - (i + 1)) + (2000000 + R))) 900), 100, ⟨eqF_rfl _, eqF_rfl _, eqF_rfl _, eqF_rfl _, eqF_rfl _, eqF_rfl _, eqF_rfl _, eqF_rfl _, ⟨congrArg (Value.int .i64) (smn (i := kf + 1) (by omega)), rfl⟩, eqF_rfl _, eqF_rfl _, eqF_rfl _, eqF_rfl _, ⟨congrArg (Value.int .i64) eA, rfl⟩, ⟨congrArg (Value.int .i64) eB, rfl⟩, eqF_rfl _, trivial⟩, by exact WS, nM1, 0, cn, fl, by omega, by rw [hcn]; rfl, by rw [hfl]; simp [fT], by omega, rfl, rfl, rfl, rfl⟩ ?_
          rintro _ _ _ _ _ ⟨t, c2, fl2, ht, hc2, hfl2, rfl, rfl, rfl, rfl, rfl⟩
          have hcl := cT_le fr to m t
          by_cases ht5 : t < 5
          · have t9 : iLt 2 ((t : Nat) - 2 : Int) = false := ltF (by omega)
            clear hcn hkf hfl hfr hto hrs hcT5 hfT5 hk1 hr
            have eN : wr .i64 (Int.add m (wr .i64 (Int.mul ((t : Nat) - 2 : Int) 3600))) = nT m t := by
              rw [show wr .i64 (Int.mul ((t : Nat) - 2 : Int) 3600) = ((t : Nat) - 2 : Int) * 3600 from smW (n := ((t : Nat) - 2 : Int) * 3600) (by omega)]
              exact smW (n := m + ((t : Nat) - 2 : Int) * 3600) (by omega)
            have eT : wr .i64 (Int.add ((t : Nat) - 2 : Int) 1) = ((t + 1 : Nat) - 2 : Int) := (smW (n := ((t : Nat) - 2 : Int) + 1) (by omega)).trans (by omega)
            repeat' ((conv => whnf); first | refine eqS_rfl ?_ | refine eqA_rfl ?_ | refine eqA_of (by assumption) ?_ | refine eqS_of (by rfl) ?_ | refine eqL_rfl ?_ | refine eqJ_rfl ?_ | refine gE ?_ | refine seS_rfl ?_ | refine lsS_of hup ?_ | refine lsS_rfl ?_ | refine brS_tt ?_ | refine brS_ff ?_ | refine brS_not ?_ | refine gI ?_ | refine gT ?_ | refine gF ?_ | refine brS_intro (fun _ => ?_) (fun _ => ?_) | refine gL ?_ | refine gX ?_ | refine gO ?_ | refine gN ?_ | refine gM ?_ | refine gY ?_ | intro _)
            all_goals conv => whnf
            all_goals rw [eN] at *
            all_goals first
              | exact ⟨6 - (t + 1), [(5, .sl 600 ac n n), (6, .int .i64 (m)), (7, (.sl 602 aL L2.length L2.length)), (8, .int .i64 (0)), (9, .sl 603 aF (foL n h dv n).length (foL n h dv n).length), (10, .int .i64 (0)), (11, .int .i64 (Int.ofNat (c2 + 1))), (12, .bool _), (13, .int .i64 (Int.ofNat (kf + 1))), (44, .sl 600 ac n n), (45, .int .i64 (Int.ofNat n)), (46, .int .i64 (Int.ofNat i)), (14, .int .i64 (Int.ofNat i)), (17, .int .i64 (fr)), (18, .int .i64 (to)), (22, .int .i64 (((t + 1) : Nat) - 2))], _, (addL (100 * (5 - (t + 1)) + (40000000 * (n - (i + 1)) + (2000000 + R))) 900), 100, by omega, ⟨eqF_rfl _, eqF_rfl _, eqF_rfl _, eqF_rfl _, eqF_rfl _, eqF_rfl _, ⟨congrArg (Value.int .i64) (smn (i := c2 + 1) (by omega)), rfl⟩, eqF_rfl _, eqF_rfl _, eqF_rfl _, eqF_rfl _, eqF_rfl _, eqF_rfl _, eqF_rfl _, eqF_rfl _, ⟨congrArg (Value.int .i64) eT, rfl⟩, trivial⟩, WkM.refl _, nM1, t + 1, c2 + 1, _, by omega, ctT hc2 (by first | exact hitA (by assumption) (by assumption) | exact hitB2 (by assumption) (by assumption)), by first | exact flT hfl2 (by assumption) | exact flF1 hfl2 (by assumption) (by assumption) | exact flF0 hfl2 (by assumption) (by assumption), rfl, rfl, rfl, rfl, rfl⟩
              | exact ⟨6 - (t + 1), [(5, .sl 600 ac n n), (6, .int .i64 (m)), (7, (.sl 602 aL L2.length L2.length)), (8, .int .i64 (0)), (9, .sl 603 aF (foL n h dv n).length (foL n h dv n).length), (10, .int .i64 (0)), (11, .int .i64 (Int.ofNat c2)), (12, .bool _), (13, .int .i64 (Int.ofNat (kf + 1))), (44, .sl 600 ac n n), (45, .int .i64 (Int.ofNat n)), (46, .int .i64 (Int.ofNat i)), (14, .int .i64 (Int.ofNat i)), (17, .int .i64 (fr)), (18, .int .i64 (to)), (22, .int .i64 (((t + 1) : Nat) - 2))], _, (addL (100 * (5 - (t + 1)) + (40000000 * (n - (i + 1)) + (2000000 + R))) 900), 100, by omega, ⟨eqF_rfl _, eqF_rfl _, eqF_rfl _, eqF_rfl _, eqF_rfl _, eqF_rfl _, eqF_rfl _, eqF_rfl _, eqF_rfl _, eqF_rfl _, eqF_rfl _, eqF_rfl _, eqF_rfl _, eqF_rfl _, eqF_rfl _, ⟨congrArg (Value.int .i64) eT, rfl⟩, trivial⟩, WkM.refl _, nM1, t + 1, c2, _, by omega, ctF hc2 (by first | exact hitN (.inl (by assumption)) (.inl (by assumption)) | exact hitN (.inl (by assumption)) (.inr (by assumption)) | exact hitN (.inr (by assumption)) (.inl (by assumption)) | exact hitN (.inr (by assumption)) (.inr (by assumption))), by first | exact flT hfl2 (by assumption) | exact flF1 hfl2 (by assumption) (by assumption) | exact flF0 hfl2 (by assumption) (by assumption), rfl, rfl, rfl, rfl, rfl⟩
              | trace_state
          · have e5 : t = 5 := by omega
            subst e5
            have t9 : iLt 2 (((5 : Nat) : Int) - 2) = true := rfl
            repeat' ((conv => whnf); first | refine eqS_rfl ?_ | refine eqA_rfl ?_ | refine eqA_of (by assumption) ?_ | refine eqS_of (by rfl) ?_ | refine eqL_rfl ?_ | refine eqJ_rfl ?_ | refine gE ?_ | refine seS_rfl ?_ | refine lsS_of hup ?_ | refine lsS_rfl ?_ | refine brS_tt ?_ | refine brS_ff ?_ | refine brS_not ?_ | refine gI ?_ | refine gT ?_ | refine gF ?_ | refine brS_intro (fun _ => ?_) (fun _ => ?_) | refine gL ?_ | refine gX ?_ | refine gO ?_ | refine gN ?_ | refine gM ?_ | refine gY ?_ | intro _)
            conv => whnf
            exact ⟨n - (i + 1) + 1, [(5, .sl 600 ac n n), (6, .int .i64 (m)), (7, (.sl 602 aL L2.length L2.length)), (8, .int .i64 (0)), (9, .sl 603 aF (foL n h dv n).length (foL n h dv n).length), (10, .int .i64 (0)), (11, .int .i64 (Int.ofNat c2)), (12, .bool fl2), (13, .int .i64 (Int.ofNat (kf + 1))), (44, .sl 600 ac n n), (45, .int .i64 (Int.ofNat n)), (46, .int .i64 (Int.ofNat (i + 1)))], _, (addL (40000000 * (n - (i + 1)) + (2000000 + R)) 900), 100, by omega, ⟨eqF_rfl _, eqF_rfl _, eqF_rfl _, eqF_rfl _, eqF_rfl _, eqF_rfl _, eqF_rfl _, eqF_rfl _, eqF_rfl _, eqF_rfl _, eqF_rfl _, ⟨congrArg (Value.int .i64) (smn (i := i + 1) (by omega)), rfl⟩, trivial⟩, WkM.refl _, nM1, i + 1, c2, (kf + 1), fl2, by omega, by rw [hc2, hcT5]; show _ = (csA n h dv m i ++ csK n h dv m i).length; rw [List.length_append], hk1, by rw [hfl2, hfT5]; rfl, rfl, rfl, rfl, rfl, rfl⟩
        · have hr12 : (csA n h dv r n).length ≤ 12 := by have := csA_len n h dv r n; omega
          have hr2 := csA_two hv hrb hlt (by omega) (by rw [← hfr]; omega)
          repeat' ((conv => whnf); first | refine eqS_rfl ?_ | refine eqA_rfl ?_ | refine eqA_of (by assumption) ?_ | refine eqS_of (by rfl) ?_ | refine eqL_rfl ?_ | refine eqJ_rfl ?_ | refine gE ?_ | refine seS_rfl ?_ | refine lsS_of hup ?_ | refine lsS_rfl ?_ | refine brS_tt ?_ | refine brS_ff ?_ | refine brS_not ?_ | refine gI ?_ | refine gT ?_ | refine gF ?_ | refine brS_intro (fun _ => ?_) (fun _ => ?_) | refine gL ?_ | refine gX ?_ | refine gO ?_ | refine gN ?_ | refine gM ?_ | refine gY ?_ | refine call_readL (c14 F (d + 8) ac n 0 n h dv hv i hlt) (addL (35000000 + (40000000 * (n - (i + 1)) + (2000000 + R))) 900) (by rfl) (by exact SeesM.cons 1000 (sees_gr (i := 600) (by rfl)) (SeesM.nil _) (fun _ _ _ _ _ _ x hx => by cases hx)) (nM1) ?_ | intro _)
          conv => whnf
          refine call12 F d hF 604 ac n 0 n h dv hv r hrb hsr hr12 (addL (1000 + (40000000 * (n - (i + 1)) + (2000000 + R))) 900) (by rw [eR]; rfl) (by exact SeesM.cons 1000 (sees_gr (i := 600) (by rfl)) (SeesM.nil _) (fun _ _ _ _ _ _ x hx => by cases hx)) (nM1) ?_
          intro a3 L3 hp3 hS3
          have t7 : iLt (Int.ofNat L3.length) 2 = false := ltF (by rw [hp3.length_eq]; show (2 : Int) ≤ ((csA n h dv r n).length : Int); omega)
          repeat' ((conv => whnf); first | refine eqS_rfl ?_ | refine eqA_rfl ?_ | refine eqA_of (by assumption) ?_ | refine eqS_of (by rfl) ?_ | refine eqL_rfl ?_ | refine eqJ_rfl ?_ | refine gE ?_ | refine seS_rfl ?_ | refine lsS_of hup ?_ | refine lsS_rfl ?_ | refine brS_tt ?_ | refine brS_ff ?_ | refine brS_not ?_ | refine gI ?_ | refine gT ?_ | refine gF ?_ | refine brS_intro (fun _ => ?_) (fun _ => ?_) | refine gL ?_ | refine gX ?_ | refine gO ?_ | refine gN ?_ | refine gM ?_ | refine gY ?_ | intro _)
          conv => whnf
          refine loS_i (fun jj f mm R' ni => ∃ (t c2 : Nat) (fl : Bool), t ≤ 5 ∧ c2 = (csA n h dv m i).length + cT fr to m t ∧ fl = (stA n h dv m i || fT fr to m t) ∧ jj = 6 - t ∧ f = [(5, .sl 600 ac n n), (6, .int .i64 (m)), (7, (.sl 602 aL L2.length L2.length)), (8, .int .i64 (0)), (9, .sl 603 aF (foL n h dv n).length (foL n h dv n).length), (10, .int .i64 (0)), (11, .int .i64 (Int.ofNat c2)), (12, .bool fl), (13, .int .i64 (Int.ofNat (kf + 1))), (44, .sl 600 ac n n), (45, .int .i64 (Int.ofNat n)), (46, .int .i64 (Int.ofNat i)), (14, .int .i64 (Int.ofNat i)), (17, .int .i64 (fr)), (18, .int .i64 (to)), (22, .int .i64 ((t : Nat) - 2))] ∧ mm = [(600, .gr ac n 37 2 (fun j => [.int .i64 (h j), .int .i64 (dv j)])), (603, .gr aF (foL n h dv n).length 3 1 (nfL (foL n h dv n))), (602, .gr aL L2.length 42 2 (fRL L2))] ∧ R' = (addL (100 * (5 - t) + (40000000 * (n - (i + 1)) + (2000000 + R))) 900) ∧ ni = 100) 6 (by omega)
            ⟨[(5, .sl 600 ac n n), (6, .int .i64 (m)), (7, (.sl 602 aL L2.length L2.length)), (8, .int .i64 (0)), (9, .sl 603 aF (foL n h dv n).length (foL n h dv n).length), (10, .int .i64 (0)), (11, .int .i64 (Int.ofNat cn)), (12, .bool fl), (13, .int .i64 (Int.ofNat (kf + 1))), (44, .sl 600 ac n n), (45, .int .i64 (Int.ofNat n)), (46, .int .i64 (Int.ofNat i)), (14, .int .i64 (Int.ofNat i)), (17, .int .i64 (fr)), (18, .int .i64 (to)), (22, .int .i64 ((0 : Nat) - 2))], [(600, .gr ac n 37 2 (fun j => [.int .i64 (h j), .int .i64 (dv j)])), (603, .gr aF (foL n h dv n).length 3 1 (nfL (foL n h dv n))), (602, .gr aL L2.length 42 2 (fRL L2))], (addL (100 * (5 - 0) + (40000000 * (n - (i + 1)) + (2000000 + R))) 900), 100, ⟨eqF_rfl _, eqF_rfl _, eqF_rfl _, eqF_rfl _, eqF_rfl _, eqF_rfl _, eqF_rfl _, eqF_rfl _, ⟨congrArg (Value.int .i64) (smn (i := kf + 1) (by omega)), rfl⟩, eqF_rfl _, eqF_rfl _, eqF_rfl _, eqF_rfl _, ⟨congrArg (Value.int .i64) eA, rfl⟩, ⟨congrArg (Value.int .i64) eB, rfl⟩, eqF_rfl _, trivial⟩, by exact WS, nM1, 0, cn, fl, by omega, by rw [hcn]; rfl, by rw [hfl]; simp [fT], by omega, rfl, rfl, rfl, rfl⟩ ?_
          rintro _ _ _ _ _ ⟨t, c2, fl2, ht, hc2, hfl2, rfl, rfl, rfl, rfl, rfl⟩
          have hcl := cT_le fr to m t
          by_cases ht5 : t < 5
          · have t9 : iLt 2 ((t : Nat) - 2 : Int) = false := ltF (by omega)
            clear hcn hkf hfl hfr hto hrs hcT5 hfT5 hk1 hr
            have eN : wr .i64 (Int.add m (wr .i64 (Int.mul ((t : Nat) - 2 : Int) 3600))) = nT m t := by
              rw [show wr .i64 (Int.mul ((t : Nat) - 2 : Int) 3600) = ((t : Nat) - 2 : Int) * 3600 from smW (n := ((t : Nat) - 2 : Int) * 3600) (by omega)]
              exact smW (n := m + ((t : Nat) - 2 : Int) * 3600) (by omega)
            have eT : wr .i64 (Int.add ((t : Nat) - 2 : Int) 1) = ((t + 1 : Nat) - 2 : Int) := (smW (n := ((t : Nat) - 2 : Int) + 1) (by omega)).trans (by omega)
            repeat' ((conv => whnf); first | refine eqS_rfl ?_ | refine eqA_rfl ?_ | refine eqA_of (by assumption) ?_ | refine eqS_of (by rfl) ?_ | refine eqL_rfl ?_ | refine eqJ_rfl ?_ | refine gE ?_ | refine seS_rfl ?_ | refine lsS_of hup ?_ | refine lsS_rfl ?_ | refine brS_tt ?_ | refine brS_ff ?_ | refine brS_not ?_ | refine gI ?_ | refine gT ?_ | refine gF ?_ | refine brS_intro (fun _ => ?_) (fun _ => ?_) | refine gL ?_ | refine gX ?_ | refine gO ?_ | refine gN ?_ | refine gM ?_ | refine gY ?_ | intro _)
            all_goals conv => whnf
            all_goals rw [eN] at *
            all_goals first
              | exact ⟨6 - (t + 1), [(5, .sl 600 ac n n), (6, .int .i64 (m)), (7, (.sl 602 aL L2.length L2.length)), (8, .int .i64 (0)), (9, .sl 603 aF (foL n h dv n).length (foL n h dv n).length), (10, .int .i64 (0)), (11, .int .i64 (Int.ofNat (c2 + 1))), (12, .bool _), (13, .int .i64 (Int.ofNat (kf + 1))), (44, .sl 600 ac n n), (45, .int .i64 (Int.ofNat n)), (46, .int .i64 (Int.ofNat i)), (14, .int .i64 (Int.ofNat i)), (17, .int .i64 (fr)), (18, .int .i64 (to)), (22, .int .i64 (((t + 1) : Nat) - 2))], _, (addL (100 * (5 - (t + 1)) + (40000000 * (n - (i + 1)) + (2000000 + R))) 900), 100, by omega, ⟨eqF_rfl _, eqF_rfl _, eqF_rfl _, eqF_rfl _, eqF_rfl _, eqF_rfl _, ⟨congrArg (Value.int .i64) (smn (i := c2 + 1) (by omega)), rfl⟩, eqF_rfl _, eqF_rfl _, eqF_rfl _, eqF_rfl _, eqF_rfl _, eqF_rfl _, eqF_rfl _, eqF_rfl _, ⟨congrArg (Value.int .i64) eT, rfl⟩, trivial⟩, WkM.refl _, nM1, t + 1, c2 + 1, _, by omega, ctT hc2 (by first | exact hitA (by assumption) (by assumption) | exact hitB2 (by assumption) (by assumption)), by first | exact flT hfl2 (by assumption) | exact flF1 hfl2 (by assumption) (by assumption) | exact flF0 hfl2 (by assumption) (by assumption), rfl, rfl, rfl, rfl, rfl⟩
              | exact ⟨6 - (t + 1), [(5, .sl 600 ac n n), (6, .int .i64 (m)), (7, (.sl 602 aL L2.length L2.length)), (8, .int .i64 (0)), (9, .sl 603 aF (foL n h dv n).length (foL n h dv n).length), (10, .int .i64 (0)), (11, .int .i64 (Int.ofNat c2)), (12, .bool _), (13, .int .i64 (Int.ofNat (kf + 1))), (44, .sl 600 ac n n), (45, .int .i64 (Int.ofNat n)), (46, .int .i64 (Int.ofNat i)), (14, .int .i64 (Int.ofNat i)), (17, .int .i64 (fr)), (18, .int .i64 (to)), (22, .int .i64 (((t + 1) : Nat) - 2))], _, (addL (100 * (5 - (t + 1)) + (40000000 * (n - (i + 1)) + (2000000 + R))) 900), 100, by omega, ⟨eqF_rfl _, eqF_rfl _, eqF_rfl _, eqF_rfl _, eqF_rfl _, eqF_rfl _, eqF_rfl _, eqF_rfl _, eqF_rfl _, eqF_rfl _, eqF_rfl _, eqF_rfl _, eqF_rfl _, eqF_rfl _, eqF_rfl _, ⟨congrArg (Value.int .i64) eT, rfl⟩, trivial⟩, WkM.refl _, nM1, t + 1, c2, _, by omega, ctF hc2 (by first | exact hitN (.inl (by assumption)) (.inl (by assumption)) | exact hitN (.inl (by assumption)) (.inr (by assumption)) | exact hitN (.inr (by assumption)) (.inl (by assumption)) | exact hitN (.inr (by assumption)) (.inr (by assumption))), by first | exact flT hfl2 (by assumption) | exact flF1 hfl2 (by assumption) (by assumption) | exact flF0 hfl2 (by assumption) (by assumption), rfl, rfl, rfl, rfl, rfl⟩
              | trace_state
          · have e5 : t = 5 := by omega
            subst e5
            have t9 : iLt 2 (((5 : Nat) : Int) - 2) = true := rfl
            repeat' ((conv => whnf); first | refine eqS_rfl ?_ | refine eqA_rfl ?_ | refine eqA_of (by assumption) ?_ | refine eqS_of (by rfl) ?_ | refine eqL_rfl ?_ | refine eqJ_rfl ?_ | refine gE ?_ | refine seS_rfl ?_ | refine lsS_of hup ?_ | refine lsS_rfl ?_ | refine brS_tt ?_ | refine brS_ff ?_ | refine brS_not ?_ | refine gI ?_ | refine gT ?_ | refine gF ?_ | refine brS_intro (fun _ => ?_) (fun _ => ?_) | refine gL ?_ | refine gX ?_ | refine gO ?_ | refine gN ?_ | refine gM ?_ | refine gY ?_ | intro _)
            conv => whnf
            exact ⟨n - (i + 1) + 1, [(5, .sl 600 ac n n), (6, .int .i64 (m)), (7, (.sl 602 aL L2.length L2.length)), (8, .int .i64 (0)), (9, .sl 603 aF (foL n h dv n).length (foL n h dv n).length), (10, .int .i64 (0)), (11, .int .i64 (Int.ofNat c2)), (12, .bool fl2), (13, .int .i64 (Int.ofNat (kf + 1))), (44, .sl 600 ac n n), (45, .int .i64 (Int.ofNat n)), (46, .int .i64 (Int.ofNat (i + 1)))], _, (addL (40000000 * (n - (i + 1)) + (2000000 + R)) 900), 100, by omega, ⟨eqF_rfl _, eqF_rfl _, eqF_rfl _, eqF_rfl _, eqF_rfl _, eqF_rfl _, eqF_rfl _, eqF_rfl _, eqF_rfl _, eqF_rfl _, eqF_rfl _, ⟨congrArg (Value.int .i64) (smn (i := i + 1) (by omega)), rfl⟩, trivial⟩, WkM.refl _, nM1, i + 1, c2, (kf + 1), fl2, by omega, by rw [hc2, hcT5]; show _ = (csA n h dv m i ++ csK n h dv m i).length; rw [List.length_append], hk1, by rw [hfl2, hfT5]; rfl, rfl, rfl, rfl, rfl, rfl⟩
    · have t2 : iLt (wr .i64 (Int.add (h i) (dv i))) (wr .i64 (Int.add (nh n h i) (nd n dv i))) = true := by rw [eA, eB]; exact ltT (by omega)
      have hk1 : kf = (foL n h dv (i + 1)).length := by rw [foL_f hr, hkf]
      repeat' ((conv => whnf); first | refine eqS_rfl ?_ | refine eqA_rfl ?_ | refine eqA_of (by assumption) ?_ | refine eqS_of (by rfl) ?_ | refine eqL_rfl ?_ | refine eqJ_rfl ?_ | refine gE ?_ | refine seS_rfl ?_ | refine lsS_of hup ?_ | refine lsS_rfl ?_ | refine brS_tt ?_ | refine brS_ff ?_ | refine brS_not ?_ | refine gI ?_ | refine gT ?_ | refine gF ?_ | refine brS_intro (fun _ => ?_) (fun _ => ?_) | refine gL ?_ | refine gX ?_ | refine gO ?_ | refine gN ?_ | refine gM ?_ | refine gY ?_ | refine call_readL (c14 F (d + 8) ac n 0 n h dv hv i hlt) (addL (35000000 + (40000000 * (n - (i + 1)) + (2000000 + R))) 900) (by rfl) (by exact SeesM.cons 1000 (sees_gr (i := 600) (by rfl)) (SeesM.nil _) (fun _ _ _ _ _ _ x hx => by cases hx)) (nM1) ?_ | intro _)
      conv => whnf
      refine loS_i (fun jj f mm R' ni => ∃ (t c2 : Nat) (fl : Bool), t ≤ 5 ∧ c2 = (csA n h dv m i).length + cT fr to m t ∧ fl = (stA n h dv m i || fT fr to m t) ∧ jj = 6 - t ∧ f = [(5, .sl 600 ac n n), (6, .int .i64 (m)), (7, (.sl 602 aL L2.length L2.length)), (8, .int .i64 (0)), (9, .sl 603 aF (foL n h dv n).length (foL n h dv n).length), (10, .int .i64 (0)), (11, .int .i64 (Int.ofNat c2)), (12, .bool fl), (13, .int .i64 (Int.ofNat kf)), (44, .sl 600 ac n n), (45, .int .i64 (Int.ofNat n)), (46, .int .i64 (Int.ofNat i)), (14, .int .i64 (Int.ofNat i)), (17, .int .i64 (fr)), (18, .int .i64 (to)), (22, .int .i64 ((t : Nat) - 2))] ∧ mm = [(600, .gr ac n 37 2 (fun j => [.int .i64 (h j), .int .i64 (dv j)])), (603, .gr aF (foL n h dv n).length 3 1 (nfL (foL n h dv n))), (602, .gr aL L2.length 42 2 (fRL L2))] ∧ R' = (addL (100 * (5 - t) + (40000000 * (n - (i + 1)) + (2000000 + R))) 900) ∧ ni = 100) 6 (by omega)
        ⟨[(5, .sl 600 ac n n), (6, .int .i64 (m)), (7, (.sl 602 aL L2.length L2.length)), (8, .int .i64 (0)), (9, .sl 603 aF (foL n h dv n).length (foL n h dv n).length), (10, .int .i64 (0)), (11, .int .i64 (Int.ofNat cn)), (12, .bool fl), (13, .int .i64 (Int.ofNat kf)), (44, .sl 600 ac n n), (45, .int .i64 (Int.ofNat n)), (46, .int .i64 (Int.ofNat i)), (14, .int .i64 (Int.ofNat i)), (17, .int .i64 (fr)), (18, .int .i64 (to)), (22, .int .i64 ((0 : Nat) - 2))], [(600, .gr ac n 37 2 (fun j => [.int .i64 (h j), .int .i64 (dv j)])), (603, .gr aF (foL n h dv n).length 3 1 (nfL (foL n h dv n))), (602, .gr aL L2.length 42 2 (fRL L2))], (addL (100 * (5 - 0) + (40000000 * (n - (i + 1)) + (2000000 + R))) 900), 100, ⟨eqF_rfl _, eqF_rfl _, eqF_rfl _, eqF_rfl _, eqF_rfl _, eqF_rfl _, eqF_rfl _, eqF_rfl _, eqF_rfl _, eqF_rfl _, eqF_rfl _, eqF_rfl _, eqF_rfl _, ⟨congrArg (Value.int .i64) eA, rfl⟩, ⟨congrArg (Value.int .i64) eB, rfl⟩, eqF_rfl _, trivial⟩, by exact WS, nM1, 0, cn, fl, by omega, by rw [hcn]; rfl, by rw [hfl]; simp [fT], by omega, rfl, rfl, rfl, rfl⟩ ?_
      rintro _ _ _ _ _ ⟨t, c2, fl2, ht, hc2, hfl2, rfl, rfl, rfl, rfl, rfl⟩
      have hcl := cT_le fr to m t
      by_cases ht5 : t < 5
      · have t9 : iLt 2 ((t : Nat) - 2 : Int) = false := ltF (by omega)
        clear hcn hkf hfl hfr hto hrs hcT5 hfT5 hk1 hr
        have eN : wr .i64 (Int.add m (wr .i64 (Int.mul ((t : Nat) - 2 : Int) 3600))) = nT m t := by
          rw [show wr .i64 (Int.mul ((t : Nat) - 2 : Int) 3600) = ((t : Nat) - 2 : Int) * 3600 from smW (n := ((t : Nat) - 2 : Int) * 3600) (by omega)]
          exact smW (n := m + ((t : Nat) - 2 : Int) * 3600) (by omega)
        have eT : wr .i64 (Int.add ((t : Nat) - 2 : Int) 1) = ((t + 1 : Nat) - 2 : Int) := (smW (n := ((t : Nat) - 2 : Int) + 1) (by omega)).trans (by omega)
        repeat' ((conv => whnf); first | refine eqS_rfl ?_ | refine eqA_rfl ?_ | refine eqA_of (by assumption) ?_ | refine eqS_of (by rfl) ?_ | refine eqL_rfl ?_ | refine eqJ_rfl ?_ | refine gE ?_ | refine seS_rfl ?_ | refine lsS_of hup ?_ | refine lsS_rfl ?_ | refine brS_tt ?_ | refine brS_ff ?_ | refine brS_not ?_ | refine gI ?_ | refine gT ?_ | refine gF ?_ | refine brS_intro (fun _ => ?_) (fun _ => ?_) | refine gL ?_ | refine gX ?_ | refine gO ?_ | refine gN ?_ | refine gM ?_ | refine gY ?_ | intro _)
        all_goals conv => whnf
        all_goals rw [eN] at *
        all_goals first
          | exact ⟨6 - (t + 1), [(5, .sl 600 ac n n), (6, .int .i64 (m)), (7, (.sl 602 aL L2.length L2.length)), (8, .int .i64 (0)), (9, .sl 603 aF (foL n h dv n).length (foL n h dv n).length), (10, .int .i64 (0)), (11, .int .i64 (Int.ofNat (c2 + 1))), (12, .bool _), (13, .int .i64 (Int.ofNat kf)), (44, .sl 600 ac n n), (45, .int .i64 (Int.ofNat n)), (46, .int .i64 (Int.ofNat i)), (14, .int .i64 (Int.ofNat i)), (17, .int .i64 (fr)), (18, .int .i64 (to)), (22, .int .i64 (((t + 1) : Nat) - 2))], _, (addL (100 * (5 - (t + 1)) + (40000000 * (n - (i + 1)) + (2000000 + R))) 900), 100, by omega, ⟨eqF_rfl _, eqF_rfl _, eqF_rfl _, eqF_rfl _, eqF_rfl _, eqF_rfl _, ⟨congrArg (Value.int .i64) (smn (i := c2 + 1) (by omega)), rfl⟩, eqF_rfl _, eqF_rfl _, eqF_rfl _, eqF_rfl _, eqF_rfl _, eqF_rfl _, eqF_rfl _, eqF_rfl _, ⟨congrArg (Value.int .i64) eT, rfl⟩, trivial⟩, WkM.refl _, nM1, t + 1, c2 + 1, _, by omega, ctT hc2 (by first | exact hitA (by assumption) (by assumption) | exact hitB2 (by assumption) (by assumption)), by first | exact flT hfl2 (by assumption) | exact flF1 hfl2 (by assumption) (by assumption) | exact flF0 hfl2 (by assumption) (by assumption), rfl, rfl, rfl, rfl, rfl⟩
          | exact ⟨6 - (t + 1), [(5, .sl 600 ac n n), (6, .int .i64 (m)), (7, (.sl 602 aL L2.length L2.length)), (8, .int .i64 (0)), (9, .sl 603 aF (foL n h dv n).length (foL n h dv n).length), (10, .int .i64 (0)), (11, .int .i64 (Int.ofNat c2)), (12, .bool _), (13, .int .i64 (Int.ofNat kf)), (44, .sl 600 ac n n), (45, .int .i64 (Int.ofNat n)), (46, .int .i64 (Int.ofNat i)), (14, .int .i64 (Int.ofNat i)), (17, .int .i64 (fr)), (18, .int .i64 (to)), (22, .int .i64 (((t + 1) : Nat) - 2))], _, (addL (100 * (5 - (t + 1)) + (40000000 * (n - (i + 1)) + (2000000 + R))) 900), 100, by omega, ⟨eqF_rfl _, eqF_rfl _, eqF_rfl _, eqF_rfl _, eqF_rfl _, eqF_rfl _, eqF_rfl _, eqF_rfl _, eqF_rfl _, eqF_rfl _, eqF_rfl _, eqF_rfl _, eqF_rfl _, eqF_rfl _, eqF_rfl _, ⟨congrArg (Value.int .i64) eT, rfl⟩, trivial⟩, WkM.refl _, nM1, t + 1, c2, _, by omega, ctF hc2 (by first | exact hitN (.inl (by assumption)) (.inl (by assumption)) | exact hitN (.inl (by assumption)) (.inr (by assumption)) | exact hitN (.inr (by assumption)) (.inl (by assumption)) | exact hitN (.inr (by assumption)) (.inr (by assumption))), by first | exact flT hfl2 (by assumption) | exact flF1 hfl2 (by assumption) (by assumption) | exact flF0 hfl2 (by assumption) (by assumption), rfl, rfl, rfl, rfl, rfl⟩
          | trace_state
      · have e5 : t = 5 := by omega
        subst e5
        have t9 : iLt 2 (((5 : Nat) : Int) - 2) = true := rfl
        repeat' ((conv => whnf); first | refine eqS_rfl ?_ | refine eqA_rfl ?_ | refine eqA_of (by assumption) ?_ | refine eqS_of (by rfl) ?_ | refine eqL_rfl ?_ | refine eqJ_rfl ?_ | refine gE ?_ | refine seS_rfl ?_ | refine lsS_of hup ?_ | refine lsS_rfl ?_ | refine brS_tt ?_ | refine brS_ff ?_ | refine brS_not ?_ | refine gI ?_ | refine gT ?_ | refine gF ?_ | refine brS_intro (fun _ => ?_) (fun _ => ?_) | refine gL ?_ | refine gX ?_ | refine gO ?_ | refine gN ?_ | refine gM ?_ | refine gY ?_ | intro _)
        conv => whnf
        exact ⟨n - (i + 1) + 1, [(5, .sl 600 ac n n), (6, .int .i64 (m)), (7, (.sl 602 aL L2.length L2.length)), (8, .int .i64 (0)), (9, .sl 603 aF (foL n h dv n).length (foL n h dv n).length), (10, .int .i64 (0)), (11, .int .i64 (Int.ofNat c2)), (12, .bool fl2), (13, .int .i64 (Int.ofNat kf)), (44, .sl 600 ac n n), (45, .int .i64 (Int.ofNat n)), (46, .int .i64 (Int.ofNat (i + 1)))], _, (addL (40000000 * (n - (i + 1)) + (2000000 + R)) 900), 100, by omega, ⟨eqF_rfl _, eqF_rfl _, eqF_rfl _, eqF_rfl _, eqF_rfl _, eqF_rfl _, eqF_rfl _, eqF_rfl _, eqF_rfl _, eqF_rfl _, eqF_rfl _, ⟨congrArg (Value.int .i64) (smn (i := i + 1) (by omega)), rfl⟩, trivial⟩, WkM.refl _, nM1, i + 1, c2, kf, fl2, by omega, by rw [hc2, hcT5]; show _ = (csA n h dv m i ++ csK n h dv m i).length; rw [List.length_append], hk1, by rw [hfl2, hfT5]; rfl, rfl, rfl, rfl, rfl, rfl⟩
  · have e9 : i = n := by omega
    subst e9
    have t1 := iLt_f (Nat.le_refl i)
    have t2 : iEq (Int.ofNat kf) (Int.ofNat (foL i h dv i).length) = true := by rw [hkf]; exact iEq_self _
    have hflt : fl = false := by rw [hfl]; exact bool_tf fun h9 => hst (stA_iff.1 h9)
    subst hflt
    have hcl9 : L2.length = cn := by rw [hp.length_eq, hcn]
    have hl10 : L2.length ≤ 12 := by rw [hp.length_eq]; exact h12
    have t3 : iEq (Int.ofNat L2.length) (Int.ofNat cn) = true := by rw [hcl9]; exact iEq_self _
    have t4 : iEq (Int.ofNat (foL i h dv i).length) 0 = true → iEq (Int.ofNat cn) 1 = true := fun h9 => by
      have h8 : (foL i h dv i).length = 0 := by have := ieq_t h9; exact Int.ofNat.inj this
      have := csA_one hv hm (foL_nil h8)
      rw [hcn, this]; exact iEq_self _
    have t5 : ∃ b, iEq (Int.ofNat (foL i h dv i).length) 0 = b := ⟨_, rfl⟩
    obtain ⟨b5, t5⟩ := t5
    cases b5
    all_goals first | have t6 := t4 t5 | skip
    all_goals clear hcn hkf hfl t4
    repeat' ((conv => whnf); first | refine eqS_rfl ?_ | refine eqA_rfl ?_ | refine eqA_of (by assumption) ?_ | refine eqS_of (by rfl) ?_ | refine eqL_rfl ?_ | refine eqJ_rfl ?_ | refine gE ?_ | refine seS_rfl ?_ | refine lsS_of hup ?_ | refine lsS_rfl ?_ | refine brS_tt ?_ | refine brS_ff ?_ | refine brS_not ?_ | refine gI ?_ | refine gT ?_ | refine gF ?_ | refine brS_intro (fun _ => ?_) (fun _ => ?_) | refine gL ?_ | refine gX ?_ | refine gO ?_ | refine gN ?_ | refine gM ?_ | refine gY ?_ | intro _)
    all_goals conv => whnf
    all_goals
      refine loS_i (fun jj f mm R' ni => ∃ j : Nat, j ≤ L2.length ∧ jj = L2.length - j + 1 ∧ f = [(5, .sl 600 ac i i), (6, .int .i64 (m)), (7, (.sl 602 aL L2.length L2.length)), (197, (.sl 602 aL L2.length L2.length)), (198, .int .i64 (Int.ofNat L2.length)), (199, .int .i64 (Int.ofNat j))] ∧ mm = [(602, .gr aL L2.length 42 2 (fRL L2)), (600, .gr ac i 37 2 (fun j => [.int .i64 (h j), .int .i64 (dv j)]))] ∧ R' = (addL (100000 * (L2.length - j) + R) 900) ∧ ni = 100) (L2.length + 1) (by omega)
        ⟨[(5, .sl 600 ac i i), (6, .int .i64 (m)), (7, (.sl 602 aL L2.length L2.length)), (197, (.sl 602 aL L2.length L2.length)), (198, .int .i64 (Int.ofNat L2.length)), (199, .int .i64 (Int.ofNat 0))], [(602, .gr aL L2.length 42 2 (fRL L2)), (600, .gr ac i 37 2 (fun j => [.int .i64 (h j), .int .i64 (dv j)]))], (addL (100000 * (L2.length - 0) + R) 900), 100, ⟨eqF_rfl _, eqF_rfl _, eqF_rfl _, eqF_rfl _, eqF_rfl _, eqF_rfl _, trivial⟩, by exact WS, nM1, 0, by omega, by omega, rfl, rfl, rfl, rfl⟩ ?_
      rintro _ _ _ _ _ ⟨j, hj, rfl, rfl, rfl, rfl, rfl⟩
      by_cases hjl : j < L2.length
      · have u1 := iLt_t hjl
        obtain ⟨v1, v2, v3⟩ := at_bd hv hm hp hjl
        obtain ⟨k, w1, hk, hmem, cI, cU⟩ := at_seg hv hm hp hjl
        obtain ⟨x, hx⟩ : ∃ x, x = L2.getD j 0 := ⟨_, rfl⟩
        have hlt9 : 0 < j → L2.getD (j - 1) 0 < x := fun h0 => by rw [hx]; exact srt_lt hv hm hp hS (by omega) hjl
        have v9 : 0 < j → Vb (L2.getD (j - 1) 0) 3600 6000 := fun h0 => (at_bd hv hm hp (show j - 1 < L2.length by omega)).1
        rw [← hx] at v1 v2 v3 cI cU
        have hd := x.den_pos
        have hd2 := v1.d
        have n0 : 0 ≤ x.num := Rat.num_nonneg.2 v2
        have n1 : x.num < 3600 * (x.den : Int) := lt_iff_num.1 v3
        have k16 := c16 F (d + 8) x v1 v2 v3
        have k17 := c17 F (d + 7) hF ac i 0 i h dv hv x.num x.den _ rfl (by omega) ⟨n0, n1⟩ k hk cU.hi cU.be
        obtain ⟨Y0, Y1, X1⟩ := cu_bd hv hk (D0 := (x.den : Int)) (by omega) (N0 := x.num) ⟨n0, n1⟩
        have k18 := c18 F (d + 8) (cuX i h dv (cuU h x.num x.den) x.den k) (cuY i h x.den k) m ⟨Y0, Y1⟩ X1 (by omega)
        rw [decide_eq_true (csU_leads hv hm hk cI cU)] at k18
        rw [hx] at k16 k17 k18
        by_cases hj0 : j = 0
        · subst hj0
          have u2 : iLt 0 (Int.ofNat 0) = false := rfl
          repeat' ((conv => whnf); first | refine eqS_rfl ?_ | refine eqA_rfl ?_ | refine eqA_of (by assumption) ?_ | refine eqS_of (by rfl) ?_ | refine eqL_rfl ?_ | refine eqJ_rfl ?_ | refine gE ?_ | refine seS_rfl ?_ | refine lsS_of hup ?_ | refine lsS_rfl ?_ | refine brS_tt ?_ | refine brS_ff ?_ | refine brS_not ?_ | refine gI ?_ | refine gT ?_ | refine gF ?_ | refine brS_intro (fun _ => ?_) (fun _ => ?_) | refine gL ?_ | refine gX ?_ | refine gO ?_ | refine gN ?_ | refine gM ?_ | refine gY ?_ | refine call_pure k16 ?_ | refine call_readL k17 (addL (50000 + (100000 * (L2.length - (0 + 1)) + R)) 900) (by rfl) (by exact SeesM.cons 1000 (sees_gr (i := 600) (by rfl)) (SeesM.nil _) (fun _ _ _ _ _ _ x hx => by cases hx)) (nM1) ?_ | refine call_pure k18 ?_ | refine ixS_of eix (by omega) ?_ | intro _)
          conv => whnf
          exact ⟨L2.length - (0 + 1) + 1, [(5, .sl 600 ac i i), (6, .int .i64 (m)), (7, (.sl 602 aL L2.length L2.length)), (197, (.sl 602 aL L2.length L2.length)), (198, .int .i64 (Int.ofNat L2.length)), (199, .int .i64 (Int.ofNat (0 + 1)))], [(602, .gr aL L2.length 42 2 (fRL L2)), (600, .gr ac i 37 2 (fun j => [.int .i64 (h j), .int .i64 (dv j)]))], (addL (100000 * (L2.length - (0 + 1)) + R) 900), 100, by omega, ⟨eqF_rfl _, eqF_rfl _, eqF_rfl _, eqF_rfl _, eqF_rfl _, eqF_rfl _, trivial⟩, by exact WS, nM1, 0 + 1, by omega, rfl, rfl, rfl, rfl, rfl⟩
        · have u2 : iLt 0 (Int.ofNat j) = true := iLt_t (a := 0) (b := j) (by omega)
          have eix : wr .i64 (Int.sub (Int.ofNat j) 1) = Int.ofNat (j - 1) := len1 (by omega) (by omega)
          have v8 := v9 (by omega)
          have hl8 := lt_rk.1 (hlt9 (by omega))
          rw [hx] at v1 hl8
          have p1 := mlZ (a := (L2.getD (j - 1) 0).num) (b := (L2.getD j 0).den) (B := 3600 * 6000 * 6000) (by decide) (Nat.mul_le_mul v8.nab v1.d)
          have p2 := mlZ (a := (L2.getD j 0).num) (b := (L2.getD (j - 1) 0).den) (B := 3600 * 6000 * 6000) (by decide) (Nat.mul_le_mul v1.nab v8.d)
          have u3 : iLt (wr .i64 (Int.mul (L2.getD (j - 1) 0).num (Int.ofNat (L2.getD j 0).den))) (wr .i64 (Int.mul (L2.getD j 0).num (Int.ofNat (L2.getD (j - 1) 0).den))) = true := by rw [p1, p2]; exact ltT hl8
          repeat' ((conv => whnf); first | refine eqS_rfl ?_ | refine eqA_rfl ?_ | refine eqA_of (by assumption) ?_ | refine eqS_of (by rfl) ?_ | refine eqL_rfl ?_ | refine eqJ_rfl ?_ | refine gE ?_ | refine seS_rfl ?_ | refine lsS_of hup ?_ | refine lsS_rfl ?_ | refine brS_tt ?_ | refine brS_ff ?_ | refine brS_not ?_ | refine gI ?_ | refine gT ?_ | refine gF ?_ | refine brS_intro (fun _ => ?_) (fun _ => ?_) | refine gL ?_ | refine gX ?_ | refine gO ?_ | refine gN ?_ | refine gM ?_ | refine gY ?_ | refine call_pure k16 ?_ | refine call_readL k17 (addL (50000 + (100000 * (L2.length - (j + 1)) + R)) 900) (by rfl) (by exact SeesM.cons 1000 (sees_gr (i := 600) (by rfl)) (SeesM.nil _) (fun _ _ _ _ _ _ x hx => by cases hx)) (nM1) ?_ | refine call_pure k18 ?_ | refine ixS_of eix (by omega) ?_ | intro _)
          conv => whnf
          exact ⟨L2.length - (j + 1) + 1, [(5, .sl 600 ac i i), (6, .int .i64 (m)), (7, (.sl 602 aL L2.length L2.length)), (197, (.sl 602 aL L2.length L2.length)), (198, .int .i64 (Int.ofNat L2.length)), (199, .int .i64 (Int.ofNat (j + 1)))], [(602, .gr aL L2.length 42 2 (fRL L2)), (600, .gr ac i 37 2 (fun j => [.int .i64 (h j), .int .i64 (dv j)]))], (addL (100000 * (L2.length - (j + 1)) + R) 900), 100, by omega, ⟨eqF_rfl _, eqF_rfl _, eqF_rfl _, eqF_rfl _, eqF_rfl _, ⟨congrArg (Value.int .i64) (smn (i := j + 1) (by omega)), rfl⟩, trivial⟩, by exact WS, nM1, j + 1, by omega, rfl, rfl, rfl, rfl, rfl⟩
      · have e8 : j = L2.length := by omega
        subst e8
        have u1 := iLt_f (Nat.le_refl L2.length)
        repeat' ((conv => whnf); first | refine eqS_rfl ?_ | refine eqA_rfl ?_ | refine eqA_of (by assumption) ?_ | refine eqS_of (by rfl) ?_ | refine eqL_rfl ?_ | refine eqJ_rfl ?_ | refine gE ?_ | refine seS_rfl ?_ | refine lsS_of hup ?_ | refine lsS_rfl ?_ | refine brS_tt ?_ | refine brS_ff ?_ | refine brS_not ?_ | refine gI ?_ | refine gT ?_ | refine gF ?_ | refine brS_intro (fun _ => ?_) (fun _ => ?_) | refine gL ?_ | refine gX ?_ | refine gO ?_ | refine gN ?_ | refine gM ?_ | refine gY ?_ | refine call_w rfl ?_ | intro _)
        conv => whnf
        exact ⟨rfl, nM1⟩

theorem l3 (F d : Nat) (hF : 300 < F) (a : Option Addr) (N e c : Nat) (p0 p1 : Nat → Nat) (w : Nat) (hp0 : ∀ j, p0 j < 65536) (hp1 : ∀ j, p1 j < 65536) (hw : w < 256) (y : Nat) (hy : y < 65536) : ReadC (CL F (d + 10)) 3 [.agg [.sl 1000 a N c, .int .u8 (Int.ofNat w)], .int .u16 (Int.ofNat y)] [(1000, .ro a N e 2 fun j => [.int .u16 (Int.ofNat (p0 j)), .int .u16 (Int.ofNat (p1 j))])] (500000000 + 900) (.bool true) := by
  obtain ⟨n, en⟩ : ∃ n, n = rN N := ⟨_, rfl⟩
  obtain ⟨h, eh⟩ : ∃ h, h = rH N p0 := ⟨_, rfl⟩
  obtain ⟨dv, ed⟩ : ∃ dv, dv = rD N p1 w := ⟨_, rfl⟩
  have hv : VC n h dv := by rw [en, eh, ed]; exact rVC N p0 p1 w hw
  have hn5 : n ≤ 5 := by rw [en]; unfold rN; split <;> omega
  have hn0 := hv.n0
  obtain ⟨m, em⟩ : ∃ m : Int, m = ((y % 3600 : Nat) : Int) := ⟨_, rfl⟩
  have hm : 0 ≤ m ∧ m < 3600 := by rw [em]; have := Nat.mod_lt y (show 0 < 3600 by omega); omega
  have em2 : Int.tmod (wr .i64 (Int.ofNat y)) 3600 = m := by rw [smn (i := y) (by omega), em]; exact tmN y 3600
  by_cases hst : ∃ k, k < n ∧ stK n h dv m k
  · exact l3s F d hF a N e c p0 p1 w hp0 hp1 hw y hy n h dv en eh ed hv hn5 m hm em2 hst
  · exact l3n F d hF a N e c p0 p1 w hp0 hp1 hw y hy n h dv en eh ed hv hn5 m hm em2 hst
end Go.Proofs.Ytogncjicndbahaa
