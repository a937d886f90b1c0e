/- Open runs: what weights prove. -/
import Derived.Test.YtkkmgaigingmpaaOpenJ
namespace Go.Proofs.Ytkkmgaigingmpaa
open Go.Ab
attribute [local irreducible] iLt iEq wr runLoop ld1 ldN callF Ab.stN Ab.st1
set_option maxRecDepth 100000
set_option maxHeartbeats 4000000

theorem wr_id {x : Int} (h : sm x) : wr .i64 x = x := by
  rw [wr_eq]
  exact IntWalk.i64_in _ ⟨by have := h.1; show (-9223372036854775808 : Int) ≤ x; omega, by have := h.2; show x ≤ (9223372036854775807 : Int); omega⟩
theorem rds_all : ∀ {ss : List (Int × Int)}, rds ss = 0 → ∀ p ∈ ss, p.1.natAbs ≤ 1000000 ∧ p.2.natAbs ≤ 1000000
  | [], _, _, h => by cases h
  | (lo, hi) :: l, h, p, hp => by
    unfold rds at h
    cases h1 : iLt lo (-1000000) with
    | true => rw [h1] at h; cases h
    | false =>
      cases h2 : iLt hi lo with
      | true => rw [h1, h2] at h; cases h
      | false =>
        cases h3 : iLt 1000000 hi with
        | true => rw [h1, h2, h3] at h; cases h
        | false =>
          rw [h1, h2, h3] at h
          cases hp with
          | head => have := iLt_false h1; have := iLt_false h2; have := iLt_false h3; simp only; omega
          | tail _ hp => exact rds_all h p hp
theorem wi_all : ∀ {ws : List Int}, wi 10000 ws = true → ∀ w ∈ ws, w.natAbs ≤ 10000
  | [], _, _, h => by cases h
  | x :: l, h, w, hw => by
    have e : wi 10000 (x :: l) = (bif iLt x (-10000) then false else bif iLt 10000 x then false else wi 10000 l) := rfl
    rw [e] at h
    cases h1 : iLt x (-10000) with
    | true => rw [h1] at h; cases h
    | false =>
      cases h2 : iLt 10000 x with
      | true => rw [h1, h2] at h; cases h
      | false =>
        rw [h1, h2] at h
        cases hw with
        | head => have := iLt_false h1; have := iLt_false h2; omega
        | tail _ hw => exact wi_all h w hw
theorem mul_small {w a : Int} (hw : w.natAbs ≤ 10000) (ha : a.natAbs ≤ 1000000) : wr .i64 (Int.mul w a) = w * a ∧ (w * a).natAbs ≤ 10000000000 := by
  have h : (w * a).natAbs ≤ 10000 * 1000000 := by rw [Int.natAbs_mul]; exact Nat.mul_le_mul hw ha
  exact ⟨wr_id (x := w * a) ⟨by omega, by omega⟩, by omega⟩
theorem reach_small : ∀ {ws : List Int} {ss : List (Int × Int)} {lo hi : Int} {n : Nat}, (∀ w ∈ ws, w.natAbs ≤ 10000) → (∀ p ∈ ss, p.1.natAbs ≤ 1000000 ∧ p.2.natAbs ≤ 1000000) → ss.length + n ≤ 7 → lo.natAbs ≤ n * 10000000000 → hi.natAbs ≤ n * 10000000000 →
    (reachS lo hi ws ss).1.natAbs ≤ 70000000000 ∧ (reachS lo hi ws ss).2.natAbs ≤ 70000000000
  | [], ss, lo, hi, n, _, _, hn, h1, h2 => by
    have e : reachS lo hi [] ss = (lo, hi) := by cases ss <;> rfl
    rw [e]; simp only; omega
  | w :: ws, [], lo, hi, n, _, _, hn, h1, h2 => by
    show lo.natAbs ≤ _ ∧ hi.natAbs ≤ _
    omega
  | w :: ws, (a, b) :: ss, lo, hi, n, hw, hs, hn, h1, h2 => by
    obtain ⟨ea, la⟩ := mul_small (hw w (by simp)) (hs (a, b) (by simp)).1
    obtain ⟨eb, lb⟩ := mul_small (hw w (by simp)) (hs (a, b) (by simp)).2
    simp only [List.length_cons] at hn
    unfold reachS
    rw [ea, eb]
    have m1 : (mn (w * a) (w * b)).natAbs ≤ 10000000000 := by unfold mn; cases iLt (w * b) (w * a) <;> simp only [cond_true, cond_false] <;> assumption
    have m2 : (mx (w * a) (w * b)).natAbs ≤ 10000000000 := by unfold mx; cases iLt (w * a) (w * b) <;> simp only [cond_true, cond_false] <;> assumption
    have s1 : wr .i64 (Int.add lo (mn (w * a) (w * b))) = lo + mn (w * a) (w * b) := wr_id (x := lo + mn (w * a) (w * b)) ⟨by omega, by omega⟩
    have s2 : wr .i64 (Int.add hi (mx (w * a) (w * b))) = hi + mx (w * a) (w * b) := wr_id (x := hi + mx (w * a) (w * b)) ⟨by omega, by omega⟩
    rw [s1, s2]
    exact reach_small (n := n + 1) (fun x hx => hw x (by simp [hx])) (fun p hp => hs p (by simp [hp])) (by omega) (by omega) (by omega)
def z2 : Value := .agg ⟨[.int .i64 0, .int .i64 0]⟩
def bd (e : Int) (rows : List (List Int)) (ss : List (Int × Int)) (u : Int) (ws : List Int) : Value :=
  bif iEq (rd e rows ss) 0 then (bif iEq (cw rows u ws) 0 then .tuple ⟨[fr (reachS 0 0 ws ss).1 u.toNat, fr (reachS 0 0 ws ss).2 u.toNat, .int .i64 0]⟩ else .tuple ⟨[z2, z2, .int .i64 (cw rows u ws)]⟩) else .tuple ⟨[z2, z2, .int .i64 (rd e rows ss)]⟩
structure Fine (rows : List (List Int)) (ss : List (Int × Int)) (u : Int) (ws : List Int) : Prop where
  u : ∃ n : Nat, u = Int.ofNat n ∧ 0 < n ∧ n ≤ 10000
  len : ws.length = rows.length
  wi : wi 10000 ws = true
theorem cw_zero {rows : List (List Int)} {ss : List (Int × Int)} {u : Int} {ws : List Int} (h : iEq (cw rows u ws) 0 = true) : Fine rows ss u ws ∧ sumOK u (sumRows [0, 0, 0, 0] ws rows) = true := by
  have h := iEq_true h
  unfold cw at h
  cases h1 : iEq (Int.ofNat ws.length) (Int.ofNat rows.length) with
  | false => rw [h1] at h; cases h
  | true =>
    cases h2 : iLt u 1 with
    | true => rw [h1, h2] at h; cases h
    | false =>
      cases h3 : iLt 10000 u with
      | true => rw [h1, h2, h3] at h; cases h
      | false =>
        cases h4 : wi 10000 ws with
        | false => rw [h1, h2, h3, h4] at h; cases h
        | true =>
          cases h5 : sumOK u (sumRows [0, 0, 0, 0] ws rows) with
          | false => rw [h1, h2, h3, h4, h5] at h; cases h
          | true =>
            have a1 := iLt_false h2
            have a2 := iLt_false h3
            refine ⟨⟨⟨u.toNat, ?_, by omega, by omega⟩, ?_, h4⟩, rfl⟩
            · show u = (u.toNat : Int); omega
            · have := iEq_true h1; have : (ws.length : Int) = (rows.length : Int) := this; omega
theorem rd_zero {e : Int} {rows : List (List Int)} {ss : List (Int × Int)} (h : iEq (rd e rows ss) 0 = true) : Good e rows ∧ ss.length = rows.length ∧ rds ss = 0 := by
  unfold rd at h
  cases h1 : iEq (ck e rows) 0 with
  | false => rw [h1] at h; simp only [cond_false] at h; rw [h] at h1; cases h1
  | true =>
    rw [h1] at h
    cases h2 : iEq (Int.ofNat ss.length) (Int.ofNat rows.length) with
    | false => rw [h2] at h; have h := iEq_true h; cases h
    | true =>
      rw [h2] at h
      have := iEq_true h2
      have : (ss.length : Int) = (rows.length : Int) := this
      exact ⟨ck_zero h1, by omega, iEq_true h⟩


theorem checkReadings70_call (F d : Nat) (s : St) (hs : s.nx + 1000 < 262144) (e : Int) (v : Value) (rows : List (List Int)) (h : SlR s v rows) (hF : rows.length < F) (hrl : rows.length < 9223372036854775807) (hFr : ∀ r ∈ rows, r.length < F) (hr : ∀ r ∈ rows, r.length < 9223372036854775807)
    (vs : Value) (ss : List (Int × Int)) (hss : SlS s vs ss) (hFs : ss.length < F) (hsl : ss.length < 9223372036854775807) :
    Sat (fun K => CL F (d + 3) (fnv 70) [.agg ⟨[.int .i64 e, v]⟩, vs] K s) fun x s' => Kp 10 s s' ∧ x = .int .i64 (rd e rows ss) := Sat.call rfl (checkReadings70 F d s hs e v rows h hF hrl hFr hr vs ss hss hFs hsl)
theorem bound30 (F d : Nat) (s : St) (hs : s.nx + 20000 < 262144) (e : Int) (v : Value) (rows : List (List Int)) (h : SlR s v rows) (hF : rows.length + 100 < F) (hrl : rows.length < 9223372036854775807) (hFr : ∀ r ∈ rows, r.length < F) (hr : ∀ r ∈ rows, r.length < 9223372036854775807)
    (vs : Value) (ss : List (Int × Int)) (hss : SlS s vs ss) (hFs : ss.length + 100 < F) (hsl : ss.length < 9223372036854775807) (u : Int) (vo : Value) (ws : List Int) (hvo : SlI s vo ws) (hFw : ws.length < F) (hwl : ws.length < 9223372036854775807) :
    Sat (fun K => (cFun Try.prog F 30).run (CL F (d + 3)) [.agg ⟨[.int .i64 e, v]⟩, vs, .agg ⟨[.int .i64 u, vo]⟩] K s) fun x s' => Kp 15000 s s' ∧ x = bd e rows ss u ws := by
  intro K r hK
  change (cFun Try.prog F 30).run (CL F (d + 3)) [.agg ⟨[.int .i64 e, v]⟩, vs, .agg ⟨[.int .i64 u, vo]⟩] K s = r
  have fin : ∀ s', Kp 15000 s s' → ∀ x, x = bd e rows ss u ws → K x s' = r := fun s' hk x hx => hK _ _ ⟨hk, by rw [hx]⟩
  unfold bd at fin
  conv => lhs; whnf
  rw [blt_of (show s.nx < 262144 by omega)]
  generalize hs1 : s.push _ = s1
  have hP : Own s1 s.nx [.int .i64 e, v] := by subst hs1; exact Own.push (l := [.int .i64 e, v]) (by show 2 ≤ 32768; omega) (by omega) rfl
  have ks1 : Kp 1 s s1 := by subst hs1; exact Kp.push _ (by omega)
  clear hs1
  have ns1 := ks1.2
  conv => lhs; whnf
  rw [blt_of (show s1.nx < 262144 by omega)]
  generalize hs2 : s1.push _ = s2
  have hW : Own s2 s1.nx [.int .i64 u, vo] := by subst hs2; exact Own.push (l := [.int .i64 u, vo]) (by show 2 ≤ 32768; omega) (by omega) rfl
  have ks2 : Kp 1 s1 s2 := by subst hs2; exact Kp.push _ (by omega)
  clear hs2
  have ns2 := ks2.2
  conv => lhs; whnf
  rw [blt_of (show s2.nx < 262144 by omega)]
  generalize hs3 : s2.push _ = s3
  have hL : Own s3 s2.nx [.int .i64 0, .int .i64 0] := by subst hs3; exact Own.push (l := [.int .i64 0, .int .i64 0]) (by show 2 ≤ 32768; omega) (by omega) rfl
  have ks3 : Kp 1 s2 s3 := by subst hs3; exact Kp.push _ (by omega)
  clear hs3
  have ns3 := ks3.2
  conv => lhs; whnf
  rw [blt_of (show s3.nx < 262144 by omega)]
  generalize hs4 : s3.push _ = s4
  have hH : Own s4 s3.nx [.int .i64 0, .int .i64 0] := by subst hs4; exact Own.push (l := [.int .i64 0, .int .i64 0]) (by show 2 ≤ 32768; omega) (by omega) rfl
  have ks4 : Kp 1 s3 s4 := by subst hs4; exact Kp.push _ (by omega)
  clear hs4
  have ns4 := ks4.2
  conv => lhs; whnf
  have b1 := hP.1
  have b2 := hW.1
  have b3 := hL.1
  have b4 := hH.1
  have k14 := (ks1.trans ks2).trans (ks3.trans ks4)
  have hP4 := (hP.keep (ks2.1.trans (ks3.1.trans ks4.1))).at
  have hW4 := (hW.keep (ks3.1.trans ks4.1)).at
  have hL4 := hL.keep ks4.1
  refine Eq.trans (hP4.ldN rfl rfl _) ?_
  conv => lhs; whnf
  refine (checkReadings70_call F d s4 (by omega) e v rows (h.keep k14.1) (by omega) hrl hFr hr vs ss (hss.keep k14.1) (by omega) hsl) _ _ ?_
  rintro x s5 ⟨k5, rfl⟩
  have n5 := k5.2
  have k15 := k14.trans k5
  have hP5 := hP4.keep k5.1
  have hW5 := hW4.keep k5.1
  have hL5 := hL4.keep k5.1
  have hH5 := hH.keep k5.1
  conv => lhs; whnf
  generalize hc : iEq _ _ = c1
  have hc : iEq (rd e rows ss) 0 = c1 := hc
  cases c1
  · rw [hc] at fin
    conv => lhs; whnf
    refine hL5.stN (o := 0) (l := [.int .i64 0, .int .i64 0]) (by show 0 + 2 ≤ 2; omega) rfl ?_ rfl
    intro s6 n6 k6 o6 hL6
    have k6 := k6 s (by omega) k15.1
    have hL6 : Own s6 s2.nx [.int .i64 0, .int .i64 0] := hL6
    have hH6 := hH5.same n6 (o6 s3.nx (by omega))
    conv => lhs; whnf
    refine hH6.stN (o := 0) (l := [.int .i64 0, .int .i64 0]) (by show 0 + 2 ≤ 2; omega) rfl ?_ rfl
    intro s7 n7 k7 o7 hH7
    have k7 := k7 s (by omega) k6
    have hH7 : Own s7 s3.nx [.int .i64 0, .int .i64 0] := hH7
    have hL7 := hL6.same n7 (o7 s2.nx (by omega))
    conv => lhs; whnf
    refine Eq.trans (hL7.at.ldN rfl rfl _) ?_
    conv => lhs; whnf
    refine Eq.trans (hH7.at.ldN rfl rfl _) ?_
    conv => lhs; whnf
    exact fin s7 ⟨k7, by have := k15.2; omega⟩ _ rfl
  · rw [hc] at fin
    obtain ⟨hG, hlen, hrds⟩ := rd_zero hc
    conv => lhs; whnf
    refine Eq.trans (hP5.ldN rfl rfl _) ?_
    conv => lhs; whnf
    refine Eq.trans (hW5.ldN rfl rfl _) ?_
    conv => lhs; whnf
    have hcw := checkWeights71 F (d + 1) s5 (by omega) e v rows (h.keep k15.1) hG (by omega) u vo ws (hvo.keep k15.1) hFw hwl
    refine (Sat.call (F := F) (d := d + 2) (g := 71) rfl hcw) _ _ ?_
    rintro x s6 ⟨k6, rfl⟩
    have n6 := k6.2
    have k16 := k15.trans k6
    have hP6 := hP5.keep k6.1
    have hW6 := hW5.keep k6.1
    have hL6 := hL5.keep k6.1
    have hH6 := hH5.keep k6.1
    conv => lhs; whnf
    generalize hc : iEq _ _ = c1
    have hc : iEq (cw rows u ws) 0 = c1 := hc
    cases c1
    · rw [hc] at fin
      conv => lhs; whnf
      refine hL6.stN (o := 0) (l := [.int .i64 0, .int .i64 0]) (by show 0 + 2 ≤ 2; omega) rfl ?_ rfl
      intro s7 n7 k7 o7 hL7
      have k7 := k7 s (by omega) k16.1
      have hL7 : Own s7 s2.nx [.int .i64 0, .int .i64 0] := hL7
      have hH7 := hH6.same n7 (o7 s3.nx (by omega))
      conv => lhs; whnf
      refine hH7.stN (o := 0) (l := [.int .i64 0, .int .i64 0]) (by show 0 + 2 ≤ 2; omega) rfl ?_ rfl
      intro s8 n8 k8 o8 hH8
      have k8 := k8 s (by omega) k7
      have hH8 : Own s8 s3.nx [.int .i64 0, .int .i64 0] := hH8
      have hL8 := hL7.same n8 (o8 s2.nx (by omega))
      conv => lhs; whnf
      refine Eq.trans (hL8.at.ldN rfl rfl _) ?_
      conv => lhs; whnf
      refine Eq.trans (hH8.at.ldN rfl rfl _) ?_
      conv => lhs; whnf
      exact fin s8 ⟨k8, by have := k16.2; omega⟩ _ rfl
    · rw [hc] at fin
      obtain ⟨hFi, _⟩ := cw_zero (ss := ss) hc
      obtain ⟨B0, rfl, hB1, hB2⟩ := hFi.u
      have hsmall := reach_small (n := 0) (lo := 0) (hi := 0) (wi_all hFi.wi) (rds_all hrds) (by have := hG.few; omega) (Nat.zero_le _) (Nat.zero_le _)
      have hsB : sm (Int.ofNat B0) := ⟨by show (-9223372036854775808 : Int) < (B0 : Int); omega, by show (B0 : Int) < 9223372036854775808; omega⟩
      conv => lhs; whnf
      refine Eq.trans (hW6.ld1 (j := 1) rfl rfl _) ?_
      conv => lhs; whnf
      have hre := reach72 F (d + 2) s6 (by omega) vo vs ws ss (hvo.keep k16.1) (hss.keep k16.1) (by rw [hFi.len, hlen]) (by have := hG.few; omega) (by omega)
      refine (Sat.call (F := F) (d := d + 2) (g := 72) rfl hre) _ _ ?_
      rintro x s7 ⟨k7, rfl⟩
      have n7 := k7.2
      have k17 := k16.trans k7
      have hW7 := hW6.keep k7.1
      have hL7 := hL6.keep k7.1
      have hH7 := hH6.keep k7.1
      generalize reachS 0 0 ws ss = lh at hsmall fin ⊢
      obtain ⟨lo, hi⟩ := lh
      obtain ⟨hs1, hs2⟩ := hsmall
      simp only at hs1 hs2 fin
      have p1 : lo.natAbs * B0 < 2 ^ 62 := by have := Nat.mul_le_mul hs1 hB2; omega
      have p2 : hi.natAbs * B0 < 2 ^ 62 := by have := Nat.mul_le_mul hs2 hB2; omega
      conv => lhs; whnf
      generalize hb : Nat.ble (Nat.add s7.nx _) 262144 = cb
      have hb : cb = true := hb.symm.trans (Nat.ble_eq_true_of_le (Nat.le_trans (Nat.add_le_add_left (Nat.le_of_ble_eq_true rfl : _ ≤ 60) _) (show s7.nx + 60 ≤ 262144 by omega)))
      subst hb
      generalize ht7 : St.mk s7.h (Nat.add s7.nx _) = t7
      have kt7 : Kp 60 s7 t7 := by subst ht7; exact Kp.more (Nat.le_of_ble_eq_true rfl)
      clear ht7
      conv => lhs; whnf
      have m7 := kt7.2
      have hW7' := hW7.keep kt7.1
      refine Eq.trans (hW7'.ld1 (j := 0) rfl rfl _) ?_
      conv => lhs; whnf
      refine Eq.trans (hW7'.ld1 (j := 0) rfl rfl _) ?_
      conv => lhs; whnf
      have k7t := k17.trans kt7
      have hL7' := hL7.keep kt7.1
      have hH7' := hH7.keep kt7.1
      refine (Sat.call (F := F) (d := d + 2) (g := 73) rfl (fraction73 F (d + 1) t7 (by omega) lo B0 hB1 ⟨by omega, by omega⟩ hsB p1 (by omega))) _ _ ?_
      rintro x s8 ⟨k8, rfl⟩
      have n8 := k8.2
      have k18 := k7t.trans k8
      have hW8 := hW7'.keep k8.1
      have hL8 := hL7'.keep k8.1
      have hH8 := hH7'.keep k8.1
      conv => lhs; whnf
      have ieq : iEq (Int.ofNat B0) (Int.ofNat B0) = true := by rw [iEq_eq]; simp
      generalize hrc : recheck _ _ s8 = rc
      have hrc2 : rc = true := by
        rw [← hrc]
        refine recheck_of fun x hx => ?_
        rcases List.mem_cons.1 hx with rfl | hx
        · conv => lhs; whnf
          refine Eq.trans (hW8.ld1 (j := 0) rfl rfl _) ?_
          conv => lhs; whnf
          exact ieq
        · rcases List.mem_cons.1 hx with rfl | hx
          · conv => lhs; whnf
            refine Eq.trans (hW8.ld1 (j := 0) rfl rfl _) ?_
            conv => lhs; whnf
            exact ieq
          · cases hx
      subst hrc2
      conv => lhs; whnf
      refine (Sat.call (F := F) (d := d + 2) (g := 73) rfl (fraction73 F (d + 1) s8 (by omega) hi B0 hB1 ⟨by omega, by omega⟩ hsB p2 (by omega))) _ _ ?_
      rintro x s9 ⟨k9, rfl⟩
      have n9 := k9.2
      have k19 := k18.trans k9
      have hW9 := hW8.keep k9.1
      have hL9 := hL8.keep k9.1
      have hH9 := hH8.keep k9.1
      conv => lhs; whnf
      have c1 := hL9.1
      have c2 := hH9.1
      refine hL9.stN (o := 0) (l := [.int .i64 (wr .i64 (Int.tdiv lo (dv lo (Int.ofNat B0)))), .int .i64 (wr .i64 (Int.tdiv (Int.ofNat B0) (dv lo (Int.ofNat B0))))]) (by show 0 + 2 ≤ 2; omega) rfl ?_ rfl
      intro t1 n1 j1 o1 hL1
      have j1 := j1 s (by omega) k19.1
      have hL1 : Own t1 s2.nx [.int .i64 (wr .i64 (Int.tdiv lo (dv lo (Int.ofNat B0)))), .int .i64 (wr .i64 (Int.tdiv (Int.ofNat B0) (dv lo (Int.ofNat B0))))] := hL1
      have hH1 := hH9.same n1 (o1 s3.nx (by omega))
      conv => lhs; whnf
      refine hH1.stN (o := 0) (l := [.int .i64 (wr .i64 (Int.tdiv hi (dv hi (Int.ofNat B0)))), .int .i64 (wr .i64 (Int.tdiv (Int.ofNat B0) (dv hi (Int.ofNat B0))))]) (by show 0 + 2 ≤ 2; omega) rfl ?_ rfl
      intro t2 n2' j2 o2 hH2
      have j2 := j2 s (by omega) j1
      have hH2 : Own t2 s3.nx [.int .i64 (wr .i64 (Int.tdiv hi (dv hi (Int.ofNat B0)))), .int .i64 (wr .i64 (Int.tdiv (Int.ofNat B0) (dv hi (Int.ofNat B0))))] := hH2
      have hL2 := hL1.same n2' (o2 s2.nx (by omega))
      conv => lhs; whnf
      refine Eq.trans (hL2.at.ldN rfl rfl _) ?_
      conv => lhs; whnf
      refine Eq.trans (hH2.at.ldN rfl rfl _) ?_
      conv => lhs; whnf
      exact fin t2 ⟨j2, by have := k19.2; omega⟩ _ rfl

end Go.Proofs.Ytkkmgaigingmpaa
