/- Open runs: what weights prove, by the reference. -/
import Derived.Test.YtkkmgaigingmpaaOpenK
namespace Go.Proofs.Ytkkmgaigingmpaa
open Go.Ab
attribute [local irreducible] iLt iEq wr runLoop ld1 ldN callF Ab.stN Ab.st1
set_option maxRecDepth 100000
set_option maxHeartbeats 4000000

theorem addRow_append (w : Int) : ∀ {xs l : List Int} (ys : List Int), l.length ≤ xs.length → addRow w (xs ++ ys) l = addRow w xs l ++ ys
  | [], [], ys, _ => by cases ys <;> rfl
  | x :: xs, [], ys, _ => rfl
  | [], _ :: _, _, h => by simp at h
  | x :: xs, a :: l, ys, h => by simp only [List.cons_append, addRow, addRow_append w (xs := xs) (l := l) ys (by simpa using h)]
theorem sumRows_append : ∀ {ws : List Int} {rows : List (List Int)} {xs : List Int} (ys : List Int), (∀ r ∈ rows, r.length ≤ xs.length) → sumRows (xs ++ ys) ws rows = sumRows xs ws rows ++ ys
  | [], rows, xs, ys, _ => by cases rows <;> rfl
  | w :: ws, [], xs, ys, _ => rfl
  | w :: ws, r :: rs, xs, ys, h => by
    have hr := h r (by simp)
    show sumRows (addRow w (xs ++ ys) r) ws rs = sumRows (addRow w xs r) ws rs ++ ys
    rw [addRow_append w ys hr]
    exact sumRows_append ys fun q hq => by rw [addRow_length w hr]; exact h q (by simp [hq])
theorem sumRows_length : ∀ {ws : List Int} {rows : List (List Int)} {xs : List Int}, (∀ r ∈ rows, r.length ≤ xs.length) → (sumRows xs ws rows).length = xs.length
  | [], rows, xs, _ => by cases rows <;> rfl
  | w :: ws, [], xs, _ => rfl
  | w :: ws, r :: rs, xs, h => by
    have hr := h r (by simp)
    show (sumRows (addRow w xs r) ws rs).length = _
    rw [sumRows_length fun q hq => by rw [addRow_length w hr]; exact h q (by simp [hq]), addRow_length w hr]
theorem zs_append : ∀ (l : List Int) (m : Nat), zs (l ++ List.replicate m 0) = zs l
  | [], 0 => rfl
  | [], m + 1 => by
    have := zs_append [] m
    rw [List.nil_append] at this
    show (iEq 0 0 && zs (List.replicate m 0)) = true
    rw [this, iEq_self]; rfl
  | x :: l, m => by show (iEq x 0 && zs (l ++ List.replicate m 0)) = _; rw [zs_append l m]; rfl
/-- both sums say the same -/
theorem sumOK_eq {n : Nat} {rows : List (List Int)} (hG : Good (Int.ofNat n) rows) (u : Int) (ws : List Int) : sumOK u (sumRows [0, 0, 0, 0] ws rows) = sumOK u (sumRows (List.replicate (n + 1) 0) ws rows) := by
  have hn : n ≤ 3 := by have : (n : Int) ≤ 3 := hG.hi; omega
  have e : ([0, 0, 0, 0] : List Int) = List.replicate (n + 1) 0 ++ List.replicate (3 - n) 0 := by
    rw [List.replicate_append_replicate, show n + 1 + (3 - n) = 4 from by omega]; rfl
  have hl : ∀ r ∈ rows, r.length ≤ (List.replicate (n + 1) (0 : Int)).length := fun r hr => by
    have := (hG.all r hr).1
    have : (r.length : Int) = (n : Int) + 1 := this
    rw [List.length_replicate]; omega
  rw [e, sumRows_append _ hl]
  have := sumRows_length (ws := ws) hl
  rw [List.length_replicate] at this
  match sumRows (List.replicate (n + 1) 0) ws rows, this with
  | x :: l, _ => show (iEq x u && zs (l ++ _)) = (iEq x u && zs l); rw [zs_append]
theorem bound27 (F d : Nat) (s : St) (hs : s.nx + 20000 < 262144) (e : Int) (v : Value) (rows : List (List Int)) (h : SlR s v rows) (hF : rows.length + 100 < F) (hrl : rows.length < 9223372036854775807) (hFr : ∀ r ∈ rows, r.length < F) (hr : ∀ r ∈ rows, r.length < 9223372036854775807)
    (vs : Value) (ss : List (Int × Int)) (hss : SlS s vs ss) (hFs : ss.length + 100 < F) (hsl : ss.length < 9223372036854775807) (u : Int) (vo : Value) (ws : List Int) (hvo : SlI s vo ws) (hFw : ws.length < F) (hwl : ws.length < 9223372036854775807) :
    Sat (fun K => (cFun Try.prog F 27).run (CL F (d + 3)) [.agg ⟨[.int .i64 e, v]⟩, vs, .agg ⟨[.int .i64 u, vo]⟩] K s) fun x s' => Kp 15000 s s' ∧ x = bd e rows ss u ws := by
  intro K r hK
  change (cFun Try.prog F 27).run (CL F (d + 3)) [.agg ⟨[.int .i64 e, v]⟩, vs, .agg ⟨[.int .i64 u, vo]⟩] K s = r
  have fin : ∀ s', Kp 15000 s s' → ∀ x, x = bd e rows ss u ws → K x s' = r := fun s' hk x hx => hK _ _ ⟨hk, by rw [hx]⟩
  unfold bd at fin
  obtain ⟨a0, c0, hv⟩ := SlR_len h
  obtain ⟨a3, c3, hvo'⟩ := SlI_len hvo
  conv => lhs; whnf
  rw [blt_of (show s.nx < 262144 by omega)]
  generalize hs1 : s.push _ = s1
  have hP : Own s1 s.nx [.int .i64 e, v] := by subst hs1; exact Own.push (l := [.int .i64 e, v]) (by show 2 ≤ 32768; omega) (by omega) rfl
  have ks1 : Kp 1 s s1 := by subst hs1; exact Kp.push _ (by omega)
  clear hs1
  have ns1 := ks1.2
  conv => lhs; whnf
  rw [blt_of (show s1.nx < 262144 by omega)]
  generalize hs2 : s1.push _ = s2
  have hW : Own s2 s1.nx [.int .i64 u, vo] := by subst hs2; exact Own.push (l := [.int .i64 u, vo]) (by show 2 ≤ 32768; omega) (by omega) rfl
  have ks2 : Kp 1 s1 s2 := by subst hs2; exact Kp.push _ (by omega)
  clear hs2
  have ns2 := ks2.2
  conv => lhs; whnf
  rw [blt_of (show s2.nx < 262144 by omega)]
  generalize hs3 : s2.push _ = s3
  have hL : Own s3 s2.nx [.int .i64 0, .int .i64 0] := by subst hs3; exact Own.push (l := [.int .i64 0, .int .i64 0]) (by show 2 ≤ 32768; omega) (by omega) rfl
  have ks3 : Kp 1 s2 s3 := by subst hs3; exact Kp.push _ (by omega)
  clear hs3
  have ns3 := ks3.2
  conv => lhs; whnf
  rw [blt_of (show s3.nx < 262144 by omega)]
  generalize hs4 : s3.push _ = s4
  have hH : Own s4 s3.nx [.int .i64 0, .int .i64 0] := by subst hs4; exact Own.push (l := [.int .i64 0, .int .i64 0]) (by show 2 ≤ 32768; omega) (by omega) rfl
  have ks4 : Kp 1 s3 s4 := by subst hs4; exact Kp.push _ (by omega)
  clear hs4
  have ns4 := ks4.2
  conv => lhs; whnf
  have b1 := hP.1
  have b2 := hW.1
  have b3 := hL.1
  have b4 := hH.1
  have k14 := (ks1.trans ks2).trans (ks3.trans ks4)
  have hP4 := (hP.keep (ks2.1.trans (ks3.1.trans ks4.1))).at
  have hW4 := (hW.keep (ks3.1.trans ks4.1)).at
  have hL4 := hL.keep ks4.1
  refine Eq.trans (hP4.ldN rfl rfl _) ?_
  conv => lhs; whnf
  refine (Sat.call (F := F) (d := d + 2) (g := 65) rfl (read65 F d s4 (by omega) e v rows (h.keep k14.1) (by omega) hrl hFr hr vs ss (hss.keep k14.1) (by omega) hsl)) _ _ ?_
  rintro x s5 ⟨k5, rfl⟩
  have n5 := k5.2
  have k15 := k14.trans k5
  have hP5 := hP4.keep k5.1
  have hW5 := hW4.keep k5.1
  have hL5 := hL4.keep k5.1
  have hH5 := hH.keep k5.1
  conv => lhs; whnf
  have iq4 : iEq 4 0 = false := by rw [iEq_eq]; decide
  have iq1 : iEq 1 0 = false := by rw [iEq_eq]; decide
  have iq12 : iEq 12 0 = false := by rw [iEq_eq]; decide
  cases hc : iEq (rd e rows ss) 0
  · rw [hc] at fin
    have hq := hc
    simp only [cond_false] at fin
    generalize rd e rows ss = q at hq fin hc ⊢
    generalize hz : iEq _ _ = cz
    have hz : cz = false := hz.symm.trans hq
    subst hz
    conv => lhs; whnf
    generalize hz : iEq _ _ = cz
    have hz : cz = false := hz.symm.trans hq
    subst hz
    conv => lhs; whnf
    refine runLoop_rule (fun j m t s' => m = [] ∧ s' = s5 ∧ (getW 3 6).g t = ptr s2.nx 0 ∧ (getW 3 7).g t = ptr s3.nx 0 ∧ (getW 3 9).g t = .int .i64 q) ?_ _ 0 _ _ _ (by omega) ?_
    · rintro j m t s' ih ⟨rfl, rfl, h6, h7, h9⟩ hih
      obtain ⟨g2_0, ⟨g1_1, ⟨a9, a73, a137, a201, a265, a329, a393, a457⟩, g1_17, g1_25, g1_33, g1_41, g1_49, g1_57⟩, g2_2, g2_3, g2_4, g2_5, ⟨⟨a6, a70, a134, a198, a262, a326, a390, a454⟩, g1_14, g1_22, g1_30, g1_38, g1_46, g1_54, g1_62⟩, ⟨⟨a7, a71, a135, a199, a263, a327, a391, a455⟩, g1_15, g1_23, g1_31, g1_39, g1_47, g1_55, g1_63⟩⟩ := t
      have h6 : _ = a6 := Eq.symm h6
      have h7 : _ = a7 := Eq.symm h7
      have h9 : _ = a9 := Eq.symm h9
      subst h6 h7 h9
      conv => lhs; whnf
      generalize hz : iEq _ _ = cz
      have hz : cz = false := hz.symm.trans hq
      subst hz
      conv => lhs; whnf
      generalize hz : iEq _ _ = cz
      have hz : cz = false := hz.symm.trans hq
      subst hz
      conv => lhs; whnf
      refine hL5.stN (o := 0) (l := [.int .i64 0, .int .i64 0]) (by show 0 + 2 ≤ 2; omega) rfl ?_ rfl
      intro s6 n6 k6 o6 hL6
      have k6 := k6 s (by omega) k15.1
      have hL6 : Own s6 s2.nx [.int .i64 0, .int .i64 0] := hL6
      have hH6 := hH5.same n6 (o6 s3.nx (by omega))
      conv => lhs; whnf
      refine hH6.stN (o := 0) (l := [.int .i64 0, .int .i64 0]) (by show 0 + 2 ≤ 2; omega) rfl ?_ rfl
      intro s7 n7 k7 o7 hH7
      have k7 := k7 s (by omega) k6
      have hH7 : Own s7 s3.nx [.int .i64 0, .int .i64 0] := hH7
      have hL7 := hL6.same n7 (o7 s2.nx (by omega))
      conv => lhs; whnf
      refine Eq.trans (hL7.at.ldN rfl rfl _) ?_
      conv => lhs; whnf
      refine Eq.trans (hH7.at.ldN rfl rfl _) ?_
      conv => lhs; whnf
      exact fin s7 ⟨k7, by have := k15.2; omega⟩ _ rfl
    · exact ⟨rfl, rfl, rfl, rfl, rfl⟩
  · have hq0 := hc
    rw [hc] at fin
    simp only [cond_true] at fin
    obtain ⟨hG, hlen, hrds⟩ := rd_zero hc
    have hr0 := iEq_true hc
    rw [hr0]
    have i00 : iEq 0 0 = true := iEq_self 0
    generalize hz : iEq _ _ = cz
    have hz : cz = true := hz.symm.trans i00
    subst hz
    conv => lhs; whnf
    refine Eq.trans (hW5.ld1 (j := 1) rfl rfl _) ?_
    rw [hvo']
    conv => lhs; whnf
    refine Eq.trans (hP5.ld1 (j := 1) rfl rfl _) ?_
    rw [hv]
    conv => lhs; whnf
    generalize hc1 : iEq _ _ = c1
    have hc1 : iEq (Int.ofNat ws.length) (Int.ofNat rows.length) = c1 := hc1
    cases c1
    · have hcw : cw rows u ws = 4 := by unfold cw; rw [hc1]; rfl
      have hq := iq4
      conv => lhs; whnf
      generalize hz : iEq _ _ = cz
      have hz : cz = false := hz.symm.trans hq
      subst hz
      conv => lhs; whnf
      refine runLoop_rule (fun j m t s' => m = [] ∧ s' = s5 ∧ (getW 3 6).g t = ptr s2.nx 0 ∧ (getW 3 7).g t = ptr s3.nx 0 ∧ (getW 3 9).g t = .int .i64 4) ?_ _ 0 _ _ _ (by omega) ?_
      · rintro j m t s' ih ⟨rfl, rfl, h6, h7, h9⟩ hih
        obtain ⟨g2_0, ⟨g1_1, ⟨a9, a73, a137, a201, a265, a329, a393, a457⟩, g1_17, g1_25, g1_33, g1_41, g1_49, g1_57⟩, g2_2, g2_3, g2_4, g2_5, ⟨⟨a6, a70, a134, a198, a262, a326, a390, a454⟩, g1_14, g1_22, g1_30, g1_38, g1_46, g1_54, g1_62⟩, ⟨⟨a7, a71, a135, a199, a263, a327, a391, a455⟩, g1_15, g1_23, g1_31, g1_39, g1_47, g1_55, g1_63⟩⟩ := t
        have h6 : _ = a6 := Eq.symm h6
        have h7 : _ = a7 := Eq.symm h7
        have h9 : _ = a9 := Eq.symm h9
        subst h6 h7 h9
        conv => lhs; whnf
        generalize hz : iEq _ _ = cz
        have hz : cz = false := hz.symm.trans hq
        subst hz
        conv => lhs; whnf
        generalize hz : iEq _ _ = cz
        have hz : cz = false := hz.symm.trans hq
        subst hz
        conv => lhs; whnf
        refine hL5.stN (o := 0) (l := [.int .i64 0, .int .i64 0]) (by show 0 + 2 ≤ 2; omega) rfl ?_ rfl
        intro s6 n6 k6 o6 hL6
        have k6 := k6 s (by omega) k15.1
        have hL6 : Own s6 s2.nx [.int .i64 0, .int .i64 0] := hL6
        have hH6 := hH5.same n6 (o6 s3.nx (by omega))
        conv => lhs; whnf
        refine hH6.stN (o := 0) (l := [.int .i64 0, .int .i64 0]) (by show 0 + 2 ≤ 2; omega) rfl ?_ rfl
        intro s7 n7 k7 o7 hH7
        have k7 := k7 s (by omega) k6
        have hH7 : Own s7 s3.nx [.int .i64 0, .int .i64 0] := hH7
        have hL7 := hL6.same n7 (o7 s2.nx (by omega))
        conv => lhs; whnf
        refine Eq.trans (hL7.at.ldN rfl rfl _) ?_
        conv => lhs; whnf
        refine Eq.trans (hH7.at.ldN rfl rfl _) ?_
        conv => lhs; whnf
        exact fin s7 ⟨k7, by have := k15.2; omega⟩ _ (by rw [hcw, iq4]; rfl)
      · exact ⟨rfl, rfl, rfl, rfl, rfl⟩
    · have hws : ws.length = rows.length := by have := iEq_true hc1; have : (ws.length : Int) = (rows.length : Int) := this; omega
      conv => lhs; whnf
      generalize hz : iEq _ _ = cz
      have hz : cz = true := hz.symm.trans i00
      subst hz
      conv => lhs; whnf
      refine Eq.trans (hW5.ld1 (j := 0) rfl rfl _) ?_
      conv => lhs; whnf
      refine Eq.trans (is_call F (d + 2) _ s5 u 1 10000) ?_
      cases hc2 : iLt u 1
      · cases hc3 : iLt 10000 u
        · conv => lhs; whnf
          have hlw : ws.length ≤ 7 := by have := hG.few; omega
          refine runLoop_rule (fun j m t s' => m = [] ∧ s' = s5 ∧ (getW 3 1).g t = vs ∧ (getW 3 3).g t = ptr s.nx 0 ∧ (getW 3 5).g t = ptr s1.nx 0 ∧ (getW 3 6).g t = ptr s2.nx 0 ∧ (getW 3 7).g t = ptr s3.nx 0 ∧
            ∃ (i : Nat) (q : Int), (getW 3 9).g t = .int .i64 q ∧ (getW 3 10).g t = .int .i64 (Int.ofNat i) ∧ i + j = ws.length + 1 ∧ ((q = 0 ∧ wi 10000 ws = wi 10000 (ws.drop i)) ∨ (q = 1 ∧ wi 10000 ws = false))) ?_ _ (ws.length + 1) _ _ _ (by omega) ?_
          · rintro j m t s' ih ⟨rfl, rfl, h1, h3, h5, h6, h7, i, q, h9, h10, hij, hcase⟩ hih
            obtain ⟨g2_0, ⟨⟨a1, a65, a129, a193, a257, a321, a385, a449⟩, ⟨a9, a73, a137, a201, a265, a329, a393, a457⟩, g1_17, g1_25, g1_33, g1_41, g1_49, g1_57⟩, ⟨g1_2, ⟨a10, a74, a138, a202, a266, a330, a394, a458⟩, g1_18, g1_26, g1_34, g1_42, g1_50, g1_58⟩, ⟨⟨a3, a67, a131, a195, a259, a323, a387, a451⟩, g1_11, g1_19, g1_27, g1_35, g1_43, g1_51, g1_59⟩, g2_4, ⟨⟨a5, a69, a133, a197, a261, a325, a389, a453⟩, g1_13, g1_21, g1_29, g1_37, g1_45, g1_53, g1_61⟩, ⟨⟨a6, a70, a134, a198, a262, a326, a390, a454⟩, g1_14, g1_22, g1_30, g1_38, g1_46, g1_54, g1_62⟩, ⟨⟨a7, a71, a135, a199, a263, a327, a391, a455⟩, g1_15, g1_23, g1_31, g1_39, g1_47, g1_55, g1_63⟩⟩ := t
            have h1 : _ = a1 := Eq.symm h1
            have h3 : _ = a3 := Eq.symm h3
            have h5 : _ = a5 := Eq.symm h5
            have h6 : _ = a6 := Eq.symm h6
            have h7 : _ = a7 := Eq.symm h7
            have h9 : _ = a9 := Eq.symm h9
            have h10 : _ = a10 := Eq.symm h10
            subst h1 h3 h5 h6 h7 h9 h10
            rcases hcase with ⟨rfl, hwn⟩ | ⟨rfl, hwf⟩
            · conv => lhs; whnf
              generalize hz : iEq _ _ = cz
              have hz : cz = true := hz.symm.trans i00
              subst hz
              conv => lhs; whnf
              refine Eq.trans (hW5.ld1 (j := 1) rfl rfl _) ?_
              rw [hvo']
              conv => lhs; whnf
              cases h3 : iLt (Int.ofNat i) (Int.ofNat ws.length)
              · have hwi : wi 10000 ws = true := by rw [hwn, drop_nil h3]; rfl
                conv => lhs; whnf
                generalize hz : iEq _ _ = cz
                have hz : cz = true := hz.symm.trans i00
                subst hz
                conv => lhs; whnf
                obtain ⟨n, hn⟩ := Int.eq_ofNat_of_zero_le hG.lo
                subst hn
                refine Eq.trans (hP5.ldN rfl rfl _) ?_
                conv => lhs; whnf
                refine Eq.trans (hW5.ld1 (j := 1) rfl rfl _) ?_
                conv => lhs; whnf
                have hsum := sum66 F (d + 2) s' (by omega) n v rows (h.keep k15.1) hG (by omega) vo ws (hvo.keep k15.1) hws
                refine (Sat.call (F := F) (d := d + 2) (g := 66) rfl hsum) _ _ ?_
                rintro xs s6 ⟨k6, hxs⟩
                have n6 := k6.2
                have k16 := k15.trans k6
                have hW6 := hW5.keep k6.1
                have hL6 := hL5.keep k6.1
                have hH6 := hH5.keep k6.1
                have hso := sumOK_eq hG u ws
                have hRl : (sumRows (List.replicate (n + 1) 0) ws rows).length = n + 1 := by
                  rw [sumRows_length fun r hr => ?_, List.length_replicate]
                  have := (hG.all r hr).1
                  have : (r.length : Int) = (n : Int) + 1 := this
                  rw [List.length_replicate]; omega
                have hn3 : n ≤ 3 := by have : (n : Int) ≤ 3 := hG.hi; omega
                generalize sumRows (List.replicate (n + 1) 0) ws rows = R at hso hRl hxs
                obtain ⟨ax, cx, hxe⟩ := SlI_len hxs
                rw [hxe] at hxs ⊢
                conv => lhs; whnf
                refine runLoop_rule (fun j m t s' => m = [] ∧ Kp (100 * (R.length - j)) s6 s' ∧ (getW 3 1).g t = vs ∧ (getW 3 5).g t = ptr s1.nx 0 ∧ (getW 3 6).g t = ptr s2.nx 0 ∧ (getW 3 7).g t = ptr s3.nx 0 ∧ (getW 3 11).g t = .slice ax R.length cx ∧
                  ∃ k : Nat, (getW 3 12).g t = .int .i64 (Int.ofNat k) ∧ k + j = R.length ∧ (k = 0 ∨ (0 < k ∧ sumOK u R = zs (R.drop k)))) ?_ _ R.length _ _ _ (by omega) ?_
                · rintro j m t s7 ih ⟨rfl, k7, h1, h5, h6, h7, h11, k, h12, hkj, hcase⟩ hih
                  have n7 := k7.2
                  have k17 := k16.trans k7
                  have hW7 := hW6.keep k7.1
                  have hL7 := hL6.keep k7.1
                  have hH7 := hH6.keep k7.1
                  obtain ⟨g2_0, ⟨⟨a1, a65, a129, a193, a257, a321, a385, a449⟩, g1_9, g1_17, g1_25, g1_33, g1_41, g1_49, g1_57⟩, g2_2, ⟨g1_3, ⟨a11, a75, a139, a203, a267, a331, a395, a459⟩, g1_19, g1_27, g1_35, g1_43, g1_51, g1_59⟩, ⟨g1_4, ⟨a12, a76, a140, a204, a268, a332, a396, a460⟩, g1_20, g1_28, g1_36, g1_44, g1_52, g1_60⟩, ⟨⟨a5, a69, a133, a197, a261, a325, a389, a453⟩, g1_13, g1_21, g1_29, g1_37, g1_45, g1_53, g1_61⟩, ⟨⟨a6, a70, a134, a198, a262, a326, a390, a454⟩, g1_14, g1_22, g1_30, g1_38, g1_46, g1_54, g1_62⟩, ⟨⟨a7, a71, a135, a199, a263, a327, a391, a455⟩, g1_15, g1_23, g1_31, g1_39, g1_47, g1_55, g1_63⟩⟩ := t
                  have h1 : _ = a1 := Eq.symm h1
                  have h5 : _ = a5 := Eq.symm h5
                  have h6 : _ = a6 := Eq.symm h6
                  have h7 : _ = a7 := Eq.symm h7
                  have h11 : _ = a11 := Eq.symm h11
                  have h12 : _ = a12 := Eq.symm h12
                  subst h1 h5 h6 h7 h11 h12
                  conv => lhs; whnf
                  rcases (Bool.eq_false_or_eq_true (iLt (Int.ofNat k) (Int.ofNat R.length))).symm with h4 | h4
                  · have hst : sumOK u R = true := by
                      rcases hcase with rfl | ⟨hk0, hzz⟩
                      · have := iLt_false h4; have : (R.length : Int) ≤ 0 := this; omega
                      · rw [hzz, drop_nil h4]; rfl
                    have hcw : cw rows u ws = 0 := by unfold cw; rw [hc1, hc2, hc3, hwi, hso, hst]; rfl
                    rw [hcw, iEq_self] at fin
                    simp only [cond_true] at fin
                    have hcz : iEq (cw rows u ws) 0 = true := by rw [hcw]; exact iEq_self 0
                    obtain ⟨hFi, _⟩ := cw_zero (ss := ss) hcz
                    obtain ⟨B0, hB, hB1, hB2⟩ := hFi.u
                    subst hB
                    have hsmall := reach_small (n := 0) (lo := 0) (hi := 0) (wi_all hFi.wi) (rds_all hrds) (by have := hG.few; omega) (Nat.zero_le _) (Nat.zero_le _)
                    have hsB : sm (Int.ofNat B0) := ⟨by show (-9223372036854775808 : Int) < (B0 : Int); omega, by show (B0 : Int) < 9223372036854775808; omega⟩
                    refine cond_f h4 ?_
                    conv => lhs; whnf
                    refine Eq.trans (hW7.ld1 (j := 1) rfl rfl _) ?_
                    conv => lhs; whnf
                    have hre := reach67 F (d + 2) s7 (by omega) vo vs ws ss (hvo.keep k17.1) (hss.keep k17.1) (by rw [hFi.len, hlen]) (by have := hG.few; omega) (by omega)
                    refine (Sat.call (F := F) (d := d + 2) (g := 67) rfl hre) _ _ ?_
                    rintro x s8 ⟨k8, rfl⟩
                    have n8 := k8.2
                    have k18 := k17.trans k8
                    have hW8 := hW7.keep k8.1
                    have hL8 := hL7.keep k8.1
                    have hH8 := hH7.keep k8.1
                    generalize reachS 0 0 ws ss = lh at hsmall fin ⊢
                    obtain ⟨lo, hi⟩ := lh
                    obtain ⟨hs1, hs2⟩ := hsmall
                    simp only at hs1 hs2 fin
                    have p1 : lo.natAbs * B0 < 2 ^ 62 := by have := Nat.mul_le_mul hs1 hB2; omega
                    have p2 : hi.natAbs * B0 < 2 ^ 62 := by have := Nat.mul_le_mul hs2 hB2; omega
                    conv => lhs; whnf
                    have k8' : Keep s s8 := k18.1
                    generalize hb : Nat.ble (Nat.add s8.nx _) 262144 = cb
                    have hb : cb = true := hb.symm.trans (Nat.ble_eq_true_of_le (Nat.le_trans (Nat.add_le_add_left (Nat.le_of_ble_eq_true rfl : _ ≤ 60) _) (show s8.nx + 60 ≤ 262144 by omega)))
                    subst hb
                    generalize ht8 : St.mk s8.h (Nat.add s8.nx _) = t8
                    have kt8 : Kp 60 s8 t8 := by subst ht8; exact Kp.more (Nat.le_of_ble_eq_true rfl)
                    clear ht8
                    conv => lhs; whnf
                    have m8 := kt8.2
                    have hW8' := hW8.keep kt8.1
                    refine Eq.trans (hW8'.ld1 (j := 0) rfl rfl _) ?_
                    conv => lhs; whnf
                    refine Eq.trans (hW8'.ld1 (j := 0) rfl rfl _) ?_
                    conv => lhs; whnf
                    have k8t := k18.trans kt8
                    have hL8' := hL8.keep kt8.1
                    have hH8' := hH8.keep kt8.1
                    refine (Sat.call (F := F) (d := d + 2) (g := 68) rfl (reduced68 F (d + 1) t8 (by omega) lo B0 hB1 ⟨by omega, by omega⟩ hsB p1 (by omega))) _ _ ?_
                    rintro x s9 ⟨k9, rfl⟩
                    have n9 := k9.2
                    have k19 := k8t.trans k9
                    have hW9 := hW8'.keep k9.1
                    have hL9 := hL8'.keep k9.1
                    have hH9 := hH8'.keep k9.1
                    have ieq : iEq (Int.ofNat B0) (Int.ofNat B0) = true := iEq_self _
                    conv => lhs; whnf
                    generalize hrc : recheck _ _ s9 = rc
                    have hrc2 : rc = true := by
                      rw [← hrc]
                      refine recheck_of fun x hx => ?_
                      rcases List.mem_cons.1 hx with rfl | hx
                      · conv => lhs; whnf
                        refine Eq.trans (hW9.ld1 (j := 0) rfl rfl _) ?_
                        conv => lhs; whnf
                        exact ieq
                      · rcases List.mem_cons.1 hx with rfl | hx
                        · conv => lhs; whnf
                          refine Eq.trans (hW9.ld1 (j := 0) rfl rfl _) ?_
                          conv => lhs; whnf
                          exact ieq
                        · cases hx
                    subst hrc2
                    conv => lhs; whnf
                    refine (Sat.call (F := F) (d := d + 2) (g := 68) rfl (reduced68 F (d + 1) s9 (by omega) hi B0 hB1 ⟨by omega, by omega⟩ hsB p2 (by omega))) _ _ ?_
                    rintro x s10 ⟨k10, rfl⟩
                    have n10 := k10.2
                    have k110 := k19.trans k10
                    have hL10 := hL9.keep k10.1
                    have hH10 := hH9.keep k10.1
                    conv => lhs; whnf
                    have c1 := hL10.1
                    have c2 := hH10.1
                    refine hL10.stN (o := 0) (l := [.int .i64 (wr .i64 (Int.tdiv lo (dv lo (Int.ofNat B0)))), .int .i64 (wr .i64 (Int.tdiv (Int.ofNat B0) (dv lo (Int.ofNat B0))))]) (by show 0 + 2 ≤ 2; omega) rfl ?_ rfl
                    intro t1 q1 j1 o1 hL1
                    have j1 := j1 s (by omega) k110.1
                    have hL1 : Own t1 s2.nx [.int .i64 (wr .i64 (Int.tdiv lo (dv lo (Int.ofNat B0)))), .int .i64 (wr .i64 (Int.tdiv (Int.ofNat B0) (dv lo (Int.ofNat B0))))] := hL1
                    have hH1 := hH10.same q1 (o1 s3.nx (by omega))
                    conv => lhs; whnf
                    refine hH1.stN (o := 0) (l := [.int .i64 (wr .i64 (Int.tdiv hi (dv hi (Int.ofNat B0)))), .int .i64 (wr .i64 (Int.tdiv (Int.ofNat B0) (dv hi (Int.ofNat B0))))]) (by show 0 + 2 ≤ 2; omega) rfl ?_ rfl
                    intro t2 q2 j2 o2 hH2
                    have j2 := j2 s (by omega) j1
                    have hH2 : Own t2 s3.nx [.int .i64 (wr .i64 (Int.tdiv hi (dv hi (Int.ofNat B0)))), .int .i64 (wr .i64 (Int.tdiv (Int.ofNat B0) (dv hi (Int.ofNat B0))))] := hH2
                    have hL2 := hL1.same q2 (o2 s2.nx (by omega))
                    conv => lhs; whnf
                    refine Eq.trans (hL2.at.ldN rfl rfl _) ?_
                    conv => lhs; whnf
                    refine Eq.trans (hH2.at.ldN rfl rfl _) ?_
                    conv => lhs; whnf
                    exact fin t2 ⟨j2, by have := k110.2; omega⟩ _ rfl
                  · obtain ⟨x, hi, hx, hd⟩ := drop_lt h4
                    have hw : wr .i64 ((Int.ofNat k).add 1) = Int.ofNat (k + 1) := wr_nat (show k + 1 < 9223372036854775808 by omega)
                    obtain ⟨b3, o3, c4, cy, hv3, hRx, _, hatx⟩ := Sl_get (hxs.keep k7.1) hx
                    have hRx : cy = [.int .i64 x] := hRx
                    subst hRx
                    injection hv3 with e1 e2 e3
                    subst e1 e3
                    refine cond_t h4 ?_
                    refine Eq.trans run_skip' ?_
                    repeat (first | refine Eq.trans run_seq ?_ | refine Eq.trans run_block ?_ | refine Eq.trans run_region ?_)
                    refine run_draw (by kernel_rfl) (Nat.le_trans (Nat.add_le_add_left (Nat.le_of_ble_eq_true rfl : _ ≤ 60) _) (by omega)) ?_
                    generalize ht7 : St.mk s7.h (Nat.add s7.nx _) = t7
                    have kt7 : Kp 60 s7 t7 := by subst ht7; exact Kp.more (Nat.le_of_ble_eq_true rfl)
                    clear ht7
                    have m7 := kt7.2
                    have hatx := hatx.keep kt7.1
                    have hW7 := hW7.keep kt7.1
                    have hL7 := hL7.keep kt7.1
                    have hH7 := hH7.keep kt7.1
                    conv => lhs; whnf
                    rcases hcase with rfl | ⟨hk0, hzz⟩
                    · generalize hz : iEq _ _ = cz
                      have hz : cz = true := hz.symm.trans i00
                      subst hz
                      conv => lhs; whnf
                      rw [blt_of hi]
                      conv => lhs; whnf
                      refine Eq.trans (hatx.ld1 (j := 0) rfl rfl _) ?_
                      conv => lhs; whnf
                      refine Eq.trans (hW7.ld1 (j := 0) rfl rfl _) ?_
                      conv => lhs; whnf
                      generalize hxu : iEq _ _ = c0
                      have hxu : iEq x u = c0 := hxu
                      have hR0 : R = x :: R.drop 1 := hd
                      cases c0
                      · have hsf : sumOK u R = false := by rw [hR0]; show (iEq x u && _) = false; rw [hxu]; rfl
                        have hcw : cw rows u ws = 12 := by unfold cw; rw [hc1, hc2, hc3, hwi, hso, hsf]; rfl
                        conv => lhs; whnf
                        refine hL7.stN (o := 0) (l := [.int .i64 0, .int .i64 0]) (by show 0 + 2 ≤ 2; omega) rfl ?_ rfl
                        intro s8 n8 k8 o8 hL8
                        have k8 := k8 s (by omega) (k17.1.trans kt7.1)
                        have hL8 : Own s8 s2.nx [.int .i64 0, .int .i64 0] := hL8
                        have hH8 := hH7.same n8 (o8 s3.nx (by omega))
                        conv => lhs; whnf
                        refine hH8.stN (o := 0) (l := [.int .i64 0, .int .i64 0]) (by show 0 + 2 ≤ 2; omega) rfl ?_ rfl
                        intro s9 n9 k9 o9 hH9
                        have k9 := k9 s (by omega) k8
                        have hH9 : Own s9 s3.nx [.int .i64 0, .int .i64 0] := hH9
                        have hL9 := hL8.same n9 (o9 s2.nx (by omega))
                        conv => lhs; whnf
                        refine Eq.trans (hL9.at.ldN rfl rfl _) ?_
                        conv => lhs; whnf
                        refine Eq.trans (hH9.at.ldN rfl rfl _) ?_
                        conv => lhs; whnf
                        exact fin s9 ⟨k9, by have := k17.2; omega⟩ _ (by rw [hcw, iq12]; rfl)
                      · have hsz : sumOK u R = zs (R.drop 1) := by
                          have : sumOK u (x :: R.drop 1) = zs (R.drop 1) := by show (iEq x u && _) = _; rw [hxu]; rfl
                          rw [← hR0] at this; exact this
                        have hk2 : iLt 0 (Int.ofNat 0) = false := by rw [iLt_eq]; decide
                        conv => lhs; whnf
                        generalize hz : iLt _ _ = cz
                        have hz : cz = false := hz.symm.trans hk2
                        subst hz
                        conv => lhs; whnf
                        refine hih (j - 1) _ _ t7 (by omega) ⟨rfl, ⟨k7.1.trans kt7.1, by have := k7.2; omega⟩, ?_, ?_, ?_, ?_, ?_, 0 + 1, ?_, by omega, .inr ⟨by omega, ?_⟩⟩
                        · kernel_rfl
                        · kernel_rfl
                        · kernel_rfl
                        · kernel_rfl
                        · kernel_rfl
                        · refine Eq.trans ?_ (congrArg (Value.int .i64) hw); kernel_rfl
                        · exact hsz
                    · have hk : iEq (Int.ofNat k) 0 = false := by rw [iEq_eq]; simp; omega
                      generalize hz : iEq _ _ = cz
                      have hz : cz = false := hz.symm.trans hk
                      subst hz
                      conv => lhs; whnf
                      have hk2 : iLt 0 (Int.ofNat k) = true := by rw [iLt_eq]; simp; omega
                      generalize hz : iLt _ _ = cz
                      have hz : cz = true := hz.symm.trans hk2
                      subst hz
                      conv => lhs; whnf
                      rw [blt_of hi]
                      conv => lhs; whnf
                      refine Eq.trans (hatx.ld1 (j := 0) rfl rfl _) ?_
                      conv => lhs; whnf
                      generalize hx0 : iEq _ _ = c0
                      have hx0 : iEq x 0 = c0 := hx0
                      cases c0
                      · have hsf : sumOK u R = false := by rw [hzz, hd]; show (iEq x 0 && _) = false; rw [hx0]; rfl
                        have hcw : cw rows u ws = 12 := by unfold cw; rw [hc1, hc2, hc3, hwi, hso, hsf]; rfl
                        conv => lhs; whnf
                        refine hL7.stN (o := 0) (l := [.int .i64 0, .int .i64 0]) (by show 0 + 2 ≤ 2; omega) rfl ?_ rfl
                        intro s8 n8 k8 o8 hL8
                        have k8 := k8 s (by omega) (k17.1.trans kt7.1)
                        have hL8 : Own s8 s2.nx [.int .i64 0, .int .i64 0] := hL8
                        have hH8 := hH7.same n8 (o8 s3.nx (by omega))
                        conv => lhs; whnf
                        refine hH8.stN (o := 0) (l := [.int .i64 0, .int .i64 0]) (by show 0 + 2 ≤ 2; omega) rfl ?_ rfl
                        intro s9 n9 k9 o9 hH9
                        have k9 := k9 s (by omega) k8
                        have hH9 : Own s9 s3.nx [.int .i64 0, .int .i64 0] := hH9
                        have hL9 := hL8.same n9 (o9 s2.nx (by omega))
                        conv => lhs; whnf
                        refine Eq.trans (hL9.at.ldN rfl rfl _) ?_
                        conv => lhs; whnf
                        refine Eq.trans (hH9.at.ldN rfl rfl _) ?_
                        conv => lhs; whnf
                        exact fin s9 ⟨k9, by have := k17.2; omega⟩ _ (by rw [hcw, iq12]; rfl)
                      · have hsz : sumOK u R = zs (R.drop (k + 1)) := by rw [hzz, hd]; show (iEq x 0 && _) = _; rw [hx0]; rfl
                        conv => lhs; whnf
                        refine hih (j - 1) _ _ t7 (by omega) ⟨rfl, ⟨k7.1.trans kt7.1, by have := k7.2; omega⟩, ?_, ?_, ?_, ?_, ?_, k + 1, ?_, by omega, .inr ⟨by omega, ?_⟩⟩
                        · kernel_rfl
                        · kernel_rfl
                        · kernel_rfl
                        · kernel_rfl
                        · kernel_rfl
                        · refine Eq.trans ?_ (congrArg (Value.int .i64) hw); kernel_rfl
                        · exact hsz
                · refine ⟨rfl, ⟨.refl _, by omega⟩, ?_, ?_, ?_, ?_, ?_, 0, ?_, Nat.zero_add _, .inl rfl⟩
                  · kernel_rfl
                  · kernel_rfl
                  · kernel_rfl
                  · kernel_rfl
                  · kernel_rfl
                  · kernel_rfl

              · obtain ⟨x, hi, hx, hd⟩ := drop_lt h3
                have hw : wr .i64 ((Int.ofNat i).add 1) = Int.ofNat (i + 1) := wr_nat (show i + 1 < 9223372036854775808 by omega)
                obtain ⟨b3, o3, c4, cx, hv3, hRx, _, hatx⟩ := Sl_get (hvo.keep k15.1) hx
                have hRx : cx = [.int .i64 x] := hRx
                subst hRx
                conv => lhs; whnf
                refine Eq.trans (hW5.ld1 (j := 1) rfl rfl _) ?_
                rw [hv3]
                conv => lhs; whnf
                rw [blt_of hi]
                conv => lhs; whnf
                refine Eq.trans (hatx.ld1 (j := 0) rfl rfl _) ?_
                conv => lhs; whnf
                refine Eq.trans (is_call F (d + 2) _ s' x (-10000) 10000) ?_
                have hwd : wi 10000 (x :: ws.drop (i + 1)) = (bif iLt x (-10000) then false else bif iLt 10000 x then false else wi 10000 (ws.drop (i + 1))) := rfl
                cases h8 : iLt x (-10000)
                · cases h9 : iLt 10000 x
                  · conv => lhs; whnf
                    refine hih (j - 1) _ _ s' (by omega) ⟨rfl, rfl, rfl, rfl, rfl, rfl, rfl, i + 1, 0, ?_, ?_, by omega, .inl ⟨rfl, ?_⟩⟩
                    · kernel_rfl
                    · refine Eq.trans ?_ (congrArg (Value.int .i64) hw); kernel_rfl
                    · rw [hwn, hd, hwd, h8, h9]; rfl
                  · conv => lhs; whnf
                    refine hih (j - 1) _ _ s' (by omega) ⟨rfl, rfl, rfl, rfl, rfl, rfl, rfl, i + 1, 1, ?_, ?_, by omega, .inr ⟨rfl, ?_⟩⟩
                    · kernel_rfl
                    · refine Eq.trans ?_ (congrArg (Value.int .i64) hw); kernel_rfl
                    · rw [hwn, hd, hwd, h8, h9]; rfl
                · conv => lhs; whnf
                  refine hih (j - 1) _ _ s' (by omega) ⟨rfl, rfl, rfl, rfl, rfl, rfl, rfl, i + 1, 1, ?_, ?_, by omega, .inr ⟨rfl, ?_⟩⟩
                  · kernel_rfl
                  · refine Eq.trans ?_ (congrArg (Value.int .i64) hw); kernel_rfl
                  · rw [hwn, hd, hwd, h8]; rfl
            · have hcw : cw rows u ws = 1 := by unfold cw; rw [hc1, hc2, hc3, hwf]; rfl
              have hq := iq1
              conv => lhs; whnf
              generalize hz : iEq _ _ = cz
              have hz : cz = false := hz.symm.trans hq
              subst hz
              conv => lhs; whnf
              generalize hz : iEq _ _ = cz
              have hz : cz = false := hz.symm.trans hq
              subst hz
              conv => lhs; whnf
              refine hL5.stN (o := 0) (l := [.int .i64 0, .int .i64 0]) (by show 0 + 2 ≤ 2; omega) rfl ?_ rfl
              intro s6 n6 k6 o6 hL6
              have k6 := k6 s (by omega) k15.1
              have hL6 : Own s6 s2.nx [.int .i64 0, .int .i64 0] := hL6
              have hH6 := hH5.same n6 (o6 s3.nx (by omega))
              conv => lhs; whnf
              refine hH6.stN (o := 0) (l := [.int .i64 0, .int .i64 0]) (by show 0 + 2 ≤ 2; omega) rfl ?_ rfl
              intro s7 n7 k7 o7 hH7
              have k7 := k7 s (by omega) k6
              have hH7 : Own s7 s3.nx [.int .i64 0, .int .i64 0] := hH7
              have hL7 := hL6.same n7 (o7 s2.nx (by omega))
              conv => lhs; whnf
              refine Eq.trans (hL7.at.ldN rfl rfl _) ?_
              conv => lhs; whnf
              refine Eq.trans (hH7.at.ldN rfl rfl _) ?_
              conv => lhs; whnf
              exact fin s7 ⟨k7, by have := k15.2; omega⟩ _ (by rw [hcw, iq1]; rfl)
          · exact ⟨rfl, rfl, rfl, rfl, rfl, rfl, rfl, 0, 0, rfl, rfl, by omega, .inl ⟨rfl, rfl⟩⟩
        · have hcw : cw rows u ws = 1 := by unfold cw; rw [hc1, hc2, hc3]; rfl
          have hq := iq1
          conv => lhs; whnf
          refine runLoop_rule (fun j m t s' => m = [] ∧ s' = s5 ∧ (getW 3 6).g t = ptr s2.nx 0 ∧ (getW 3 7).g t = ptr s3.nx 0 ∧ (getW 3 9).g t = .int .i64 1) ?_ _ 0 _ _ _ (by omega) ?_
          · rintro j m t s' ih ⟨rfl, rfl, h6, h7, h9⟩ hih
            obtain ⟨g2_0, ⟨g1_1, ⟨a9, a73, a137, a201, a265, a329, a393, a457⟩, g1_17, g1_25, g1_33, g1_41, g1_49, g1_57⟩, g2_2, g2_3, g2_4, g2_5, ⟨⟨a6, a70, a134, a198, a262, a326, a390, a454⟩, g1_14, g1_22, g1_30, g1_38, g1_46, g1_54, g1_62⟩, ⟨⟨a7, a71, a135, a199, a263, a327, a391, a455⟩, g1_15, g1_23, g1_31, g1_39, g1_47, g1_55, g1_63⟩⟩ := t
            have h6 : _ = a6 := Eq.symm h6
            have h7 : _ = a7 := Eq.symm h7
            have h9 : _ = a9 := Eq.symm h9
            subst h6 h7 h9
            conv => lhs; whnf
            generalize hz : iEq _ _ = cz
            have hz : cz = false := hz.symm.trans hq
            subst hz
            conv => lhs; whnf
            generalize hz : iEq _ _ = cz
            have hz : cz = false := hz.symm.trans hq
            subst hz
            conv => lhs; whnf
            refine hL5.stN (o := 0) (l := [.int .i64 0, .int .i64 0]) (by show 0 + 2 ≤ 2; omega) rfl ?_ rfl
            intro s6 n6 k6 o6 hL6
            have k6 := k6 s (by omega) k15.1
            have hL6 : Own s6 s2.nx [.int .i64 0, .int .i64 0] := hL6
            have hH6 := hH5.same n6 (o6 s3.nx (by omega))
            conv => lhs; whnf
            refine hH6.stN (o := 0) (l := [.int .i64 0, .int .i64 0]) (by show 0 + 2 ≤ 2; omega) rfl ?_ rfl
            intro s7 n7 k7 o7 hH7
            have k7 := k7 s (by omega) k6
            have hH7 : Own s7 s3.nx [.int .i64 0, .int .i64 0] := hH7
            have hL7 := hL6.same n7 (o7 s2.nx (by omega))
            conv => lhs; whnf
            refine Eq.trans (hL7.at.ldN rfl rfl _) ?_
            conv => lhs; whnf
            refine Eq.trans (hH7.at.ldN rfl rfl _) ?_
            conv => lhs; whnf
            exact fin s7 ⟨k7, by have := k15.2; omega⟩ _ (by rw [hcw, iq1]; rfl)
          · exact ⟨rfl, rfl, rfl, rfl, rfl⟩
      · have hcw : cw rows u ws = 1 := by unfold cw; rw [hc1, hc2]; rfl
        have hq := iq1
        conv => lhs; whnf
        refine runLoop_rule (fun j m t s' => m = [] ∧ s' = s5 ∧ (getW 3 6).g t = ptr s2.nx 0 ∧ (getW 3 7).g t = ptr s3.nx 0 ∧ (getW 3 9).g t = .int .i64 1) ?_ _ 0 _ _ _ (by omega) ?_
        · rintro j m t s' ih ⟨rfl, rfl, h6, h7, h9⟩ hih
          obtain ⟨g2_0, ⟨g1_1, ⟨a9, a73, a137, a201, a265, a329, a393, a457⟩, g1_17, g1_25, g1_33, g1_41, g1_49, g1_57⟩, g2_2, g2_3, g2_4, g2_5, ⟨⟨a6, a70, a134, a198, a262, a326, a390, a454⟩, g1_14, g1_22, g1_30, g1_38, g1_46, g1_54, g1_62⟩, ⟨⟨a7, a71, a135, a199, a263, a327, a391, a455⟩, g1_15, g1_23, g1_31, g1_39, g1_47, g1_55, g1_63⟩⟩ := t
          have h6 : _ = a6 := Eq.symm h6
          have h7 : _ = a7 := Eq.symm h7
          have h9 : _ = a9 := Eq.symm h9
          subst h6 h7 h9
          conv => lhs; whnf
          generalize hz : iEq _ _ = cz
          have hz : cz = false := hz.symm.trans hq
          subst hz
          conv => lhs; whnf
          generalize hz : iEq _ _ = cz
          have hz : cz = false := hz.symm.trans hq
          subst hz
          conv => lhs; whnf
          refine hL5.stN (o := 0) (l := [.int .i64 0, .int .i64 0]) (by show 0 + 2 ≤ 2; omega) rfl ?_ rfl
          intro s6 n6 k6 o6 hL6
          have k6 := k6 s (by omega) k15.1
          have hL6 : Own s6 s2.nx [.int .i64 0, .int .i64 0] := hL6
          have hH6 := hH5.same n6 (o6 s3.nx (by omega))
          conv => lhs; whnf
          refine hH6.stN (o := 0) (l := [.int .i64 0, .int .i64 0]) (by show 0 + 2 ≤ 2; omega) rfl ?_ rfl
          intro s7 n7 k7 o7 hH7
          have k7 := k7 s (by omega) k6
          have hH7 : Own s7 s3.nx [.int .i64 0, .int .i64 0] := hH7
          have hL7 := hL6.same n7 (o7 s2.nx (by omega))
          conv => lhs; whnf
          refine Eq.trans (hL7.at.ldN rfl rfl _) ?_
          conv => lhs; whnf
          refine Eq.trans (hH7.at.ldN rfl rfl _) ?_
          conv => lhs; whnf
          exact fin s7 ⟨k7, by have := k15.2; omega⟩ _ (by rw [hcw, iq1]; rfl)
        · exact ⟨rfl, rfl, rfl, rfl, rfl⟩

end Go.Proofs.Ytkkmgaigingmpaa
