/- Open runs: the law of bounds. -/
import Derived.Test.YtkkmgaigingmpaaOpenM
import Derived.Test.YtkkmgaigingmpaaEngQd
namespace Go.Proofs.Ytkkmgaigingmpaa
open Go.Ab
attribute [local irreducible] iLt iEq wr runLoop ld1 ldN callF Ab.stN Ab.st1
set_option maxRecDepth 100000
set_option maxHeartbeats 4000000

theorem works_call (F d : Nat) (K : KV) (s : St) : CL F (d + 1) (fnv 16) [] K s = K (.bool true) s := callF_extK_w K s
theorem lgs_all : ∀ {rows : List (List Int)}, lgs rows = false → ∀ r ∈ rows, r.length ≤ 30
  | [], _, _, h => by cases h
  | x :: l, h, r, hr => by
    unfold lgs at h
    cases h1 : iLt 30 (Int.ofNat x.length) with
    | true => rw [h1] at h; cases h
    | false =>
      rw [h1] at h
      cases hr with
      | head => have := iLt_false h1; have : (x.length : Int) ≤ 30 := this; omega
      | tail _ hr => exact lgs_all h r hr
theorem SlI_flat {s : St} {v : Value} {l : List Int} (h : SlI s v l) : flat1 v = true := by
  obtain ⟨a, c, rfl⟩ := SlI_len h; rfl
theorem SlR_flat {s : St} {v : Value} {l : List (List Int)} (h : SlR s v l) : flat1 v = true := by
  obtain ⟨a, c, rfl⟩ := SlR_len h; rfl
theorem veq_Sl {α : Type} {s : St} {sz : Nat} {R : List Value → α → Prop} {v : Value} {l : List α} (h : Sl s sz R v l) (f : Nat) : veq (f + 1) v v = true := by
  rcases h with ⟨b, o, c, rfl, _⟩ | ⟨_, rfl | rfl⟩
  · show (Nat.beq b b && Nat.beq o o && Nat.beq l.length l.length && Nat.beq c c) = true
    simp only [Nat.beq_refl, Bool.and_self]
  · rfl
  · rfl
theorem veq_pair {e : Int} {v : Value} (h : veq 97 v v = true) : veq 100 (.agg ⟨[.int .i64 e, v]⟩) (.agg ⟨[.int .i64 e, v]⟩) = true := by
  show ((Nat.beq 3 3 && iEq e e) && (veq 97 v v && true)) = true
  rw [iEq_self, h]; rfl
theorem heq4 (x y : Int) : eqV Try.prog 40 43 (.agg ⟨[.int .i64 x, .int .i64 y]⟩) (.agg ⟨[.int .i64 x, .int .i64 y]⟩) = some true := by
  have h : eqV Try.prog 40 43 (.agg ⟨[.int .i64 x, .int .i64 y]⟩) (.agg ⟨[.int .i64 x, .int .i64 y]⟩) = some (iEq x x && (iEq y y && true)) := by kernel_rfl
  rw [h, iEq_self, iEq_self]; rfl
theorem bounds4 (F d : Nat) (s : St) (hs : s.nx + 60000 < 262144) (e : Int) (v : Value) (rows : List (List Int)) (h : SlR s v rows) (hr30 : rows.length ≤ 30) (hF : rows.length + 200 < F)
    (vs : Value) (ss : List (Int × Int)) (hss : SlS s vs ss) (hFs : ss.length + 100 < F) (u : Int) (vo : Value) (ws : List Int) (hvo : SlI s vo ws) (hFw : ws.length < F) :
    Sat (fun K => (cFun Try.prog F 4).run (CL F (d + 4)) [.agg ⟨[.int .i64 e, v]⟩, vs, .agg ⟨[.int .i64 u, vo]⟩] K s) fun x _ => x = .bool true := by
  intro K r hK
  change (cFun Try.prog F 4).run (CL F (d + 4)) [.agg ⟨[.int .i64 e, v]⟩, vs, .agg ⟨[.int .i64 u, vo]⟩] K s = r
  obtain ⟨a0, c0, hv⟩ := SlR_len h
  obtain ⟨a3, c3, hvo'⟩ := SlI_len hvo
  obtain ⟨a4, c4, hvs'⟩ := Sl_len hss
  subst hvs'
  conv => lhs; whnf
  rw [blt_of (show s.nx < 262144 by omega)]
  generalize hs1 : s.push _ = s1
  have hP : Own s1 s.nx [.int .i64 e, v] := by subst hs1; exact Own.push (l := [.int .i64 e, v]) (by show 2 ≤ 32768; omega) (by omega) rfl
  have ks1 : Kp 1 s s1 := by subst hs1; exact Kp.push _ (by omega)
  clear hs1
  have ns1 := ks1.2
  conv => lhs; whnf
  rw [blt_of (show s1.nx < 262144 by omega)]
  generalize hs2 : s1.push _ = s2
  have hW : Own s2 s1.nx [.int .i64 u, vo] := by subst hs2; exact Own.push (l := [.int .i64 u, vo]) (by show 2 ≤ 32768; omega) (by omega) rfl
  have ks2 : Kp 1 s1 s2 := by subst hs2; exact Kp.push _ (by omega)
  clear hs2
  have ns2 := ks2.2
  conv => lhs; whnf
  have b1 := hP.1
  have b2 := hW.1
  have k12 := ks1.trans ks2
  have hP2 := (hP.keep ks2.1).at
  have hW2 := hW.at
  refine Eq.trans (hP2.ldN rfl rfl _) ?_
  conv => lhs; whnf
  refine (Sat.call (F := F) (d := d + 3) (g := 15) rfl (large1 F (d + 3) s2 (by omega) e v rows (h.keep k12.1) (by omega) (by omega))) _ _ ?_
  rintro x s3 ⟨k3, rfl⟩
  have n3 := k3.2
  have k13 := k12.trans k3
  have hP3 := hP2.keep k3.1
  have hW3 := hW2.keep k3.1
  have c30 : iLt 30 (Int.ofNat rows.length) = false := by rw [iLt_eq]; show decide ((30 : Int) < (rows.length : Int)) = false; simp; omega
  rw [c30]
  cases hlg : lgs rows
  · conv => lhs; whnf
    generalize hq : iLt 30 _ = cq
    have hq : iLt 30 (Int.ofNat ss.length) = cq := hq
    cases cq
    · have hsl : ss.length < 9223372036854775807 := by have := iLt_false hq; have : (ss.length : Int) ≤ 30 := this; omega
      conv => lhs; whnf
      refine Eq.trans (hW3.ld1 (j := 1) rfl rfl _) ?_
      rw [hvo']
      conv => lhs; whnf
      generalize hq2 : iLt 30 _ = cq
      have hq2 : iLt 30 (Int.ofNat ws.length) = cq := hq2
      cases cq
      · have hw30 : ws.length ≤ 30 := by have := iLt_false hq2; have : (ws.length : Int) ≤ 30 := this; omega
        have hwl : ws.length < 9223372036854775807 := by omega
        have hall := lgs_all hlg
        conv => lhs; whnf
        refine Eq.trans (hP3.ldN rfl rfl _) ?_
        conv => lhs; whnf
        refine Eq.trans (hW3.ldN rfl rfl _) ?_
        conv => lhs; whnf
        refine (Sat.call (F := F) (d := d + 3) (g := 30) rfl (bound30 F d s3 (by omega) e v rows (h.keep k13.1) (by omega) (by omega) (fun r hr => by have := hall r hr; omega) (fun r hr => by have := hall r hr; omega) _ ss (hss.keep k13.1) hFs hsl u vo ws (hvo.keep k13.1) hFw hwl)) _ _ ?_
        rintro x s4 ⟨k4, rfl⟩
        have n4 := k4.2
        have k14 := k13.trans k4
        have hP4 := hP3.keep k4.1
        have hW4 := hW3.keep k4.1
        obtain ⟨x0, x1, y0, y1, q, hbd⟩ : ∃ x0 x1 y0 y1 q : Int, bd e rows ss u ws = .tuple ⟨[.agg ⟨[.int .i64 x0, .int .i64 x1]⟩, .agg ⟨[.int .i64 y0, .int .i64 y1]⟩, .int .i64 q]⟩ := by
          unfold bd
          cases iEq (rd e rows ss) 0 with
          | false => exact ⟨_, _, _, _, _, rfl⟩
          | true => cases iEq (cw rows u ws) 0 with
            | false => exact ⟨_, _, _, _, _, rfl⟩
            | true => exact ⟨_, _, _, _, _, rfl⟩
        rw [hbd]
        conv => lhs; whnf
        rw [blt_of (show s4.nx < 262144 by omega)]
        generalize hs5 : s4.push _ = s5
        have hA : Own s5 s4.nx [.int .i64 0, .int .i64 0] := by subst hs5; exact Own.push (l := [.int .i64 0, .int .i64 0]) (by show 2 ≤ 32768; omega) (by omega) rfl
        have ks5 : Kp 1 s4 s5 := by subst hs5; exact Kp.push _ (by omega)
        clear hs5
        have ns5 := ks5.2
        conv => lhs; whnf
        rw [blt_of (show s5.nx < 262144 by omega)]
        generalize hs6 : s5.push _ = s6
        have hB : Own s6 s5.nx [.int .i64 0, .int .i64 0] := by subst hs6; exact Own.push (l := [.int .i64 0, .int .i64 0]) (by show 2 ≤ 32768; omega) (by omega) rfl
        have ks6 : Kp 1 s5 s6 := by subst hs6; exact Kp.push _ (by omega)
        clear hs6
        have ns6 := ks6.2
        conv => lhs; whnf
        have d1 := hA.1
        have d2 := hB.1
        have hA6 := hA.keep ks6.1
        refine hA6.stN (o := 0) (l := [.int .i64 x0, .int .i64 x1]) (by show 0 + 2 ≤ 2; omega) rfl ?_ rfl
        intro s7 n7 k7 o7 hA7
        have k7s := k7 s4 (Nat.le_refl _) (ks5.1.trans ks6.1)
        have hA7 : Own s7 s4.nx [.int .i64 x0, .int .i64 x1] := hA7
        have hB7 := hB.same n7 (o7 s5.nx (by omega))
        conv => lhs; whnf
        refine hB7.stN (o := 0) (l := [.int .i64 y0, .int .i64 y1]) (by show 0 + 2 ≤ 2; omega) rfl ?_ rfl
        intro s8 n8 k8 o8 hB8
        have k8s := k8 s4 (by omega) k7s
        have hB8 : Own s8 s5.nx [.int .i64 y0, .int .i64 y1] := hB8
        have hA8 := hA7.same n8 (o8 s4.nx (by omega))
        have k18 : Keep s s8 := k14.1.trans k8s
        have hP8 := hP4.keep k8s
        have hW8 := hW4.keep k8s
        conv => lhs; whnf
        generalize hb : Nat.ble (Nat.add s8.nx _) 262144 = cb
        have hb : cb = true := hb.symm.trans (Nat.ble_eq_true_of_le (Nat.le_trans (Nat.add_le_add_left (Nat.le_of_ble_eq_true rfl : _ ≤ 60) _) (show s8.nx + 60 ≤ 262144 by omega)))
        subst hb
        generalize ht8 : St.mk s8.h (Nat.add s8.nx _) = t8
        have kt8 : Kp 60 s8 t8 := by subst ht8; exact Kp.more (Nat.le_of_ble_eq_true rfl)
        have m8l : s8.nx + 12 ≤ t8.nx := by subst ht8; exact Nat.add_le_add_left (Nat.le_of_ble_eq_true rfl) _
        clear ht8
        conv => lhs; whnf
        have m8 := kt8.2
        have hP8' := hP8.keep kt8.1
        have hW8' := hW8.keep kt8.1
        refine Eq.trans (hP8'.ldN rfl rfl _) ?_
        conv => lhs; whnf
        refine Eq.trans (hW8'.ldN rfl rfl _) ?_
        conv => lhs; whnf
        refine (Sat.call (F := F) (d := d + 3) (g := 17) rfl (given17 F _ t8 (by omega) e v (SlR_flat h))) _ _ ?_
        rintro x s9 ⟨k9, rfl⟩
        have n9 := k9.2
        have hP9 := hP8'.keep k9.1
        have hW9 := hW8'.keep k9.1
        conv => lhs; whnf
        have vqP : veq 100 (.agg ⟨[.int .i64 e, v]⟩) (.agg ⟨[.int .i64 e, v]⟩) = true := veq_pair (veq_Sl h 96)
        have vqW : veq 100 (.agg ⟨[.int .i64 u, vo]⟩) (.agg ⟨[.int .i64 u, vo]⟩) = true := veq_pair (veq_Sl hvo 96)
        generalize hrc : recheck _ _ s9 = rc
        have hrc2 : rc = true := by
          rw [← hrc]
          refine recheck_of fun x hx => ?_
          rcases List.mem_cons.1 hx with rfl | hx
          · conv => lhs; whnf
            refine Eq.trans (hW9.ldN rfl rfl _) ?_
            exact vqW
          · rcases List.mem_cons.1 hx with rfl | hx
            · conv => lhs; whnf
              refine Eq.trans (hP9.ldN rfl rfl _) ?_
              exact vqP
            · cases hx
        subst hrc2
        conv => lhs; whnf
        refine (Sat.call (F := F) (d := d + 3) (g := 28) rfl (weights28 F _ s9 (by omega) u vo (SlI_flat hvo))) _ _ ?_
        rintro x s10 ⟨k10, rfl⟩
        have n10 := k10.2
        have hP10 := hP9.keep k10.1
        have hW10 := hW9.keep k10.1
        conv => lhs; whnf
        have k8t : Keep s t8 := k18.trans kt8.1
        have k10s : Keep s s10 := k8t.trans (k9.1.trans k10.1)
        refine (Sat.call (F := F) (d := d + 3) (g := 27) rfl (bound27 F d s10 (by omega) e v rows (h.keep k10s) (by omega) (by omega) (fun r hr => by have := hall r hr; omega) (fun r hr => by have := hall r hr; omega) _ ss (hss.keep k10s) hFs hsl u vo ws (hvo.keep k10s) hFw hwl)) _ _ ?_
        rintro x s11 ⟨k11, rfl⟩
        have n11 := k11.2
        rw [hbd]
        have kk : Keep s8 s11 := kt8.1.trans (k9.1.trans (k10.1.trans k11.1))
        have hA11 := hA8.keep kk
        have hB11 := hB8.keep kk
        have hP11 := hP10.keep k11.1
        have hW11 := hW10.keep k11.1
        conv => lhs; whnf
        generalize hs12 : adopt _ _ _ s11 = s12
        have e12 : s12 = (s11.set (Nat.add s8.nx 10) (some (mkC [.int .i64 0, .int .i64 0] 43 false))).set (Nat.add s8.nx 11) (some (mkC [.int .i64 0, .int .i64 0] 43 false)) := hs12.symm.trans (by kernel_rfl)
        have q9 := k9.1.1
        have q10 := k10.1.1
        have q11 := k11.1.1
        have ns8 : s8.nx + 12 ≤ s11.nx := by omega
        have nb : s11.nx < 262144 := by omega
        have hC' : Own (s11.set (Nat.add s8.nx 10) (some (mkC [.int .i64 0, .int .i64 0] 43 false))) (Nat.add s8.nx 10) [.int .i64 0, .int .i64 0] := Own.setNew (by show s8.nx + 10 < s11.nx; omega) (by show s8.nx + 10 < 262144; omega) (by show 2 ≤ 32768; omega) rfl
        have hD : Own s12 (Nat.add s8.nx 11) [.int .i64 0, .int .i64 0] := by
          rw [e12]; exact Own.setNew (by show s8.nx + 11 < s11.nx; omega) (by show s8.nx + 11 < 262144; omega) (by show 2 ≤ 32768; omega) rfl
        have hC : Own s12 (Nat.add s8.nx 10) [.int .i64 0, .int .i64 0] := by
          rw [e12]; exact hC'.same rfl (set_other (by show s8.nx + 11 < 262144; omega) (by show s8.nx + 10 ≠ s8.nx + 11; omega))
        have k12 : Keep s8 s12 := by
          rw [e12]; exact (kk.set (by show s8.nx ≤ s8.nx + 10; omega) (by show s8.nx + 10 < 262144; omega)).set (by show s8.nx ≤ s8.nx + 11; omega) (by show s8.nx + 11 < 262144; omega)
        have n12 : s12.nx = s11.nx := by rw [e12]; rfl
        clear e12 hs12 hC'
        refine hC.stN (o := 0) (l := [.int .i64 x0, .int .i64 x1]) (by show 0 + 2 ≤ 2; omega) rfl ?_ rfl
        intro s13 n13 k13' o13 hC13
        have hC13 : Own s13 (Nat.add s8.nx 10) [.int .i64 x0, .int .i64 x1] := hC13
        have k13 : Keep s8 s13 := k13' s8 (by show s8.nx ≤ s8.nx + 10; omega) k12
        have hD13 := hD.same n13 (o13 (Nat.add s8.nx 11) (by show s8.nx + 11 ≠ s8.nx + 10; omega))
        have hP13 := hP8.keep k13
        have hW13 := hW8.keep k13
        conv => lhs; whnf
        generalize hs14 : adopt _ _ _ s13 = s14
        have e14 : s13 = s14 := Eq.trans (by kernel_rfl) hs14
        clear hs14
        subst e14
        refine hD13.stN (o := 0) (l := [.int .i64 y0, .int .i64 y1]) (by show 0 + 2 ≤ 2; omega) rfl ?_ rfl
        intro s15 n15 k15' o15 hD15
        have hD15 : Own s15 (Nat.add s8.nx 11) [.int .i64 y0, .int .i64 y1] := hD15
        have k15 : Keep s8 s15 := k15' s8 (by show s8.nx ≤ s8.nx + 11; omega) k13
        have hC15 := hC13.same n15 (o15 (Nat.add s8.nx 10) (by show s8.nx + 10 ≠ s8.nx + 11; omega))
        have hA15 := hA8.keep k15
        have hB15 := hB8.keep k15
        conv => lhs; whnf
        generalize hs16 : adoptAll _ _ s15 = s16
        have e16 : s15 = s16 := Eq.trans (by kernel_rfl) hs16
        clear hs16
        subst e16
        refine Eq.trans (hA15.at.ldN rfl rfl _) ?_
        conv => lhs; whnf
        refine Eq.trans (hC15.at.ldN rfl rfl _) ?_
        conv => lhs; whnf
        refine ops_forget (fun t => (getW 2 8).g t = ptr s5.nx 0 ∧ (getW 2 9).g t = .int .i64 q ∧ (getW 2 11).g t = ptr (Nat.add s8.nx 11) 0 ∧ (getW 2 12).g t = .int .i64 q ∧ (getW 2 45).g t = .agg ⟨[.int .i64 x0, .int .i64 x1]⟩ ∧ (getW 2 46).g t = .agg ⟨[.int .i64 x0, .int .i64 x1]⟩) ⟨rfl, rfl, rfl, rfl, rfl, rfl⟩ ?_
        rintro t ⟨fc8, fc9, fc11, fc12, fc45, fc46⟩
        obtain ⟨⟨a0, a8, a16, a24, a32, a40, a48, a56⟩, ⟨a1, a9, a17, a25, a33, a41, a49, a57⟩, g1_2, ⟨a3, a11, a19, a27, a35, a43, a51, a59⟩, ⟨a4, a12, a20, a28, a36, a44, a52, a60⟩, ⟨a5, a13, a21, a29, a37, a45, a53, a61⟩, ⟨a6, a14, a22, a30, a38, a46, a54, a62⟩, g1_7⟩ := t
        have fc8 : _ = a8 := Eq.symm fc8
        have fc9 : _ = a9 := Eq.symm fc9
        have fc11 : _ = a11 := Eq.symm fc11
        have fc12 : _ = a12 := Eq.symm fc12
        have fc45 : _ = a45 := Eq.symm fc45
        have fc46 : _ = a46 := Eq.symm fc46
        subst fc8 fc9 fc11 fc12 fc45 fc46
        refine step_eqAgg rfl rfl rfl rfl rfl (by kernel_rfl) (heq4 x0 x1) ?_
        refine step_sil rfl rfl rfl (fun _ => rfl) ?_
        refine step_rd_yes rfl rfl rfl rfl rfl (fun _ => hB15.at.ldN rfl rfl _) ?_
        refine step_rd_yes rfl rfl rfl rfl rfl (fun _ => hD15.at.ldN rfl rfl _) ?_
        refine ops_forget (fun t => (getW 2 9).g t = .int .i64 q ∧ (getW 2 12).g t = .int .i64 q ∧ (getW 2 48).g t = .bool true ∧ (getW 2 49).g t = .agg ⟨[.int .i64 y0, .int .i64 y1]⟩ ∧ (getW 2 50).g t = .agg ⟨[.int .i64 y0, .int .i64 y1]⟩) ⟨rfl, rfl, rfl, rfl, rfl⟩ ?_
        rintro t ⟨fc9, fc12, fc48, fc49, fc50⟩
        obtain ⟨⟨a0, a8, a16, a24, a32, a40, a48, a56⟩, ⟨a1, a9, a17, a25, a33, a41, a49, a57⟩, ⟨a2, a10, a18, a26, a34, a42, a50, a58⟩, g1_3, ⟨a4, a12, a20, a28, a36, a44, a52, a60⟩, g1_5, g1_6, g1_7⟩ := t
        have fc9 : _ = a9 := Eq.symm fc9
        have fc12 : _ = a12 := Eq.symm fc12
        have fc48 : _ = a48 := Eq.symm fc48
        have fc49 : _ = a49 := Eq.symm fc49
        have fc50 : _ = a50 := Eq.symm fc50
        subst fc9 fc12 fc48 fc49 fc50
        refine step_eqAgg_yes rfl rfl rfl rfl rfl rfl rfl (by kernel_rfl) (heq4 y0 y1) ?_
        refine step_sil rfl rfl rfl (fun _ => rfl) ?_
        refine step_sil rfl rfl rfl (fun _ => rfl) ?_
        refine step_yes rfl rfl rfl rfl rfl (fun _ => rfl) ?_
        refine step_yes rfl rfl rfl rfl rfl (fun _ => rfl) ?_
        refine ops_forget (fun t => (getW 2 53).g t = .bool true ∧ (getW 2 54).g t = .int .i64 q ∧ (getW 2 55).g t = .int .i64 q) ⟨rfl, rfl, rfl⟩ ?_
        rintro t ⟨fc53, fc54, fc55⟩
        obtain ⟨g1_0, g1_1, g1_2, g1_3, g1_4, ⟨a5, a13, a21, a29, a37, a45, a53, a61⟩, ⟨a6, a14, a22, a30, a38, a46, a54, a62⟩, ⟨a7, a15, a23, a31, a39, a47, a55, a63⟩⟩ := t
        have fc53 : _ = a53 := Eq.symm fc53
        have fc54 : _ = a54 := Eq.symm fc54
        have fc55 : _ = a55 := Eq.symm fc55
        subst fc53 fc54 fc55
        refine step_yes (v := .bool true) rfl rfl rfl rfl rfl (fun K' => congrArg (fun c => K' (.bool c)) (iEq_self q)) ?_
        refine step_sil rfl rfl rfl (fun _ => rfl) ?_
        refine step_sil rfl rfl rfl (fun _ => rfl) ?_
        refine step_call_yes rfl rfl rfl rfl rfl ?_
        refine Eq.trans (works_call F (d + 3) _ _) ?_
        refine ops_forget (fun t => (getW 2 58).g t = .bool true ∧ (getW 2 59).g t = .bool true) ⟨rfl, rfl⟩ ?_
        rintro t ⟨fc58, fc59⟩
        obtain ⟨g1_0, g1_1, ⟨a2, a10, a18, a26, a34, a42, a50, a58⟩, ⟨a3, a11, a19, a27, a35, a43, a51, a59⟩, g1_4, g1_5, g1_6, g1_7⟩ := t
        have fc58 : _ = a58 := Eq.symm fc58
        have fc59 : _ = a59 := Eq.symm fc59
        subst fc58 fc59
        refine step_sil rfl rfl rfl (fun _ => rfl) ?_
        refine step_sil rfl rfl rfl (fun _ => rfl) ?_
        refine Eq.trans ops_nil ?_
        conv => lhs; whnf
        exact hK _ _ rfl
      · conv => lhs; whnf
        refine Eq.trans (works_call F (d + 3) _ s3) ?_
        conv => lhs; whnf
        exact hK _ _ rfl
    · conv => lhs; whnf
      refine Eq.trans (works_call F (d + 3) _ s3) ?_
      conv => lhs; whnf
      exact hK _ _ rfl
  · conv => lhs; whnf
    refine Eq.trans (works_call F (d + 3) _ s3) ?_
    conv => lhs; whnf
    exact hK _ _ rfl

theorem large1b (F d : Nat) (s : St) (hs : s.nx + 1 < 262144) (e : Int) (v : Value) (len : Nat) (h : ∃ a c, v = .slice a len c) (h30 : 30 < len) (hF : len < F) (hrl : len ≤ 9223372036854775807) : Sat (fun K => (cFun Try.prog F 15).run (CL F d) [.agg ⟨[.int .i64 e, v]⟩] K s) fun x s' => Kp 1 s s' ∧ x = .bool true := by
  intro K r hK
  show (cFun Try.prog F 15).run (CL F d) [.agg ⟨[.int .i64 e, v]⟩] K s = r
  conv => lhs; whnf
  rw [blt_of (show s.nx < 262144 by omega)]
  generalize hs1 : s.push _ = s1
  have hA : AtN s1 s.nx 0 [.int .i64 e, v] := by
    subst hs1
    exact AtN.push (l := [.int .i64 e, v]) (by show 2 ≤ 32768; omega) (by omega)
  have hkp : Kp 1 s s1 := by subst hs1; exact Kp.push _ (by omega)
  clear hs1
  have hk1 := hkp.1
  obtain ⟨a0, c0, hv⟩ := h
  have c30 : iLt 30 (Int.ofNat len) = true := by rw [iLt_eq]; show decide ((30 : Int) < (len : Int)) = true; simp; omega
  conv => lhs; whnf
  refine Eq.trans (hA.ld1 (j := 1) rfl rfl _) ?_
  rw [hv]
  conv => lhs; whnf
  refine runLoop_rule (fun j m t s' => m = [] ∧ s' = s1 ∧ (getW 2 1).g t = ptr s.nx 0 ∧ ∃ i, (getW 2 3).g t = .bool true ∧ (getW 2 4).g t = .int .i64 (Int.ofNat i) ∧ i + j = len) ?_ _ len _ _ _ hF ?_
  · rintro j m t s' ih ⟨rfl, rfl, h1, i, h3, h4, hij⟩ hih
    obtain ⟨c0, ⟨a1, a9, a17, a25, a33, a41, a49, a57⟩, c2, ⟨a3, a11, a19, a27, a35, a43, a51, a59⟩, ⟨a4, a12, a20, a28, a36, a44, a52, a60⟩, c5, c6, c7⟩ := t
    have h1 : a1 = _ := h1
    have h3 : a3 = _ := h3
    have h4 : a4 = _ := h4
    subst h1 h3 h4
    conv => lhs; whnf
    refine Eq.trans (hA.ld1 (j := 1) rfl rfl _) ?_
    rw [hv]
    conv => lhs; whnf
    cases h5 : iLt (Int.ofNat i) (Int.ofNat len)
    · conv => lhs; whnf
      exact hK _ _ ⟨hkp, rfl⟩
    · have hi : i < len := by rw [iLt_eq] at h5; simp at h5; omega
      have hw : wr .i64 ((Int.ofNat i).add 1) = Int.ofNat (i + 1) := wr_nat (show i + 1 < 9223372036854775808 by omega)
      conv => lhs; whnf
      refine hih (j - 1) _ _ _ (by omega) ⟨rfl, rfl, rfl, i + 1, rfl, ?_, by omega⟩
      refine Eq.trans ?_ (congrArg (Value.int .i64) hw); kernel_rfl
  · exact ⟨rfl, rfl, rfl, 0, congrArg Value.bool c30, rfl, Nat.zero_add _⟩

theorem boundsBig (F d : Nat) (s : St) (hs : s.nx + 60000 < 262144) (e : Int) (v : Value) (len : Nat) (h : ∃ a c, v = .slice a len c) (h30 : 30 < len) (hF : len < F) (hrl : len ≤ 9223372036854775807)
    (vs vo : Value) (u : Int) :
    Sat (fun K => (cFun Try.prog F 4).run (CL F (d + 4)) [.agg ⟨[.int .i64 e, v]⟩, vs, .agg ⟨[.int .i64 u, vo]⟩] K s) fun x _ => x = .bool true := by
  intro K r hK
  change (cFun Try.prog F 4).run (CL F (d + 4)) [.agg ⟨[.int .i64 e, v]⟩, vs, .agg ⟨[.int .i64 u, vo]⟩] K s = r
  conv => lhs; whnf
  rw [blt_of (show s.nx < 262144 by omega)]
  generalize hs1 : s.push _ = s1
  have hP : Own s1 s.nx [.int .i64 e, v] := by subst hs1; exact Own.push (l := [.int .i64 e, v]) (by show 2 ≤ 32768; omega) (by omega) rfl
  have ks1 : Kp 1 s s1 := by subst hs1; exact Kp.push _ (by omega)
  clear hs1
  have ns1 := ks1.2
  conv => lhs; whnf
  rw [blt_of (show s1.nx < 262144 by omega)]
  generalize hs2 : s1.push _ = s2
  have hW : Own s2 s1.nx [.int .i64 u, vo] := by subst hs2; exact Own.push (l := [.int .i64 u, vo]) (by show 2 ≤ 32768; omega) (by omega) rfl
  have ks2 : Kp 1 s1 s2 := by subst hs2; exact Kp.push _ (by omega)
  clear hs2
  have ns2 := ks2.2
  conv => lhs; whnf
  have b1 := hP.1
  have b2 := hW.1
  have k12 := ks1.trans ks2
  have hP2 := (hP.keep ks2.1).at
  have hW2 := hW.at
  refine Eq.trans (hP2.ldN rfl rfl _) ?_
  conv => lhs; whnf
  refine (Sat.call (F := F) (d := d + 3) (g := 15) rfl (large1b F (d + 3) s2 (by omega) e v len h h30 (by omega) (by omega))) _ _ ?_
  rintro x s3 ⟨k3, rfl⟩
  conv => lhs; whnf
  refine Eq.trans (works_call F (d + 3) _ s3) ?_
  conv => lhs; whnf
  exact hK _ _ rfl

end Go.Proofs.Ytkkmgaigingmpaa
