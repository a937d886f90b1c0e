/- Neutral: texts Zb. -/
import Derived.Test.YtpncjgiojoehkaaNmK
import Derived.Test.YtpncjgiojoehkaaNmI
import Derived.Test.YtpncjgiojoehkaaNmJ
import Derived.Test.YtpncjgiojoehkaaNmF
import Derived.Test.YtpncjgiojoehkaaNmG
import Derived.Test.YtpncjgiojoehkaaNmH
import Derived.KernelRfl
namespace Go.Proofs.Ytpncjgiojoehkaa
open Go.Ab
set_option maxRecDepth 100000
set_option linter.unusedVariables false
theorem ngL_len (b : Bool) (L : List Int) : (ngL b L).length = L.length := by
  cases b
  · rfl
  · exact List.length_map _
theorem ck2s_ok {L : List Int} {n k : Nat} {Q : List Nat} (h : ck2s L n k Q = true) : ∀ b, ckL (ngL b L) n k Q = true := fun b => by
  unfold ck2s at h
  rw [Bool.and_eq_true] at h
  cases b
  · exact h.1
  · exact h.2
theorem fq_eq {r s : Int} {p : Nat} (e : (xq r, yq s) = rt p) : fq r s = fr p := by
  unfold fr; rw [← e]
theorem k2_all : ∀ p, p < 14 → ck2 p = true := fun p hp => by
  match p, hp with
  | 0, _ => exact k2_0
  | 1, _ => exact k2_1
  | 2, _ => exact k2_2
  | 3, _ => exact k2_3
  | 4, _ => exact k2_4
  | 5, _ => exact k2_5
  | 6, _ => exact k2_6
  | 7, _ => exact k2_7
  | 8, _ => exact k2_8
  | 9, _ => exact k2_9
  | 10, _ => exact k2_10
  | 11, _ => exact k2_11
  | 12, _ => exact k2_12
  | 13, _ => exact k2_13
  | p + 14, hp => exact absurd hp (by omega)
theorem k3_all : ∀ p, p < 14 → ck3 p = true := fun p hp => by
  match p, hp with
  | 0, _ => exact k3_0
  | 1, _ => exact k3_1
  | 2, _ => exact k3_2
  | 3, _ => exact k3_3
  | 4, _ => exact k3_4
  | 5, _ => exact k3_5
  | 6, _ => exact k3_6
  | 7, _ => exact k3_7
  | 8, _ => exact k3_8
  | 9, _ => exact k3_9
  | 10, _ => exact k3_10
  | 11, _ => exact k3_11
  | 12, _ => exact k3_12
  | 13, _ => exact k3_13
  | p + 14, hp => exact absurd hp (by omega)
theorem pm_all : ∀ p, p < 14 → pm3 p = true := fun p hp => by
  match p, hp with
  | 0, _ => exact pm_0
  | 1, _ => exact pm_1
  | 2, _ => exact pm_2
  | 3, _ => exact pm_3
  | 4, _ => exact pm_4
  | 5, _ => exact pm_5
  | 6, _ => exact pm_6
  | 7, _ => exact pm_7
  | 8, _ => exact pm_8
  | 9, _ => exact pm_9
  | 10, _ => exact pm_10
  | 11, _ => exact pm_11
  | 12, _ => exact pm_12
  | 13, _ => exact pm_13
  | p + 14, hp => exact absurd hp (by omega)
theorem so_eq (p q : Nat) : (so p q).1 = min p q ∧ (so p q).2 = max p q := by
  unfold so
  cases h : Nat.ble p q with
  | true => have := Nat.le_of_ble_eq_true h; rw [cond_true]; exact ⟨(by omega : p = min p q), (by omega : q = max p q)⟩
  | false =>
    have : ¬ p ≤ q := fun e => by rw [Nat.ble_eq_true_of_le e] at h; cases h
    rw [cond_false]; exact ⟨(by omega : q = min p q), (by omega : p = max p q)⟩
theorem ck3_ok {p q r : Nat} (hp : p < 14) (hq : q < 14) (hr : r < 14) : ck2s (P3 p q r) 4 3 (Q3 p q r) = true := by
  have h := pm_all p hp
  unfold pm3 at h
  have h := List.all_eq_true.1 (List.all_eq_true.1 h q (List.mem_range.2 hq)) r (List.mem_range.2 hr)
  rw [Bool.and_eq_true, decide_eq_true_eq, decide_eq_true_eq] at h
  rw [h.1, h.2]
  obtain ⟨e1, e2⟩ := so_eq p q
  obtain ⟨e3, e4⟩ := so_eq (so p q).1 r
  obtain ⟨e5, e6⟩ := so_eq (so p q).2 (so (so p q).1 r).2
  have l1 : (so (so p q).1 r).1 < 14 := by omega
  have l2 : (so (so p q).2 (so (so p q).1 r).2).1 < 14 := by omega
  have l3 : (so (so p q).2 (so (so p q).1 r).2).2 < 14 := by omega
  have l4 : (so (so p q).1 r).1 ≤ (so (so p q).2 (so (so p q).1 r).2).1 := by omega
  have l5 : (so (so p q).2 (so (so p q).1 r).2).1 ≤ (so (so p q).2 (so (so p q).1 r).2).2 := by omega
  generalize (so (so p q).1 r).1 = x at *
  generalize (so (so p q).2 (so (so p q).1 r).2).1 = y at *
  generalize (so (so p q).2 (so (so p q).1 r).2).2 = z at *
  have k := k3_all x l1
  unfold ck3 at k
  have k := List.all_eq_true.1 (List.all_eq_true.1 k y (List.mem_range.2 l2)) z (List.mem_range.2 l3)
  rw [Nat.ble_eq_true_of_le l4, Nat.ble_eq_true_of_le l5] at k
  exact k
theorem nil_lt : ∀ q ∈ ([] : List Nat), q < 14 := fun q hq => by cases hq
theorem l6_all (F d : Nat) (hF : 500 < F) (r00 r01 r10 r11 r20 r21 : Int) (cnt : Nat) (hcnt : cnt < 256) (odd : Bool) (fa a0 a1 b0 b1 : Int) :
    ReadC (CL F (d + 12)) 6 [.agg [.int .i8 r00, .int .i8 r01, .int .i8 r10, .int .i8 r11, .int .i8 r20, .int .i8 r21, .int .u8 (Int.ofNat cnt), .bool odd, .int .i8 fa], .agg [.int .i8 a0, .int .i8 a1], .agg [.int .i8 b0, .int .i8 b1]] [] (1300000 + 100) (.bool true) := by
  obtain ⟨p, hp, ep⟩ := rt_ex r00 r01
  obtain ⟨q, hq, eq⟩ := rt_ex r10 r11
  obtain ⟨r, hr, er⟩ := rt_ex r20 r21
  have s1 := insP_lt hp nil_lt
  have s2 := insP_lt hq s1
  have s3 := insP_lt hr s2
  have m1 : insR (xq r00, yq r01) [] = (insP p []).map rt := by rw [ep]; exact insR_map hp nil_lt
  have m2 : insR (xq r10, yq r11) (insR (xq r00, yq r01) []) = (insP q (insP p [])).map rt := by rw [m1, eq]; exact insR_map hq s1
  have m3 : insR (xq r20, yq r21) (insR (xq r10, yq r11) (insR (xq r00, yq r01) [])) = (insP r (insP q (insP p []))).map rt := by rw [m2, er]; exact insR_map hr s2
  have f1 := fq_eq ep
  have f2 := fq_eq eq
  have f3 := fq_eq er
  have n1 : (insP p []).length = 1 := insP_len p []
  have n2 : (insP q (insP p [])).length = 2 := by rw [insP_len, n1]
  have n3 : (insP r (insP q (insP p []))).length = 3 := by rw [insP_len, n2]
  have c1 := fun base n (h : ck1 base n = true) => ck2s_ok (List.all_eq_true.1 h p (List.mem_range.2 hp))
  cases odd
  · rcases (by omega : 1 + cnt % 3 = 1 ∨ 1 + cnt % 3 = 2 ∨ 1 + cnt % 3 = 3) with hc | hc | hc
    · refine law_ck F d hF r00 r01 r10 r11 r20 r21 (Int.ofNat cnt) fa false a0 a1 b0 b1 (L := ngL (iLt fa 0) (mulL [1] (fr p))) (n := 2) (S := insP p []) s1 n1 (by decide) (by decide) (by decide) (by rw [ngL_len, mulL_len]; rfl) (c1 _ _ k1_e _) fun R => ?_
      have k := c31_e1 F (d + 9) 710 760 (by omega) r00 r01 r10 r11 r20 r21 fa cnt hcnt hc R
      rw [f1, m1] at k
      exact k
    · refine law_ck F d hF r00 r01 r10 r11 r20 r21 (Int.ofNat cnt) fa false a0 a1 b0 b1 (L := ngL (iLt fa 0) (mulL (mulL [1] (fr p)) (fr q))) (n := 3) (S := insP q (insP p [])) s2 n2 (by decide) (by decide) (by decide) (by rw [ngL_len, mulL_len, mulL_len]; rfl) (ck2s_ok (List.all_eq_true.1 (k2_all p hp) q (List.mem_range.2 hq)) _) fun R => ?_
      have k := c31_e2 F (d + 9) 710 760 (by omega) r00 r01 r10 r11 r20 r21 fa cnt hcnt hc R
      rw [f1, f2, m2] at k
      exact k
    · refine law_ck F d hF r00 r01 r10 r11 r20 r21 (Int.ofNat cnt) fa false a0 a1 b0 b1 (L := ngL (iLt fa 0) (P3 p q r)) (n := 4) (S := insP r (insP q (insP p []))) s3 n3 (by decide) (by decide) (by decide) (by unfold P3; rw [ngL_len, mulL_len, mulL_len, mulL_len]; rfl) (ck2s_ok (ck3_ok hp hq hr) _) fun R => ?_
      have k : callS (CL F (d + 9 + 2)) (.fn 31 [] []) [.agg [.int .i8 r00, .int .i8 r01, .int .i8 r10, .int .i8 r11, .int .i8 r20, .int .i8 r21, .int .u8 (Int.ofNat cnt), .bool false, .int .i8 fa]] [] (addL R (30000 + 100)) 0 fun w m' R' _ => (∃ w0 mf, QM 710 760 4 3 (ngL (iLt fa 0) (mulL (mulL (mulL [1] (fq r00 r01)) (fq r10 r11)) (fq r20 r21))) (insR (xq r20, yq r21) (insR (xq r10, yq r11) (insR (xq r00, yq r01) []))) w0 mf ∧ den w = den w0 ∧ WkM m' mf) ∧ R ≤ R' := by
        rcases Bool.eq_false_or_eq_true (lsB (xq r00, yq r01) (xq r10, yq r11)) with h01 | h01 <;> rcases Bool.eq_false_or_eq_true (lsB (xq r00, yq r01) (xq r20, yq r21)) with h02 | h02
        · exact c31_e3_t_t F (d + 9) 710 760 (by omega) r00 r01 r10 r11 r20 r21 fa cnt hcnt hc h01 h02 R
        · exact c31_e3_t_f F (d + 9) 710 760 (by omega) r00 r01 r10 r11 r20 r21 fa cnt hcnt hc h01 h02 R
        · exact c31_e3_f_t F (d + 9) 710 760 (by omega) r00 r01 r10 r11 r20 r21 fa cnt hcnt hc h01 h02 R
        · exact c31_e3_f_f F (d + 9) 710 760 (by omega) r00 r01 r10 r11 r20 r21 fa cnt hcnt hc h01 h02 R
      rw [f1, f2, f3, m3] at k
      exact k
  · rcases Bool.eq_false_or_eq_true (iEq (Int.tmod fa 2) 0) with hf | hf <;> rcases Nat.mod_two_eq_zero_or_one cnt with hc | hc
    · refine law_ck F d hF r00 r01 r10 r11 r20 r21 (Int.ofNat cnt) fa true a0 a1 b0 b1 (L := ngL (iLt fa 0) [2, 0, 1]) (n := 3) (k := 0) (S := []) nil_lt rfl (by decide) (by decide) (by decide) (by rw [ngL_len]; rfl) (ck2s_ok k0_2 _) fun R => ?_
      exact c31_o20 F (d + 9) 710 760 (by omega) r00 r01 r10 r11 r20 r21 fa cnt hcnt hc hf R
    · refine law_ck F d hF r00 r01 r10 r11 r20 r21 (Int.ofNat cnt) fa true a0 a1 b0 b1 (L := ngL (iLt fa 0) (mulL [2, 0, 1] (fr p))) (n := 4) (S := insP p []) s1 n1 (by decide) (by decide) (by decide) (by rw [ngL_len, mulL_len]; rfl) (c1 _ _ k1_2 _) fun R => ?_
      have k := c31_o21 F (d + 9) 710 760 (by omega) r00 r01 r10 r11 r20 r21 fa cnt hcnt hc hf R
      rw [f1, m1] at k
      exact k
    · refine law_ck F d hF r00 r01 r10 r11 r20 r21 (Int.ofNat cnt) fa true a0 a1 b0 b1 (L := ngL (iLt fa 0) [1, 1, 1]) (n := 3) (k := 0) (S := []) nil_lt rfl (by decide) (by decide) (by decide) (by rw [ngL_len]; rfl) (ck2s_ok k0_1 _) fun R => ?_
      exact c31_o10 F (d + 9) 710 760 (by omega) r00 r01 r10 r11 r20 r21 fa cnt hcnt hc hf R
    · refine law_ck F d hF r00 r01 r10 r11 r20 r21 (Int.ofNat cnt) fa true a0 a1 b0 b1 (L := ngL (iLt fa 0) (mulL [1, 1, 1] (fr p))) (n := 4) (S := insP p []) s1 n1 (by decide) (by decide) (by decide) (by rw [ngL_len, mulL_len]; rfl) (c1 _ _ k1_1 _) fun R => ?_
      have k := c31_o11 F (d + 9) 710 760 (by omega) r00 r01 r10 r11 r20 r21 fa cnt hcnt hc hf R
      rw [f1, m1] at k
      exact k
theorem run0 {P : Program} {F : Nat} {fs0 : List FuncId} {w d : Nat} {g : FuncId} {args : List SV} {N : Nat} (h : ReadC (callF P F (extB fs0 w) (d + 1)) g args [] N (.bool true)) (hg : Nat.beq g w = false) (hg2 : memF g fs0 = false) {s : St} (hs : s.nx + N ≤ 16777216) (hf : s.fl ≤ s.nx) : (cFun P F g).run (callF P F (extB fs0 w) d) (dens args) (isTrue true) s = true :=
  h.runs hg hg2 hs hf (fun x hx => by cases hx) (fun x hx => by cases hx)
theorem wf_i8 {n : Int} (h : (Lit.int .i8 n).wf = true) : -128 ≤ n ∧ n < 128 := by
  have h : (decide (IntKind.i8.min ≤ n) && decide (n ≤ IntKind.i8.max)) = true := h
  rw [Bool.and_eq_true, decide_eq_true_eq, decide_eq_true_eq] at h
  have e1 : IntKind.i8.min = -128 := by decide
  have e2 : IntKind.i8.max = 127 := by decide
  rw [e1, e2] at h
  omega
theorem l6_flat (F d : Nat) (hF : 500 < F) (x0 x1 x2 x3 x4 x5 x6 : Int) (x7 : Bool) (x8 x9 x10 x11 x12 : Int) (h0 : -128 ≤ x0 ∧ x0 < 128) (h1 : -128 ≤ x1 ∧ x1 < 128) (h2 : -128 ≤ x2 ∧ x2 < 128) (h3 : -128 ≤ x3 ∧ x3 < 128) (h4 : -128 ≤ x4 ∧ x4 < 128) (h5 : -128 ≤ x5 ∧ x5 < 128) (h6 : 0 ≤ x6 ∧ x6 < 256) (h8 : -128 ≤ x8 ∧ x8 < 128) (h9 : -128 ≤ x9 ∧ x9 < 128) (h10 : -128 ≤ x10 ∧ x10 < 128) (h11 : -128 ≤ x11 ∧ x11 < 128) (h12 : -128 ≤ x12 ∧ x12 < 128) :
    ReadC (callF Try.prog F (extB [] 12) (d + 12)) 6 [.agg [.int .i8 x0, .int .i8 x1, .int .i8 x2, .int .i8 x3, .int .i8 x4, .int .i8 x5, .int .u8 x6, .bool x7, .int .i8 x8], .agg [.int .i8 x9, .int .i8 x10], .agg [.int .i8 x11, .int .i8 x12]] [] (1300000 + 100) (.bool true) := by
  obtain ⟨c, hc⟩ : ∃ c : Nat, x6 = Int.ofNat c := ⟨x6.toNat, by show x6 = ((x6.toNat : Nat) : Int); omega⟩
  subst hc
  exact l6_all F d hF x0 x1 x2 x3 x4 x5 c (by have h := h6.2; show c < 256; have : (c : Int) < 256 := h; omega) x7 x8 x9 x10 x11 x12
end Go.Proofs.Ytpncjgiojoehkaa
