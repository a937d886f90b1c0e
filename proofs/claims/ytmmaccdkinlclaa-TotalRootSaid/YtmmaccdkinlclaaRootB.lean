/- Open runs: the law of roots. -/
import Derived.Test.YtmmaccdkinlclaaRootA
import Derived.Test.YtmmaccdkinlclaaEngQd
namespace Go.Proofs.Ytmmaccdkinlclaa
open Go.Ab
attribute [local irreducible] iLt iEq wr runLoop ld1 ldN callF Ab.stN Ab.st1 cCode cOps
set_option maxRecDepth 100000
set_option maxHeartbeats 1000000
theorem law13 (F d : Nat) (hF : 100 < F) (s : St) (hs : s.nx + 10 < 262144) (q : Nat) (hq : q < 4294967296) : Sat (fun K => (cFun Try.prog F 13).run (CL F (d + 3)) [.int .u32 (Int.ofNat q)] K s) (fun v _ => v = .bool true) := by
  intro K r hK
  change (cFun Try.prog F 13).run (CL F (d + 3)) [.int .u32 (Int.ofNat q)] K s = r
  obtain ⟨n, hn⟩ : ∃ n, n = q % 33554432 := ⟨_, rfl⟩
  have hrem : Int.tmod (Int.ofNat q) 33554432 = Int.ofNat n := by rw [hn]; rfl
  have hnm : n < 33554432 := by omega
  have hnn : n * n ≤ 1125899839733761 := by
    have : n ≤ 33554431 := by omega
    exact Nat.mul_le_mul this this
  have h0 : iEq 33554432 0 = false := by rw [iEq_eq]; rfl
  have w1 : wr .i64 (Int.mul (Int.ofNat n) (Int.ofNat n)) = Int.ofNat (n * n) := wr_nat (i := n * n) (by omega)
  have w2 : wr .i64 (Int.add (Int.ofNat (n * n)) 1) = Int.ofNat (n * n + 1) := wr_nat (i := n * n + 1) (by omega)
  have w3 : wr .i64 (Int.ofNat q) = Int.ofNat q := wr_nat (by omega)
  refine run_fn (k := 3) (n := 134) (c := _) Try.func13 rfl rfl rfl rfl rfl rfl ?_
  -- region 0
  repeat (first | refine Eq.trans run_seq ?_ | refine Eq.trans run_block ?_ | refine Eq.trans run_region0 ?_)
  refine step_sil rfl rfl rfl (fun _ => rfl) ?_
  refine Eq.trans ops_nil ?_
  refine run_forget (fun t => (getW 3 0).g t = .int .u32 (Int.ofNat q)) rfl ?_
  rintro t fc0
  obtain ⟨⟨⟨a0, a64, a128, a192, a256, a320, a384, a448⟩, g1_8, g1_16, g1_24, g1_32, g1_40, g1_48, g1_56⟩, g2_1, g2_2, g2_3, g2_4, g2_5, g2_6, g2_7⟩ := t
  have fc0 : _ = a0 := Eq.symm fc0
  subst fc0
  -- region 1
  repeat (first | refine Eq.trans run_seq ?_ | refine Eq.trans run_block ?_ | refine Eq.trans run_region0 ?_)
  refine step_sil rfl rfl rfl (fun _ => rfl) ?_
  refine step_sil (v := .int .i64 (Int.ofNat q)) rfl rfl rfl (fun K' => congrArg (fun x => K' (.int .i64 x)) (w3)) ?_
  refine step_sil (v := .int .i64 (Int.ofNat n)) rfl rfl rfl (fun K' => cond_f h0 (congrArg (fun x => K' (.int .i64 x)) hrem)) ?_
  refine step_sil rfl rfl rfl (fun _ => rfl) ?_
  refine Eq.trans ops_nil ?_
  refine run_forget (fun t => (getW 3 0).g t = .int .u32 (Int.ofNat q) ∧ (getW 3 3).g t = .int .i64 (Int.ofNat n)) ⟨rfl, rfl⟩ ?_
  rintro t ⟨fc0, fc3⟩
  obtain ⟨⟨⟨a0, a64, a128, a192, a256, a320, a384, a448⟩, g1_8, g1_16, g1_24, g1_32, g1_40, g1_48, g1_56⟩, g2_1, g2_2, ⟨⟨a3, a67, a131, a195, a259, a323, a387, a451⟩, g1_11, g1_19, g1_27, g1_35, g1_43, g1_51, g1_59⟩, g2_4, g2_5, g2_6, g2_7⟩ := t
  have fc0 : _ = a0 := Eq.symm fc0
  have fc3 : _ = a3 := Eq.symm fc3
  subst fc0 fc3
  -- region 2
  repeat (first | refine Eq.trans run_seq ?_ | refine Eq.trans run_block ?_ | refine Eq.trans run_region0 ?_)
  refine step_sil rfl rfl rfl (fun _ => rfl) ?_
  refine step_sil rfl rfl rfl (fun _ => rfl) ?_
  refine step_sil (v := .int .i64 (Int.ofNat (n * n))) rfl rfl rfl (fun K' => congrArg (fun x => K' (.int .i64 x)) (w1)) ?_
  refine step_call rfl rfl rfl ?_
  refine Sat.callB (g := 17) (cs := []) rfl rfl (root17 F d hF s (by omega) (n * n) (by omega)) _ _ ?_
  rintro v s1 ⟨k1, a1, b1, rfl, ha1, ha2, ha3, ha4⟩
  have nk1 := k1.2
  refine ops_forget (fun t => (getW 3 0).g t = .int .u32 (Int.ofNat q) ∧ (getW 3 3).g t = .int .i64 (Int.ofNat n) ∧ (getW 3 20).g t = .tuple ⟨[.int .i64 (Int.ofNat b1), .int .i64 (Int.ofNat a1), .int .i64 0]⟩) ⟨rfl, rfl, rfl⟩ ?_
  rintro t ⟨fc0, fc3, fc20⟩
  obtain ⟨⟨⟨a0, a64, a128, a192, a256, a320, a384, a448⟩, g1_8, g1_16, g1_24, g1_32, g1_40, g1_48, g1_56⟩, g2_1, g2_2, ⟨⟨a3, a67, a131, a195, a259, a323, a387, a451⟩, g1_11, g1_19, g1_27, g1_35, g1_43, g1_51, g1_59⟩, ⟨g1_4, g1_12, ⟨a20, a84, a148, a212, a276, a340, a404, a468⟩, g1_28, g1_36, g1_44, g1_52, g1_60⟩, g2_5, g2_6, g2_7⟩ := t
  have fc0 : _ = a0 := Eq.symm fc0
  have fc3 : _ = a3 := Eq.symm fc3
  have fc20 : _ = a20 := Eq.symm fc20
  subst fc0 fc3 fc20
  refine step_sil rfl rfl rfl (fun _ => rfl) ?_
  refine step_sil rfl rfl rfl (fun _ => rfl) ?_
  refine step_sil rfl rfl rfl (fun _ => rfl) ?_
  refine step_sil rfl rfl rfl (fun _ => rfl) ?_
  refine step_sil rfl rfl rfl (fun _ => rfl) ?_
  refine ops_forget (fun t => (getW 3 0).g t = .int .u32 (Int.ofNat q) ∧ (getW 3 3).g t = .int .i64 (Int.ofNat n) ∧ (getW 3 4).g t = .int .i64 (Int.ofNat b1) ∧ (getW 3 22).g t = .int .i64 (Int.ofNat a1) ∧ (getW 3 23).g t = .int .i64 0) ⟨rfl, rfl, rfl, rfl, rfl⟩ ?_
  rintro t ⟨fc0, fc3, fc4, fc22, fc23⟩
  obtain ⟨⟨⟨a0, a64, a128, a192, a256, a320, a384, a448⟩, g1_8, g1_16, g1_24, g1_32, g1_40, g1_48, g1_56⟩, g2_1, g2_2, ⟨⟨a3, a67, a131, a195, a259, a323, a387, a451⟩, g1_11, g1_19, g1_27, g1_35, g1_43, g1_51, g1_59⟩, ⟨⟨a4, a68, a132, a196, a260, a324, a388, a452⟩, g1_12, g1_20, g1_28, g1_36, g1_44, g1_52, g1_60⟩, g2_5, ⟨g1_6, g1_14, ⟨a22, a86, a150, a214, a278, a342, a406, a470⟩, g1_30, g1_38, g1_46, g1_54, g1_62⟩, ⟨g1_7, g1_15, ⟨a23, a87, a151, a215, a279, a343, a407, a471⟩, g1_31, g1_39, g1_47, g1_55, g1_63⟩⟩ := t
  have fc0 : _ = a0 := Eq.symm fc0
  have fc3 : _ = a3 := Eq.symm fc3
  have fc4 : _ = a4 := Eq.symm fc4
  have fc22 : _ = a22 := Eq.symm fc22
  have fc23 : _ = a23 := Eq.symm fc23
  subst fc0 fc3 fc4 fc22 fc23
  refine step_sil rfl rfl rfl (fun _ => rfl) ?_
  refine step_sil rfl rfl rfl (fun _ => rfl) ?_
  refine Eq.trans ops_nil ?_
  refine run_forget (fun t => (getW 3 0).g t = .int .u32 (Int.ofNat q) ∧ (getW 3 3).g t = .int .i64 (Int.ofNat n) ∧ (getW 3 4).g t = .int .i64 (Int.ofNat b1) ∧ (getW 3 5).g t = .int .i64 (Int.ofNat a1) ∧ (getW 3 6).g t = .int .i64 0) ⟨rfl, rfl, rfl, rfl, rfl⟩ ?_
  rintro t ⟨fc0, fc3, fc4, fc5, fc6⟩
  obtain ⟨⟨⟨a0, a64, a128, a192, a256, a320, a384, a448⟩, g1_8, g1_16, g1_24, g1_32, g1_40, g1_48, g1_56⟩, g2_1, g2_2, ⟨⟨a3, a67, a131, a195, a259, a323, a387, a451⟩, g1_11, g1_19, g1_27, g1_35, g1_43, g1_51, g1_59⟩, ⟨⟨a4, a68, a132, a196, a260, a324, a388, a452⟩, g1_12, g1_20, g1_28, g1_36, g1_44, g1_52, g1_60⟩, ⟨⟨a5, a69, a133, a197, a261, a325, a389, a453⟩, g1_13, g1_21, g1_29, g1_37, g1_45, g1_53, g1_61⟩, ⟨⟨a6, a70, a134, a198, a262, a326, a390, a454⟩, g1_14, g1_22, g1_30, g1_38, g1_46, g1_54, g1_62⟩, g2_7⟩ := t
  have fc0 : _ = a0 := Eq.symm fc0
  have fc3 : _ = a3 := Eq.symm fc3
  have fc4 : _ = a4 := Eq.symm fc4
  have fc5 : _ = a5 := Eq.symm fc5
  have fc6 : _ = a6 := Eq.symm fc6
  subst fc0 fc3 fc4 fc5 fc6
  -- region 3
  repeat (first | refine Eq.trans run_seq ?_ | refine Eq.trans run_block ?_ | refine Eq.trans run_region0 ?_)
  refine step_sil rfl rfl rfl (fun _ => rfl) ?_
  refine step_sil rfl rfl rfl (fun _ => rfl) ?_
  refine step_sil (v := .int .i64 (Int.ofNat (n * n))) rfl rfl rfl (fun K' => congrArg (fun x => K' (.int .i64 x)) (w1)) ?_
  refine step_sil (v := .int .i64 (Int.ofNat (n * n + 1))) rfl rfl rfl (fun K' => congrArg (fun x => K' (.int .i64 x)) (w2)) ?_
  refine step_call rfl rfl rfl ?_
  refine Sat.callB (g := 17) (cs := []) rfl rfl (root17 F d hF s1 (by omega) (n * n + 1) (by omega)) _ _ ?_
  rintro v s2 ⟨k2, a2, b2, rfl, hb1, hb2, hb3, hb4⟩
  have nk2 := k2.2
  refine ops_forget (fun t => (getW 3 0).g t = .int .u32 (Int.ofNat q) ∧ (getW 3 3).g t = .int .i64 (Int.ofNat n) ∧ (getW 3 4).g t = .int .i64 (Int.ofNat b1) ∧ (getW 3 5).g t = .int .i64 (Int.ofNat a1) ∧ (getW 3 6).g t = .int .i64 0 ∧ (getW 3 29).g t = .tuple ⟨[.int .i64 (Int.ofNat b2), .int .i64 (Int.ofNat a2), .int .i64 0]⟩) ⟨rfl, rfl, rfl, rfl, rfl, rfl⟩ ?_
  rintro t ⟨fc0, fc3, fc4, fc5, fc6, fc29⟩
  obtain ⟨⟨⟨a0, a64, a128, a192, a256, a320, a384, a448⟩, g1_8, g1_16, g1_24, g1_32, g1_40, g1_48, g1_56⟩, g2_1, g2_2, ⟨⟨a3, a67, a131, a195, a259, a323, a387, a451⟩, g1_11, g1_19, g1_27, g1_35, g1_43, g1_51, g1_59⟩, ⟨⟨a4, a68, a132, a196, a260, a324, a388, a452⟩, g1_12, g1_20, g1_28, g1_36, g1_44, g1_52, g1_60⟩, ⟨⟨a5, a69, a133, a197, a261, a325, a389, a453⟩, g1_13, g1_21, ⟨a29, a93, a157, a221, a285, a349, a413, a477⟩, g1_37, g1_45, g1_53, g1_61⟩, ⟨⟨a6, a70, a134, a198, a262, a326, a390, a454⟩, g1_14, g1_22, g1_30, g1_38, g1_46, g1_54, g1_62⟩, g2_7⟩ := t
  have fc0 : _ = a0 := Eq.symm fc0
  have fc3 : _ = a3 := Eq.symm fc3
  have fc4 : _ = a4 := Eq.symm fc4
  have fc5 : _ = a5 := Eq.symm fc5
  have fc6 : _ = a6 := Eq.symm fc6
  have fc29 : _ = a29 := Eq.symm fc29
  subst fc0 fc3 fc4 fc5 fc6 fc29
  refine step_sil rfl rfl rfl (fun _ => rfl) ?_
  refine step_sil rfl rfl rfl (fun _ => rfl) ?_
  refine step_sil rfl rfl rfl (fun _ => rfl) ?_
  refine step_sil rfl rfl rfl (fun _ => rfl) ?_
  refine step_sil rfl rfl rfl (fun _ => rfl) ?_
  refine ops_forget (fun t => (getW 3 0).g t = .int .u32 (Int.ofNat q) ∧ (getW 3 3).g t = .int .i64 (Int.ofNat n) ∧ (getW 3 4).g t = .int .i64 (Int.ofNat b1) ∧ (getW 3 5).g t = .int .i64 (Int.ofNat a1) ∧ (getW 3 6).g t = .int .i64 0 ∧ (getW 3 7).g t = .int .i64 (Int.ofNat b2) ∧ (getW 3 31).g t = .int .i64 (Int.ofNat a2) ∧ (getW 3 32).g t = .int .i64 0) ⟨rfl, rfl, rfl, rfl, rfl, rfl, rfl, rfl⟩ ?_
  rintro t ⟨fc0, fc3, fc4, fc5, fc6, fc7, fc31, fc32⟩
  obtain ⟨⟨⟨a0, a64, a128, a192, a256, a320, a384, a448⟩, g1_8, g1_16, g1_24, ⟨a32, a96, a160, a224, a288, a352, a416, a480⟩, g1_40, g1_48, g1_56⟩, g2_1, g2_2, ⟨⟨a3, a67, a131, a195, a259, a323, a387, a451⟩, g1_11, g1_19, g1_27, g1_35, g1_43, g1_51, g1_59⟩, ⟨⟨a4, a68, a132, a196, a260, a324, a388, a452⟩, g1_12, g1_20, g1_28, g1_36, g1_44, g1_52, g1_60⟩, ⟨⟨a5, a69, a133, a197, a261, a325, a389, a453⟩, g1_13, g1_21, g1_29, g1_37, g1_45, g1_53, g1_61⟩, ⟨⟨a6, a70, a134, a198, a262, a326, a390, a454⟩, g1_14, g1_22, g1_30, g1_38, g1_46, g1_54, g1_62⟩, ⟨⟨a7, a71, a135, a199, a263, a327, a391, a455⟩, g1_15, g1_23, ⟨a31, a95, a159, a223, a287, a351, a415, a479⟩, g1_39, g1_47, g1_55, g1_63⟩⟩ := t
  have fc0 : _ = a0 := Eq.symm fc0
  have fc3 : _ = a3 := Eq.symm fc3
  have fc4 : _ = a4 := Eq.symm fc4
  have fc5 : _ = a5 := Eq.symm fc5
  have fc6 : _ = a6 := Eq.symm fc6
  have fc7 : _ = a7 := Eq.symm fc7
  have fc31 : _ = a31 := Eq.symm fc31
  have fc32 : _ = a32 := Eq.symm fc32
  subst fc0 fc3 fc4 fc5 fc6 fc7 fc31 fc32
  refine step_sil rfl rfl rfl (fun _ => rfl) ?_
  refine step_sil rfl rfl rfl (fun _ => rfl) ?_
  refine Eq.trans ops_nil ?_
  refine run_forget (fun t => (getW 3 0).g t = .int .u32 (Int.ofNat q) ∧ (getW 3 3).g t = .int .i64 (Int.ofNat n) ∧ (getW 3 4).g t = .int .i64 (Int.ofNat b1) ∧ (getW 3 5).g t = .int .i64 (Int.ofNat a1) ∧ (getW 3 6).g t = .int .i64 0 ∧ (getW 3 7).g t = .int .i64 (Int.ofNat b2) ∧ (getW 3 8).g t = .int .i64 (Int.ofNat a2) ∧ (getW 3 9).g t = .int .i64 0) ⟨rfl, rfl, rfl, rfl, rfl, rfl, rfl, rfl⟩ ?_
  rintro t ⟨fc0, fc3, fc4, fc5, fc6, fc7, fc8, fc9⟩
  obtain ⟨⟨⟨a0, a64, a128, a192, a256, a320, a384, a448⟩, ⟨a8, a72, a136, a200, a264, a328, a392, a456⟩, g1_16, g1_24, g1_32, g1_40, g1_48, g1_56⟩, ⟨g1_1, ⟨a9, a73, a137, a201, a265, a329, a393, a457⟩, g1_17, g1_25, g1_33, g1_41, g1_49, g1_57⟩, g2_2, ⟨⟨a3, a67, a131, a195, a259, a323, a387, a451⟩, g1_11, g1_19, g1_27, g1_35, g1_43, g1_51, g1_59⟩, ⟨⟨a4, a68, a132, a196, a260, a324, a388, a452⟩, g1_12, g1_20, g1_28, g1_36, g1_44, g1_52, g1_60⟩, ⟨⟨a5, a69, a133, a197, a261, a325, a389, a453⟩, g1_13, g1_21, g1_29, g1_37, g1_45, g1_53, g1_61⟩, ⟨⟨a6, a70, a134, a198, a262, a326, a390, a454⟩, g1_14, g1_22, g1_30, g1_38, g1_46, g1_54, g1_62⟩, ⟨⟨a7, a71, a135, a199, a263, a327, a391, a455⟩, g1_15, g1_23, g1_31, g1_39, g1_47, g1_55, g1_63⟩⟩ := t
  have fc0 : _ = a0 := Eq.symm fc0
  have fc3 : _ = a3 := Eq.symm fc3
  have fc4 : _ = a4 := Eq.symm fc4
  have fc5 : _ = a5 := Eq.symm fc5
  have fc6 : _ = a6 := Eq.symm fc6
  have fc7 : _ = a7 := Eq.symm fc7
  have fc8 : _ = a8 := Eq.symm fc8
  have fc9 : _ = a9 := Eq.symm fc9
  subst fc0 fc3 fc4 fc5 fc6 fc7 fc8 fc9
  -- region 4
  repeat (first | refine Eq.trans run_seq ?_ | refine Eq.trans run_block ?_ | refine Eq.trans run_region0 ?_)
  refine step_sil rfl rfl rfl (fun _ => rfl) ?_
  refine step_sil (v := .int .i64 (Int.ofNat q)) rfl rfl rfl (fun K' => congrArg (fun x => K' (.int .i64 x)) (w3)) ?_
  refine step_call rfl rfl rfl ?_
  refine Sat.callB (g := 17) (cs := []) rfl rfl (root17 F d hF s2 (by omega) (q) (by omega)) _ _ ?_
  rintro v s3 ⟨k3, a3, b3, rfl, hc1, hc2, hc3, hc4⟩
  have nk3 := k3.2
  refine ops_forget (fun t => (getW 3 0).g t = .int .u32 (Int.ofNat q) ∧ (getW 3 3).g t = .int .i64 (Int.ofNat n) ∧ (getW 3 4).g t = .int .i64 (Int.ofNat b1) ∧ (getW 3 5).g t = .int .i64 (Int.ofNat a1) ∧ (getW 3 6).g t = .int .i64 0 ∧ (getW 3 7).g t = .int .i64 (Int.ofNat b2) ∧ (getW 3 8).g t = .int .i64 (Int.ofNat a2) ∧ (getW 3 9).g t = .int .i64 0 ∧ (getW 3 36).g t = .tuple ⟨[.int .i64 (Int.ofNat b3), .int .i64 (Int.ofNat a3), .int .i64 0]⟩) ⟨rfl, rfl, rfl, rfl, rfl, rfl, rfl, rfl, rfl⟩ ?_
  rintro t ⟨fc0, fc3, fc4, fc5, fc6, fc7, fc8, fc9, fc36⟩
  obtain ⟨⟨⟨a0, a64, a128, a192, a256, a320, a384, a448⟩, ⟨a8, a72, a136, a200, a264, a328, a392, a456⟩, g1_16, g1_24, g1_32, g1_40, g1_48, g1_56⟩, ⟨g1_1, ⟨a9, a73, a137, a201, a265, a329, a393, a457⟩, g1_17, g1_25, g1_33, g1_41, g1_49, g1_57⟩, g2_2, ⟨⟨a3, a67, a131, a195, a259, a323, a387, a451⟩, g1_11, g1_19, g1_27, g1_35, g1_43, g1_51, g1_59⟩, ⟨⟨a4, a68, a132, a196, a260, a324, a388, a452⟩, g1_12, g1_20, g1_28, ⟨a36, a100, a164, a228, a292, a356, a420, a484⟩, g1_44, g1_52, g1_60⟩, ⟨⟨a5, a69, a133, a197, a261, a325, a389, a453⟩, g1_13, g1_21, g1_29, g1_37, g1_45, g1_53, g1_61⟩, ⟨⟨a6, a70, a134, a198, a262, a326, a390, a454⟩, g1_14, g1_22, g1_30, g1_38, g1_46, g1_54, g1_62⟩, ⟨⟨a7, a71, a135, a199, a263, a327, a391, a455⟩, g1_15, g1_23, g1_31, g1_39, g1_47, g1_55, g1_63⟩⟩ := t
  have fc0 : _ = a0 := Eq.symm fc0
  have fc3 : _ = a3 := Eq.symm fc3
  have fc4 : _ = a4 := Eq.symm fc4
  have fc5 : _ = a5 := Eq.symm fc5
  have fc6 : _ = a6 := Eq.symm fc6
  have fc7 : _ = a7 := Eq.symm fc7
  have fc8 : _ = a8 := Eq.symm fc8
  have fc9 : _ = a9 := Eq.symm fc9
  have fc36 : _ = a36 := Eq.symm fc36
  subst fc0 fc3 fc4 fc5 fc6 fc7 fc8 fc9 fc36
  refine step_sil rfl rfl rfl (fun _ => rfl) ?_
  refine step_sil rfl rfl rfl (fun _ => rfl) ?_
  refine step_sil rfl rfl rfl (fun _ => rfl) ?_
  refine step_sil rfl rfl rfl (fun _ => rfl) ?_
  refine step_sil rfl rfl rfl (fun _ => rfl) ?_
  refine ops_forget (fun t => (getW 3 0).g t = .int .u32 (Int.ofNat q) ∧ (getW 3 3).g t = .int .i64 (Int.ofNat n) ∧ (getW 3 4).g t = .int .i64 (Int.ofNat b1) ∧ (getW 3 5).g t = .int .i64 (Int.ofNat a1) ∧ (getW 3 6).g t = .int .i64 0 ∧ (getW 3 7).g t = .int .i64 (Int.ofNat b2) ∧ (getW 3 8).g t = .int .i64 (Int.ofNat a2) ∧ (getW 3 9).g t = .int .i64 0 ∧ (getW 3 10).g t = .int .i64 (Int.ofNat b3) ∧ (getW 3 38).g t = .int .i64 (Int.ofNat a3) ∧ (getW 3 39).g t = .int .i64 0) ⟨rfl, rfl, rfl, rfl, rfl, rfl, rfl, rfl, rfl, rfl, rfl⟩ ?_
  rintro t ⟨fc0, fc3, fc4, fc5, fc6, fc7, fc8, fc9, fc10, fc38, fc39⟩
  obtain ⟨⟨⟨a0, a64, a128, a192, a256, a320, a384, a448⟩, ⟨a8, a72, a136, a200, a264, a328, a392, a456⟩, g1_16, g1_24, g1_32, g1_40, g1_48, g1_56⟩, ⟨g1_1, ⟨a9, a73, a137, a201, a265, a329, a393, a457⟩, g1_17, g1_25, g1_33, g1_41, g1_49, g1_57⟩, ⟨g1_2, ⟨a10, a74, a138, a202, a266, a330, a394, a458⟩, g1_18, g1_26, g1_34, g1_42, g1_50, g1_58⟩, ⟨⟨a3, a67, a131, a195, a259, a323, a387, a451⟩, g1_11, g1_19, g1_27, g1_35, g1_43, g1_51, g1_59⟩, ⟨⟨a4, a68, a132, a196, a260, a324, a388, a452⟩, g1_12, g1_20, g1_28, g1_36, g1_44, g1_52, g1_60⟩, ⟨⟨a5, a69, a133, a197, a261, a325, a389, a453⟩, g1_13, g1_21, g1_29, g1_37, g1_45, g1_53, g1_61⟩, ⟨⟨a6, a70, a134, a198, a262, a326, a390, a454⟩, g1_14, g1_22, g1_30, ⟨a38, a102, a166, a230, a294, a358, a422, a486⟩, g1_46, g1_54, g1_62⟩, ⟨⟨a7, a71, a135, a199, a263, a327, a391, a455⟩, g1_15, g1_23, g1_31, ⟨a39, a103, a167, a231, a295, a359, a423, a487⟩, g1_47, g1_55, g1_63⟩⟩ := t
  have fc0 : _ = a0 := Eq.symm fc0
  have fc3 : _ = a3 := Eq.symm fc3
  have fc4 : _ = a4 := Eq.symm fc4
  have fc5 : _ = a5 := Eq.symm fc5
  have fc6 : _ = a6 := Eq.symm fc6
  have fc7 : _ = a7 := Eq.symm fc7
  have fc8 : _ = a8 := Eq.symm fc8
  have fc9 : _ = a9 := Eq.symm fc9
  have fc10 : _ = a10 := Eq.symm fc10
  have fc38 : _ = a38 := Eq.symm fc38
  have fc39 : _ = a39 := Eq.symm fc39
  subst fc0 fc3 fc4 fc5 fc6 fc7 fc8 fc9 fc10 fc38 fc39
  refine step_sil rfl rfl rfl (fun _ => rfl) ?_
  refine step_sil rfl rfl rfl (fun _ => rfl) ?_
  refine Eq.trans ops_nil ?_
  refine run_forget (fun t => (getW 3 0).g t = .int .u32 (Int.ofNat q) ∧ (getW 3 3).g t = .int .i64 (Int.ofNat n) ∧ (getW 3 4).g t = .int .i64 (Int.ofNat b1) ∧ (getW 3 5).g t = .int .i64 (Int.ofNat a1) ∧ (getW 3 6).g t = .int .i64 0 ∧ (getW 3 7).g t = .int .i64 (Int.ofNat b2) ∧ (getW 3 8).g t = .int .i64 (Int.ofNat a2) ∧ (getW 3 9).g t = .int .i64 0 ∧ (getW 3 10).g t = .int .i64 (Int.ofNat b3) ∧ (getW 3 11).g t = .int .i64 (Int.ofNat a3) ∧ (getW 3 12).g t = .int .i64 0) ⟨rfl, rfl, rfl, rfl, rfl, rfl, rfl, rfl, rfl, rfl, rfl⟩ ?_
  rintro t ⟨fc0, fc3, fc4, fc5, fc6, fc7, fc8, fc9, fc10, fc11, fc12⟩
  obtain ⟨⟨⟨a0, a64, a128, a192, a256, a320, a384, a448⟩, ⟨a8, a72, a136, a200, a264, a328, a392, a456⟩, g1_16, g1_24, g1_32, g1_40, g1_48, g1_56⟩, ⟨g1_1, ⟨a9, a73, a137, a201, a265, a329, a393, a457⟩, g1_17, g1_25, g1_33, g1_41, g1_49, g1_57⟩, ⟨g1_2, ⟨a10, a74, a138, a202, a266, a330, a394, a458⟩, g1_18, g1_26, g1_34, g1_42, g1_50, g1_58⟩, ⟨⟨a3, a67, a131, a195, a259, a323, a387, a451⟩, ⟨a11, a75, a139, a203, a267, a331, a395, a459⟩, g1_19, g1_27, g1_35, g1_43, g1_51, g1_59⟩, ⟨⟨a4, a68, a132, a196, a260, a324, a388, a452⟩, ⟨a12, a76, a140, a204, a268, a332, a396, a460⟩, g1_20, g1_28, g1_36, g1_44, g1_52, g1_60⟩, ⟨⟨a5, a69, a133, a197, a261, a325, a389, a453⟩, g1_13, g1_21, g1_29, g1_37, g1_45, g1_53, g1_61⟩, ⟨⟨a6, a70, a134, a198, a262, a326, a390, a454⟩, g1_14, g1_22, g1_30, g1_38, g1_46, g1_54, g1_62⟩, ⟨⟨a7, a71, a135, a199, a263, a327, a391, a455⟩, g1_15, g1_23, g1_31, g1_39, g1_47, g1_55, g1_63⟩⟩ := t
  have fc0 : _ = a0 := Eq.symm fc0
  have fc3 : _ = a3 := Eq.symm fc3
  have fc4 : _ = a4 := Eq.symm fc4
  have fc5 : _ = a5 := Eq.symm fc5
  have fc6 : _ = a6 := Eq.symm fc6
  have fc7 : _ = a7 := Eq.symm fc7
  have fc8 : _ = a8 := Eq.symm fc8
  have fc9 : _ = a9 := Eq.symm fc9
  have fc10 : _ = a10 := Eq.symm fc10
  have fc11 : _ = a11 := Eq.symm fc11
  have fc12 : _ = a12 := Eq.symm fc12
  subst fc0 fc3 fc4 fc5 fc6 fc7 fc8 fc9 fc10 fc11 fc12
  have ea : a1 = n := by
    rcases Nat.lt_trichotomy a1 n with h | h | h
    · have := Nat.mul_self_lt_mul_self h; omega
    · exact h
    · have := ha2 n h; omega
  have eb : b1 = n := by
    rcases ha4 with ⟨_, h⟩ | ⟨h, _⟩
    · omega
    · rw [ea] at h; exact absurd rfl h
  have ec : a2 = n + 1 := by
    have h2 : (n + 1) * (n + 1) = n * n + 2 * n + 1 := by rw [Nat.mul_add, Nat.add_mul]; omega
    rcases Nat.lt_trichotomy a2 (n + 1) with h | h | h
    · have : a2 ≤ n := by omega
      have := Nat.mul_self_le_mul_self this; omega
    · exact h
    · have := hb2 (n + 1) h; omega
  have h2 : (n + 1) * (n + 1) = n * n + 2 * n + 1 := by rw [Nat.mul_add, Nat.add_mul]; omega
  have ed : n = 0 ∧ b2 = 1 ∨ 0 < n ∧ n = b2 := by
    subst ec
    rcases hb4 with ⟨h, h3⟩ | ⟨h, h3⟩ <;> omega
  have ea := ea.symm
  have eb := eb.symm
  subst ea eb
  have a65 : a3 ≤ 65536 := by
    rcases Nat.lt_or_ge 65536 a3 with h | h
    · have := hc2 65536 h; omega
    · exact h
  subst ec
  have hb3 : b3 ≤ a3 ∧ a3 ≤ b3 + 1 := by omega
  have hbb : b3 * b3 ≤ q := by
    rcases hc4 with ⟨h, h4⟩ | ⟨h, h4⟩
    · subst h4; omega
    · have := hc2 b3 (by omega); omega
  have hb1b : (b3 + 1) * (b3 + 1) = b3 * b3 + 2 * b3 + 1 := by rw [Nat.mul_add, Nat.add_mul]; omega
  have hqb : q < (b3 + 1) * (b3 + 1) := by
    rcases hc4 with ⟨h, h4⟩ | ⟨h, h4⟩
    · subst h4; omega
    · subst h4; omega
  have hbm : b3 * b3 ≤ 4294967296 := by
    have : b3 ≤ 65536 := by omega
    exact Nat.mul_le_mul this this
  have l1 : iLt (Int.ofNat b3) 0 = false := by rw [iLt_eq]; simp
  have l2 : iLt 131072 (Int.ofNat b3) = false := by rw [iLt_eq]; simp; omega
  have l3 : iLt (Int.ofNat a3) (Int.ofNat b3) = false := by rw [iLt_eq]; simp; omega
  have l4 : iLt (Int.ofNat (b3 + 1)) (Int.ofNat a3) = false := by rw [iLt_eq]; simp; omega
  have l6 : iLt (Int.ofNat q) (Int.ofNat (b3 * b3)) = false := by rw [iLt_eq]; exact decide_eq_false (fun h => by have := Int.ofNat_lt.1 h; omega)
  have l7 : iLt (Int.ofNat q) (Int.ofNat ((b3 + 1) * (b3 + 1))) = true := by rw [iLt_eq]; exact decide_eq_true (Int.ofNat_lt.2 hqb)
  have w4 : wr .i64 (Int.add (Int.ofNat b3) 1) = Int.ofNat (b3 + 1) := wr_nat (i := b3 + 1) (by omega)
  have w6 : wr .i64 (Int.mul (Int.ofNat b3) (Int.ofNat b3)) = Int.ofNat (b3 * b3) := wr_nat (i := b3 * b3) (by omega)
  have w7 : wr .i64 (Int.mul (Int.ofNat (b3 + 1)) (Int.ofNat (b3 + 1))) = Int.ofNat ((b3 + 1) * (b3 + 1)) := wr_nat (i := (b3 + 1) * (b3 + 1)) (by omega)
  obtain ⟨y, y1, y2⟩ : ∃ y, iEq (Int.ofNat a3) (Int.ofNat b3) = y ∧ iEq (Int.ofNat (b3 * b3)) (Int.ofNat q) = y := by
    rcases hc4 with ⟨h, h4⟩ | ⟨h, h4⟩
    · subst h4 h; exact ⟨true, iEq_self _, iEq_self _⟩
    · refine ⟨false, ?_, ?_⟩ <;> rw [iEq_eq] <;> simp
      · omega
      · exact fun h => by
          have h : ((b3 * b3 : Nat) : Int) = (q : Int) := by rw [Int.natCast_mul]; exact h
          have := Int.ofNat_inj.1 h
          have := hc2 b3 (by omega); omega
  rcases ed with ⟨rfl, rfl⟩ | ⟨hn0, rfl⟩
  · have l5 : iLt (Int.ofNat 1) (Int.ofNat 0) = false := by rw [iLt_eq]; simp
    have w5 : wr .i64 (Int.add (Int.ofNat 0) 1) = Int.ofNat (0 + 1) := wr_nat (i := 0 + 1) (by omega)
    have e1 : iEq (Int.ofNat 1) (Int.ofNat 0) = false := by rw [iEq_eq]; rfl
    -- region 5
    repeat (first | refine Eq.trans run_seq ?_ | refine Eq.trans run_block ?_ | refine Eq.trans run_region0 ?_)
    refine step_sil rfl rfl rfl (fun _ => rfl) ?_
    refine step_sil (v := .bool false) rfl rfl rfl (fun K' => congrArg (fun c => K' (.bool (!c))) (iEq_self 0)) ?_
    refine step_sil rfl rfl rfl (fun _ => rfl) ?_
    refine step_yes rfl rfl rfl rfl rfl (fun _ => rfl) ?_
    refine step_yes (v := .bool false) rfl rfl rfl rfl rfl (fun K' => congrArg (fun c => K' (.bool (!c))) (iEq_self 0)) ?_
    refine ops_forget (fun t => (getW 3 0).g t = .int .u32 (Int.ofNat q) ∧ (getW 3 3).g t = .int .i64 (Int.ofNat 0) ∧ (getW 3 4).g t = .int .i64 (Int.ofNat 0) ∧ (getW 3 5).g t = .int .i64 (Int.ofNat 0) ∧ (getW 3 7).g t = .int .i64 (Int.ofNat 1) ∧ (getW 3 8).g t = .int .i64 (Int.ofNat (0 + 1)) ∧ (getW 3 10).g t = .int .i64 (Int.ofNat b3) ∧ (getW 3 11).g t = .int .i64 (Int.ofNat a3) ∧ (getW 3 12).g t = .int .i64 0 ∧ (getW 3 42).g t = .bool false ∧ (getW 3 44).g t = .bool false) ⟨rfl, rfl, rfl, rfl, rfl, rfl, rfl, rfl, rfl, rfl, rfl⟩ ?_
    rintro t ⟨fc0, fc3, fc4, fc5, fc7, fc8, fc10, fc11, fc12, fc42, fc44⟩
    obtain ⟨⟨⟨a0, a64, a128, a192, a256, a320, a384, a448⟩, ⟨a8, a72, a136, a200, a264, a328, a392, a456⟩, g1_16, g1_24, g1_32, g1_40, g1_48, g1_56⟩, g2_1, ⟨g1_2, ⟨a10, a74, a138, a202, a266, a330, a394, a458⟩, g1_18, g1_26, g1_34, ⟨a42, a106, a170, a234, a298, a362, a426, a490⟩, g1_50, g1_58⟩, ⟨⟨a3, a67, a131, a195, a259, a323, a387, a451⟩, ⟨a11, a75, a139, a203, a267, a331, a395, a459⟩, g1_19, g1_27, g1_35, g1_43, g1_51, g1_59⟩, ⟨⟨a4, a68, a132, a196, a260, a324, a388, a452⟩, ⟨a12, a76, a140, a204, a268, a332, a396, a460⟩, g1_20, g1_28, g1_36, ⟨a44, a108, a172, a236, a300, a364, a428, a492⟩, g1_52, g1_60⟩, ⟨⟨a5, a69, a133, a197, a261, a325, a389, a453⟩, g1_13, g1_21, g1_29, g1_37, g1_45, g1_53, g1_61⟩, g2_6, ⟨⟨a7, a71, a135, a199, a263, a327, a391, a455⟩, g1_15, g1_23, g1_31, g1_39, g1_47, g1_55, g1_63⟩⟩ := t
    have fc0 : _ = a0 := Eq.symm fc0
    have fc3 : _ = a3 := Eq.symm fc3
    have fc4 : _ = a4 := Eq.symm fc4
    have fc5 : _ = a5 := Eq.symm fc5
    have fc7 : _ = a7 := Eq.symm fc7
    have fc8 : _ = a8 := Eq.symm fc8
    have fc10 : _ = a10 := Eq.symm fc10
    have fc11 : _ = a11 := Eq.symm fc11
    have fc12 : _ = a12 := Eq.symm fc12
    have fc42 : _ = a42 := Eq.symm fc42
    have fc44 : _ = a44 := Eq.symm fc44
    subst fc0 fc3 fc4 fc5 fc7 fc8 fc10 fc11 fc12 fc42 fc44
    refine step_sil rfl rfl rfl (fun _ => rfl) ?_
    refine step_sil rfl rfl rfl (fun _ => rfl) ?_
    refine step_yes rfl rfl rfl rfl rfl (fun _ => rfl) ?_
    refine step_yes (v := .bool false) rfl rfl rfl rfl rfl (fun K' => congrArg (fun c => K' (.bool (!c))) (iEq_self 0)) ?_
    refine step_sil rfl rfl rfl (fun _ => rfl) ?_
    refine ops_forget (fun t => (getW 3 0).g t = .int .u32 (Int.ofNat q) ∧ (getW 3 3).g t = .int .i64 (Int.ofNat 0) ∧ (getW 3 4).g t = .int .i64 (Int.ofNat 0) ∧ (getW 3 5).g t = .int .i64 (Int.ofNat 0) ∧ (getW 3 7).g t = .int .i64 (Int.ofNat 1) ∧ (getW 3 8).g t = .int .i64 (Int.ofNat (0 + 1)) ∧ (getW 3 10).g t = .int .i64 (Int.ofNat b3) ∧ (getW 3 11).g t = .int .i64 (Int.ofNat a3) ∧ (getW 3 49).g t = .bool false) ⟨rfl, rfl, rfl, rfl, rfl, rfl, rfl, rfl, rfl⟩ ?_
    rintro t ⟨fc0, fc3, fc4, fc5, fc7, fc8, fc10, fc11, fc49⟩
    obtain ⟨⟨⟨a0, a64, a128, a192, a256, a320, a384, a448⟩, ⟨a8, a72, a136, a200, a264, a328, a392, a456⟩, g1_16, g1_24, g1_32, g1_40, g1_48, g1_56⟩, ⟨g1_1, g1_9, g1_17, g1_25, g1_33, g1_41, ⟨a49, a113, a177, a241, a305, a369, a433, a497⟩, g1_57⟩, ⟨g1_2, ⟨a10, a74, a138, a202, a266, a330, a394, a458⟩, g1_18, g1_26, g1_34, g1_42, g1_50, g1_58⟩, ⟨⟨a3, a67, a131, a195, a259, a323, a387, a451⟩, ⟨a11, a75, a139, a203, a267, a331, a395, a459⟩, g1_19, g1_27, g1_35, g1_43, g1_51, g1_59⟩, ⟨⟨a4, a68, a132, a196, a260, a324, a388, a452⟩, g1_12, g1_20, g1_28, g1_36, g1_44, g1_52, g1_60⟩, ⟨⟨a5, a69, a133, a197, a261, a325, a389, a453⟩, g1_13, g1_21, g1_29, g1_37, g1_45, g1_53, g1_61⟩, g2_6, ⟨⟨a7, a71, a135, a199, a263, a327, a391, a455⟩, g1_15, g1_23, g1_31, g1_39, g1_47, g1_55, g1_63⟩⟩ := t
    have fc0 : _ = a0 := Eq.symm fc0
    have fc3 : _ = a3 := Eq.symm fc3
    have fc4 : _ = a4 := Eq.symm fc4
    have fc5 : _ = a5 := Eq.symm fc5
    have fc7 : _ = a7 := Eq.symm fc7
    have fc8 : _ = a8 := Eq.symm fc8
    have fc10 : _ = a10 := Eq.symm fc10
    have fc11 : _ = a11 := Eq.symm fc11
    have fc49 : _ = a49 := Eq.symm fc49
    subst fc0 fc3 fc4 fc5 fc7 fc8 fc10 fc11 fc49
    refine step_sil rfl rfl rfl (fun _ => rfl) ?_
    refine step_yes rfl rfl rfl rfl rfl (fun _ => rfl) ?_
    refine step_yes rfl rfl rfl rfl rfl (fun _ => rfl) ?_
    refine step_yes (v := .bool false) rfl rfl rfl rfl rfl (fun K' => congrArg (fun c => K' (.bool (!c))) (iEq_self _)) ?_
    refine step_sil rfl rfl rfl (fun _ => rfl) ?_
    refine ops_forget (fun t => (getW 3 0).g t = .int .u32 (Int.ofNat q) ∧ (getW 3 3).g t = .int .i64 (Int.ofNat 0) ∧ (getW 3 5).g t = .int .i64 (Int.ofNat 0) ∧ (getW 3 7).g t = .int .i64 (Int.ofNat 1) ∧ (getW 3 8).g t = .int .i64 (Int.ofNat (0 + 1)) ∧ (getW 3 10).g t = .int .i64 (Int.ofNat b3) ∧ (getW 3 11).g t = .int .i64 (Int.ofNat a3) ∧ (getW 3 54).g t = .bool false) ⟨rfl, rfl, rfl, rfl, rfl, rfl, rfl, rfl⟩ ?_
    rintro t ⟨fc0, fc3, fc5, fc7, fc8, fc10, fc11, fc54⟩
    obtain ⟨⟨⟨a0, a64, a128, a192, a256, a320, a384, a448⟩, ⟨a8, a72, a136, a200, a264, a328, a392, a456⟩, g1_16, g1_24, g1_32, g1_40, g1_48, g1_56⟩, g2_1, ⟨g1_2, ⟨a10, a74, a138, a202, a266, a330, a394, a458⟩, g1_18, g1_26, g1_34, g1_42, g1_50, g1_58⟩, ⟨⟨a3, a67, a131, a195, a259, a323, a387, a451⟩, ⟨a11, a75, a139, a203, a267, a331, a395, a459⟩, g1_19, g1_27, g1_35, g1_43, g1_51, g1_59⟩, g2_4, ⟨⟨a5, a69, a133, a197, a261, a325, a389, a453⟩, g1_13, g1_21, g1_29, g1_37, g1_45, g1_53, g1_61⟩, ⟨g1_6, g1_14, g1_22, g1_30, g1_38, g1_46, ⟨a54, a118, a182, a246, a310, a374, a438, a502⟩, g1_62⟩, ⟨⟨a7, a71, a135, a199, a263, a327, a391, a455⟩, g1_15, g1_23, g1_31, g1_39, g1_47, g1_55, g1_63⟩⟩ := t
    have fc0 : _ = a0 := Eq.symm fc0
    have fc3 : _ = a3 := Eq.symm fc3
    have fc5 : _ = a5 := Eq.symm fc5
    have fc7 : _ = a7 := Eq.symm fc7
    have fc8 : _ = a8 := Eq.symm fc8
    have fc10 : _ = a10 := Eq.symm fc10
    have fc11 : _ = a11 := Eq.symm fc11
    have fc54 : _ = a54 := Eq.symm fc54
    subst fc0 fc3 fc5 fc7 fc8 fc10 fc11 fc54
    refine step_sil rfl rfl rfl (fun _ => rfl) ?_
    refine step_yes rfl rfl rfl rfl rfl (fun _ => rfl) ?_
    refine step_yes rfl rfl rfl rfl rfl (fun _ => rfl) ?_
    refine step_yes (v := .bool false) rfl rfl rfl rfl rfl (fun K' => congrArg (fun c => K' (.bool (!c))) (iEq_self _)) ?_
    refine step_sil rfl rfl rfl (fun _ => rfl) ?_
    refine ops_forget (fun t => (getW 3 0).g t = .int .u32 (Int.ofNat q) ∧ (getW 3 3).g t = .int .i64 (Int.ofNat 0) ∧ (getW 3 7).g t = .int .i64 (Int.ofNat 1) ∧ (getW 3 8).g t = .int .i64 (Int.ofNat (0 + 1)) ∧ (getW 3 10).g t = .int .i64 (Int.ofNat b3) ∧ (getW 3 11).g t = .int .i64 (Int.ofNat a3) ∧ (getW 3 59).g t = .bool false) ⟨rfl, rfl, rfl, rfl, rfl, rfl, rfl⟩ ?_
    rintro t ⟨fc0, fc3, fc7, fc8, fc10, fc11, fc59⟩
    obtain ⟨⟨⟨a0, a64, a128, a192, a256, a320, a384, a448⟩, ⟨a8, a72, a136, a200, a264, a328, a392, a456⟩, g1_16, g1_24, g1_32, g1_40, g1_48, g1_56⟩, g2_1, ⟨g1_2, ⟨a10, a74, a138, a202, a266, a330, a394, a458⟩, g1_18, g1_26, g1_34, g1_42, g1_50, g1_58⟩, ⟨⟨a3, a67, a131, a195, a259, a323, a387, a451⟩, ⟨a11, a75, a139, a203, a267, a331, a395, a459⟩, g1_19, g1_27, g1_35, g1_43, g1_51, ⟨a59, a123, a187, a251, a315, a379, a443, a507⟩⟩, g2_4, g2_5, g2_6, ⟨⟨a7, a71, a135, a199, a263, a327, a391, a455⟩, g1_15, g1_23, g1_31, g1_39, g1_47, g1_55, g1_63⟩⟩ := t
    have fc0 : _ = a0 := Eq.symm fc0
    have fc3 : _ = a3 := Eq.symm fc3
    have fc7 : _ = a7 := Eq.symm fc7
    have fc8 : _ = a8 := Eq.symm fc8
    have fc10 : _ = a10 := Eq.symm fc10
    have fc11 : _ = a11 := Eq.symm fc11
    have fc59 : _ = a59 := Eq.symm fc59
    subst fc0 fc3 fc7 fc8 fc10 fc11 fc59
    refine step_sil rfl rfl rfl (fun _ => rfl) ?_
    refine step_yes rfl rfl rfl rfl rfl (fun _ => rfl) ?_
    refine step_yes (v := .bool false) rfl rfl rfl rfl rfl (fun K' => congrArg (fun c => K' (.bool c)) (l1)) ?_
    refine step_sil rfl rfl rfl (fun _ => rfl) ?_
    refine step_sil rfl rfl rfl (fun _ => rfl) ?_
    refine ops_forget (fun t => (getW 3 0).g t = .int .u32 (Int.ofNat q) ∧ (getW 3 3).g t = .int .i64 (Int.ofNat 0) ∧ (getW 3 7).g t = .int .i64 (Int.ofNat 1) ∧ (getW 3 8).g t = .int .i64 (Int.ofNat (0 + 1)) ∧ (getW 3 10).g t = .int .i64 (Int.ofNat b3) ∧ (getW 3 11).g t = .int .i64 (Int.ofNat a3) ∧ (getW 3 64).g t = .bool false) ⟨rfl, rfl, rfl, rfl, rfl, rfl, rfl⟩ ?_
    rintro t ⟨fc0, fc3, fc7, fc8, fc10, fc11, fc64⟩
    obtain ⟨⟨⟨a0, a64, a128, a192, a256, a320, a384, a448⟩, ⟨a8, a72, a136, a200, a264, a328, a392, a456⟩, g1_16, g1_24, g1_32, g1_40, g1_48, g1_56⟩, g2_1, ⟨g1_2, ⟨a10, a74, a138, a202, a266, a330, a394, a458⟩, g1_18, g1_26, g1_34, g1_42, g1_50, g1_58⟩, ⟨⟨a3, a67, a131, a195, a259, a323, a387, a451⟩, ⟨a11, a75, a139, a203, a267, a331, a395, a459⟩, g1_19, g1_27, g1_35, g1_43, g1_51, g1_59⟩, g2_4, g2_5, g2_6, ⟨⟨a7, a71, a135, a199, a263, a327, a391, a455⟩, g1_15, g1_23, g1_31, g1_39, g1_47, g1_55, g1_63⟩⟩ := t
    have fc0 : _ = a0 := Eq.symm fc0
    have fc3 : _ = a3 := Eq.symm fc3
    have fc7 : _ = a7 := Eq.symm fc7
    have fc8 : _ = a8 := Eq.symm fc8
    have fc10 : _ = a10 := Eq.symm fc10
    have fc11 : _ = a11 := Eq.symm fc11
    have fc64 : _ = a64 := Eq.symm fc64
    subst fc0 fc3 fc7 fc8 fc10 fc11 fc64
    refine step_yes rfl rfl rfl rfl rfl (fun _ => rfl) ?_
    refine step_yes (v := .bool false) rfl rfl rfl rfl rfl (fun K' => congrArg (fun c => K' (.bool c)) (l2)) ?_
    refine step_sil rfl rfl rfl (fun _ => rfl) ?_
    refine step_sil rfl rfl rfl (fun _ => rfl) ?_
    refine step_yes rfl rfl rfl rfl rfl (fun _ => rfl) ?_
    refine ops_forget (fun t => (getW 3 0).g t = .int .u32 (Int.ofNat q) ∧ (getW 3 3).g t = .int .i64 (Int.ofNat 0) ∧ (getW 3 7).g t = .int .i64 (Int.ofNat 1) ∧ (getW 3 8).g t = .int .i64 (Int.ofNat (0 + 1)) ∧ (getW 3 10).g t = .int .i64 (Int.ofNat b3) ∧ (getW 3 11).g t = .int .i64 (Int.ofNat a3) ∧ (getW 3 68).g t = .bool false ∧ (getW 3 69).g t = .int .i64 (Int.ofNat a3)) ⟨rfl, rfl, rfl, rfl, rfl, rfl, rfl, rfl⟩ ?_
    rintro t ⟨fc0, fc3, fc7, fc8, fc10, fc11, fc68, fc69⟩
    obtain ⟨⟨⟨a0, a64, a128, a192, a256, a320, a384, a448⟩, ⟨a8, a72, a136, a200, a264, a328, a392, a456⟩, g1_16, g1_24, g1_32, g1_40, g1_48, g1_56⟩, g2_1, ⟨g1_2, ⟨a10, a74, a138, a202, a266, a330, a394, a458⟩, g1_18, g1_26, g1_34, g1_42, g1_50, g1_58⟩, ⟨⟨a3, a67, a131, a195, a259, a323, a387, a451⟩, ⟨a11, a75, a139, a203, a267, a331, a395, a459⟩, g1_19, g1_27, g1_35, g1_43, g1_51, g1_59⟩, ⟨⟨a4, a68, a132, a196, a260, a324, a388, a452⟩, g1_12, g1_20, g1_28, g1_36, g1_44, g1_52, g1_60⟩, ⟨⟨a5, a69, a133, a197, a261, a325, a389, a453⟩, g1_13, g1_21, g1_29, g1_37, g1_45, g1_53, g1_61⟩, g2_6, ⟨⟨a7, a71, a135, a199, a263, a327, a391, a455⟩, g1_15, g1_23, g1_31, g1_39, g1_47, g1_55, g1_63⟩⟩ := t
    have fc0 : _ = a0 := Eq.symm fc0
    have fc3 : _ = a3 := Eq.symm fc3
    have fc7 : _ = a7 := Eq.symm fc7
    have fc8 : _ = a8 := Eq.symm fc8
    have fc10 : _ = a10 := Eq.symm fc10
    have fc11 : _ = a11 := Eq.symm fc11
    have fc68 : _ = a68 := Eq.symm fc68
    have fc69 : _ = a69 := Eq.symm fc69
    subst fc0 fc3 fc7 fc8 fc10 fc11 fc68 fc69
    refine step_yes rfl rfl rfl rfl rfl (fun _ => rfl) ?_
    refine step_yes (v := .bool false) rfl rfl rfl rfl rfl (fun K' => congrArg (fun c => K' (.bool c)) (l3)) ?_
    refine step_sil rfl rfl rfl (fun _ => rfl) ?_
    refine step_sil rfl rfl rfl (fun _ => rfl) ?_
    refine step_yes rfl rfl rfl rfl rfl (fun _ => rfl) ?_
    refine ops_forget (fun t => (getW 3 0).g t = .int .u32 (Int.ofNat q) ∧ (getW 3 3).g t = .int .i64 (Int.ofNat 0) ∧ (getW 3 7).g t = .int .i64 (Int.ofNat 1) ∧ (getW 3 8).g t = .int .i64 (Int.ofNat (0 + 1)) ∧ (getW 3 10).g t = .int .i64 (Int.ofNat b3) ∧ (getW 3 11).g t = .int .i64 (Int.ofNat a3) ∧ (getW 3 73).g t = .bool false ∧ (getW 3 74).g t = .int .i64 (Int.ofNat a3)) ⟨rfl, rfl, rfl, rfl, rfl, rfl, rfl, rfl⟩ ?_
    rintro t ⟨fc0, fc3, fc7, fc8, fc10, fc11, fc73, fc74⟩
    obtain ⟨⟨⟨a0, a64, a128, a192, a256, a320, a384, a448⟩, ⟨a8, a72, a136, a200, a264, a328, a392, a456⟩, g1_16, g1_24, g1_32, g1_40, g1_48, g1_56⟩, ⟨g1_1, ⟨a9, a73, a137, a201, a265, a329, a393, a457⟩, g1_17, g1_25, g1_33, g1_41, g1_49, g1_57⟩, ⟨g1_2, ⟨a10, a74, a138, a202, a266, a330, a394, a458⟩, g1_18, g1_26, g1_34, g1_42, g1_50, g1_58⟩, ⟨⟨a3, a67, a131, a195, a259, a323, a387, a451⟩, ⟨a11, a75, a139, a203, a267, a331, a395, a459⟩, g1_19, g1_27, g1_35, g1_43, g1_51, g1_59⟩, g2_4, g2_5, g2_6, ⟨⟨a7, a71, a135, a199, a263, a327, a391, a455⟩, g1_15, g1_23, g1_31, g1_39, g1_47, g1_55, g1_63⟩⟩ := t
    have fc0 : _ = a0 := Eq.symm fc0
    have fc3 : _ = a3 := Eq.symm fc3
    have fc7 : _ = a7 := Eq.symm fc7
    have fc8 : _ = a8 := Eq.symm fc8
    have fc10 : _ = a10 := Eq.symm fc10
    have fc11 : _ = a11 := Eq.symm fc11
    have fc73 : _ = a73 := Eq.symm fc73
    have fc74 : _ = a74 := Eq.symm fc74
    subst fc0 fc3 fc7 fc8 fc10 fc11 fc73 fc74
    refine step_yes rfl rfl rfl rfl rfl (fun _ => rfl) ?_
    refine step_yes (v := .int .i64 (Int.ofNat (b3 + 1))) rfl rfl rfl rfl rfl (fun K' => congrArg (fun x => K' (.int .i64 x)) (w4)) ?_
    refine step_yes (v := .bool false) rfl rfl rfl rfl rfl (fun K' => congrArg (fun c => K' (.bool c)) (l4)) ?_
    refine step_sil rfl rfl rfl (fun _ => rfl) ?_
    refine Eq.trans ops_nil ?_
    refine run_forget (fun t => (getW 3 0).g t = .int .u32 (Int.ofNat q) ∧ (getW 3 3).g t = .int .i64 (Int.ofNat 0) ∧ (getW 3 7).g t = .int .i64 (Int.ofNat 1) ∧ (getW 3 8).g t = .int .i64 (Int.ofNat (0 + 1)) ∧ (getW 3 10).g t = .int .i64 (Int.ofNat b3) ∧ (getW 3 11).g t = .int .i64 (Int.ofNat a3) ∧ (getW 3 78).g t = .bool false) ⟨rfl, rfl, rfl, rfl, rfl, rfl, rfl⟩ ?_
    rintro t ⟨fc0, fc3, fc7, fc8, fc10, fc11, fc78⟩
    obtain ⟨⟨⟨a0, a64, a128, a192, a256, a320, a384, a448⟩, ⟨a8, a72, a136, a200, a264, a328, a392, a456⟩, g1_16, g1_24, g1_32, g1_40, g1_48, g1_56⟩, g2_1, ⟨g1_2, ⟨a10, a74, a138, a202, a266, a330, a394, a458⟩, g1_18, g1_26, g1_34, g1_42, g1_50, g1_58⟩, ⟨⟨a3, a67, a131, a195, a259, a323, a387, a451⟩, ⟨a11, a75, a139, a203, a267, a331, a395, a459⟩, g1_19, g1_27, g1_35, g1_43, g1_51, g1_59⟩, g2_4, g2_5, ⟨g1_6, ⟨a14, a78, a142, a206, a270, a334, a398, a462⟩, g1_22, g1_30, g1_38, g1_46, g1_54, g1_62⟩, ⟨⟨a7, a71, a135, a199, a263, a327, a391, a455⟩, g1_15, g1_23, g1_31, g1_39, g1_47, g1_55, g1_63⟩⟩ := t
    have fc0 : _ = a0 := Eq.symm fc0
    have fc3 : _ = a3 := Eq.symm fc3
    have fc7 : _ = a7 := Eq.symm fc7
    have fc8 : _ = a8 := Eq.symm fc8
    have fc10 : _ = a10 := Eq.symm fc10
    have fc11 : _ = a11 := Eq.symm fc11
    have fc78 : _ = a78 := Eq.symm fc78
    subst fc0 fc3 fc7 fc8 fc10 fc11 fc78
    refine Eq.trans (run_if_f (g := getW 3 78) rfl rfl) ?_
    refine Eq.trans run_skip' ?_
    -- region 7
    repeat (first | refine Eq.trans run_seq ?_ | refine Eq.trans run_block ?_ | refine Eq.trans run_region0 ?_)
    refine step_sil rfl rfl rfl (fun _ => rfl) ?_
    refine step_sil rfl rfl rfl (fun _ => rfl) ?_
    refine step_sil (v := .bool true) rfl rfl rfl (fun K' => congrArg (fun c => K' (.bool (!c))) (l5)) ?_
    refine step_sil rfl rfl rfl (fun _ => rfl) ?_
    refine step_yes rfl rfl rfl rfl rfl (fun _ => rfl) ?_
    refine ops_forget (fun t => (getW 3 0).g t = .int .u32 (Int.ofNat q) ∧ (getW 3 3).g t = .int .i64 (Int.ofNat 0) ∧ (getW 3 7).g t = .int .i64 (Int.ofNat 1) ∧ (getW 3 10).g t = .int .i64 (Int.ofNat b3) ∧ (getW 3 11).g t = .int .i64 (Int.ofNat a3) ∧ (getW 3 82).g t = .bool true ∧ (getW 3 83).g t = .int .i64 (Int.ofNat (0 + 1))) ⟨rfl, rfl, rfl, rfl, rfl, rfl, rfl⟩ ?_
    rintro t ⟨fc0, fc3, fc7, fc10, fc11, fc82, fc83⟩
    obtain ⟨⟨⟨a0, a64, a128, a192, a256, a320, a384, a448⟩, g1_8, g1_16, g1_24, g1_32, g1_40, g1_48, g1_56⟩, g2_1, ⟨g1_2, ⟨a10, a74, a138, a202, a266, a330, a394, a458⟩, ⟨a18, a82, a146, a210, a274, a338, a402, a466⟩, g1_26, g1_34, g1_42, g1_50, g1_58⟩, ⟨⟨a3, a67, a131, a195, a259, a323, a387, a451⟩, ⟨a11, a75, a139, a203, a267, a331, a395, a459⟩, ⟨a19, a83, a147, a211, a275, a339, a403, a467⟩, g1_27, g1_35, g1_43, g1_51, g1_59⟩, g2_4, g2_5, g2_6, ⟨⟨a7, a71, a135, a199, a263, a327, a391, a455⟩, g1_15, g1_23, g1_31, g1_39, g1_47, g1_55, g1_63⟩⟩ := t
    have fc0 : _ = a0 := Eq.symm fc0
    have fc3 : _ = a3 := Eq.symm fc3
    have fc7 : _ = a7 := Eq.symm fc7
    have fc10 : _ = a10 := Eq.symm fc10
    have fc11 : _ = a11 := Eq.symm fc11
    have fc82 : _ = a82 := Eq.symm fc82
    have fc83 : _ = a83 := Eq.symm fc83
    subst fc0 fc3 fc7 fc10 fc11 fc82 fc83
    refine step_yes rfl rfl rfl rfl rfl (fun _ => rfl) ?_
    refine step_yes (v := .int .i64 (Int.ofNat (0 + 1))) rfl rfl rfl rfl rfl (fun K' => congrArg (fun x => K' (.int .i64 x)) (w5)) ?_
    refine step_yes (v := .bool true) rfl rfl rfl rfl rfl (fun K' => congrArg (fun c => K' (.bool c)) (iEq_self _)) ?_
    refine step_sil rfl rfl rfl (fun _ => rfl) ?_
    refine step_sil rfl rfl rfl (fun _ => rfl) ?_
    refine ops_forget (fun t => (getW 3 0).g t = .int .u32 (Int.ofNat q) ∧ (getW 3 3).g t = .int .i64 (Int.ofNat 0) ∧ (getW 3 7).g t = .int .i64 (Int.ofNat 1) ∧ (getW 3 10).g t = .int .i64 (Int.ofNat b3) ∧ (getW 3 11).g t = .int .i64 (Int.ofNat a3) ∧ (getW 3 88).g t = .bool true) ⟨rfl, rfl, rfl, rfl, rfl, rfl⟩ ?_
    rintro t ⟨fc0, fc3, fc7, fc10, fc11, fc88⟩
    obtain ⟨⟨⟨a0, a64, a128, a192, a256, a320, a384, a448⟩, g1_8, g1_16, ⟨a24, a88, a152, a216, a280, a344, a408, a472⟩, g1_32, g1_40, g1_48, g1_56⟩, g2_1, ⟨g1_2, ⟨a10, a74, a138, a202, a266, a330, a394, a458⟩, g1_18, g1_26, g1_34, g1_42, g1_50, g1_58⟩, ⟨⟨a3, a67, a131, a195, a259, a323, a387, a451⟩, ⟨a11, a75, a139, a203, a267, a331, a395, a459⟩, g1_19, g1_27, g1_35, g1_43, g1_51, g1_59⟩, g2_4, g2_5, g2_6, ⟨⟨a7, a71, a135, a199, a263, a327, a391, a455⟩, g1_15, g1_23, g1_31, g1_39, g1_47, g1_55, g1_63⟩⟩ := t
    have fc0 : _ = a0 := Eq.symm fc0
    have fc3 : _ = a3 := Eq.symm fc3
    have fc7 : _ = a7 := Eq.symm fc7
    have fc10 : _ = a10 := Eq.symm fc10
    have fc11 : _ = a11 := Eq.symm fc11
    have fc88 : _ = a88 := Eq.symm fc88
    subst fc0 fc3 fc7 fc10 fc11 fc88
    refine step_yes rfl rfl rfl rfl rfl (fun _ => rfl) ?_
    refine step_yes rfl rfl rfl rfl rfl (fun _ => rfl) ?_
    refine step_yes (v := .bool false) rfl rfl rfl rfl rfl (fun K' => congrArg (fun c => K' (.bool c)) (e1)) ?_
    refine step_yes rfl rfl rfl rfl rfl (fun _ => rfl) ?_
    refine step_yes rfl rfl rfl rfl rfl (fun _ => rfl) ?_
    refine ops_forget (fun t => (getW 3 0).g t = .int .u32 (Int.ofNat q) ∧ (getW 3 7).g t = .int .i64 (Int.ofNat 1) ∧ (getW 3 10).g t = .int .i64 (Int.ofNat b3) ∧ (getW 3 11).g t = .int .i64 (Int.ofNat a3) ∧ (getW 3 88).g t = .bool true ∧ (getW 3 92).g t = .bool false ∧ (getW 3 93).g t = .int .i64 (Int.ofNat 0)) ⟨rfl, rfl, rfl, rfl, rfl, rfl, rfl⟩ ?_
    rintro t ⟨fc0, fc7, fc10, fc11, fc88, fc92, fc93⟩
    obtain ⟨⟨⟨a0, a64, a128, a192, a256, a320, a384, a448⟩, g1_8, g1_16, ⟨a24, a88, a152, a216, a280, a344, a408, a472⟩, g1_32, g1_40, g1_48, g1_56⟩, g2_1, ⟨g1_2, ⟨a10, a74, a138, a202, a266, a330, a394, a458⟩, g1_18, g1_26, g1_34, g1_42, g1_50, g1_58⟩, ⟨g1_3, ⟨a11, a75, a139, a203, a267, a331, a395, a459⟩, g1_19, g1_27, g1_35, g1_43, g1_51, g1_59⟩, ⟨g1_4, g1_12, g1_20, ⟨a28, a92, a156, a220, a284, a348, a412, a476⟩, g1_36, g1_44, g1_52, g1_60⟩, ⟨g1_5, g1_13, g1_21, ⟨a29, a93, a157, a221, a285, a349, a413, a477⟩, g1_37, g1_45, g1_53, g1_61⟩, g2_6, ⟨⟨a7, a71, a135, a199, a263, a327, a391, a455⟩, g1_15, g1_23, g1_31, g1_39, g1_47, g1_55, g1_63⟩⟩ := t
    have fc0 : _ = a0 := Eq.symm fc0
    have fc7 : _ = a7 := Eq.symm fc7
    have fc10 : _ = a10 := Eq.symm fc10
    have fc11 : _ = a11 := Eq.symm fc11
    have fc88 : _ = a88 := Eq.symm fc88
    have fc92 : _ = a92 := Eq.symm fc92
    have fc93 : _ = a93 := Eq.symm fc93
    subst fc0 fc7 fc10 fc11 fc88 fc92 fc93
    refine step_yes (v := .bool true) rfl rfl rfl rfl rfl (fun K' => congrArg (fun c => K' (.bool c)) (iEq_self 0)) ?_
    refine step_yes rfl rfl rfl rfl rfl (fun _ => rfl) ?_
    refine step_yes rfl rfl rfl rfl rfl (fun _ => rfl) ?_
    refine step_yes (v := .bool true) rfl rfl rfl rfl rfl (fun K' => congrArg (fun c => K' (.bool c)) (iEq_self 1)) ?_
    refine step_yes rfl rfl rfl rfl rfl (fun _ => rfl) ?_
    refine ops_forget (fun t => (getW 3 0).g t = .int .u32 (Int.ofNat q) ∧ (getW 3 10).g t = .int .i64 (Int.ofNat b3) ∧ (getW 3 11).g t = .int .i64 (Int.ofNat a3) ∧ (getW 3 88).g t = .bool true ∧ (getW 3 92).g t = .bool false ∧ (getW 3 98).g t = .bool true) ⟨rfl, rfl, rfl, rfl, rfl, rfl⟩ ?_
    rintro t ⟨fc0, fc10, fc11, fc88, fc92, fc98⟩
    obtain ⟨⟨⟨a0, a64, a128, a192, a256, a320, a384, a448⟩, g1_8, g1_16, ⟨a24, a88, a152, a216, a280, a344, a408, a472⟩, g1_32, g1_40, g1_48, g1_56⟩, g2_1, ⟨g1_2, ⟨a10, a74, a138, a202, a266, a330, a394, a458⟩, g1_18, g1_26, ⟨a34, a98, a162, a226, a290, a354, a418, a482⟩, g1_42, g1_50, g1_58⟩, ⟨g1_3, ⟨a11, a75, a139, a203, a267, a331, a395, a459⟩, g1_19, g1_27, g1_35, g1_43, g1_51, g1_59⟩, ⟨g1_4, g1_12, g1_20, ⟨a28, a92, a156, a220, a284, a348, a412, a476⟩, g1_36, g1_44, g1_52, g1_60⟩, g2_5, g2_6, g2_7⟩ := t
    have fc0 : _ = a0 := Eq.symm fc0
    have fc10 : _ = a10 := Eq.symm fc10
    have fc11 : _ = a11 := Eq.symm fc11
    have fc88 : _ = a88 := Eq.symm fc88
    have fc92 : _ = a92 := Eq.symm fc92
    have fc98 : _ = a98 := Eq.symm fc98
    subst fc0 fc10 fc11 fc88 fc92 fc98
    refine step_yes rfl rfl rfl rfl rfl (fun _ => rfl) ?_
    refine step_sil rfl rfl rfl (fun _ => rfl) ?_
    refine step_sil rfl rfl rfl (fun _ => rfl) ?_
    refine step_yes rfl rfl rfl rfl rfl (fun _ => rfl) ?_
    refine step_yes rfl rfl rfl rfl rfl (fun _ => rfl) ?_
    refine ops_forget (fun t => (getW 3 0).g t = .int .u32 (Int.ofNat q) ∧ (getW 3 10).g t = .int .i64 (Int.ofNat b3) ∧ (getW 3 11).g t = .int .i64 (Int.ofNat a3) ∧ (getW 3 101).g t = .bool true ∧ (getW 3 102).g t = .int .i64 (Int.ofNat b3) ∧ (getW 3 103).g t = .int .i64 (Int.ofNat b3)) ⟨rfl, rfl, rfl, rfl, rfl, rfl⟩ ?_
    rintro t ⟨fc0, fc10, fc11, fc101, fc102, fc103⟩
    obtain ⟨⟨⟨a0, a64, a128, a192, a256, a320, a384, a448⟩, g1_8, g1_16, g1_24, g1_32, g1_40, g1_48, g1_56⟩, g2_1, ⟨g1_2, ⟨a10, a74, a138, a202, a266, a330, a394, a458⟩, g1_18, g1_26, g1_34, g1_42, g1_50, g1_58⟩, ⟨g1_3, ⟨a11, a75, a139, a203, a267, a331, a395, a459⟩, g1_19, g1_27, g1_35, g1_43, g1_51, g1_59⟩, g2_4, ⟨g1_5, g1_13, g1_21, g1_29, ⟨a37, a101, a165, a229, a293, a357, a421, a485⟩, g1_45, g1_53, g1_61⟩, ⟨g1_6, g1_14, g1_22, g1_30, ⟨a38, a102, a166, a230, a294, a358, a422, a486⟩, g1_46, g1_54, g1_62⟩, ⟨g1_7, g1_15, g1_23, g1_31, ⟨a39, a103, a167, a231, a295, a359, a423, a487⟩, g1_47, g1_55, g1_63⟩⟩ := t
    have fc0 : _ = a0 := Eq.symm fc0
    have fc10 : _ = a10 := Eq.symm fc10
    have fc11 : _ = a11 := Eq.symm fc11
    have fc101 : _ = a101 := Eq.symm fc101
    have fc102 : _ = a102 := Eq.symm fc102
    have fc103 : _ = a103 := Eq.symm fc103
    subst fc0 fc10 fc11 fc101 fc102 fc103
    refine step_yes (v := .int .i64 (Int.ofNat (b3 * b3))) rfl rfl rfl rfl rfl (fun K' => congrArg (fun x => K' (.int .i64 x)) (w6)) ?_
    refine step_yes rfl rfl rfl rfl rfl (fun _ => rfl) ?_
    refine step_yes (v := .int .i64 (Int.ofNat q)) rfl rfl rfl rfl rfl (fun K' => congrArg (fun x => K' (.int .i64 x)) (w3)) ?_
    refine step_yes (v := .bool true) rfl rfl rfl rfl rfl (fun K' => congrArg (fun c => K' (.bool (!c))) (l6)) ?_
    refine step_sil rfl rfl rfl (fun _ => rfl) ?_
    refine ops_forget (fun t => (getW 3 0).g t = .int .u32 (Int.ofNat q) ∧ (getW 3 10).g t = .int .i64 (Int.ofNat b3) ∧ (getW 3 11).g t = .int .i64 (Int.ofNat a3) ∧ (getW 3 108).g t = .bool true) ⟨rfl, rfl, rfl, rfl⟩ ?_
    rintro t ⟨fc0, fc10, fc11, fc108⟩
    obtain ⟨⟨⟨a0, a64, a128, a192, a256, a320, a384, a448⟩, g1_8, g1_16, g1_24, g1_32, g1_40, g1_48, g1_56⟩, g2_1, ⟨g1_2, ⟨a10, a74, a138, a202, a266, a330, a394, a458⟩, g1_18, g1_26, g1_34, g1_42, g1_50, g1_58⟩, ⟨g1_3, ⟨a11, a75, a139, a203, a267, a331, a395, a459⟩, g1_19, g1_27, g1_35, g1_43, g1_51, g1_59⟩, ⟨g1_4, g1_12, g1_20, g1_28, g1_36, ⟨a44, a108, a172, a236, a300, a364, a428, a492⟩, g1_52, g1_60⟩, g2_5, g2_6, g2_7⟩ := t
    have fc0 : _ = a0 := Eq.symm fc0
    have fc10 : _ = a10 := Eq.symm fc10
    have fc11 : _ = a11 := Eq.symm fc11
    have fc108 : _ = a108 := Eq.symm fc108
    subst fc0 fc10 fc11 fc108
    refine step_sil rfl rfl rfl (fun _ => rfl) ?_
    refine step_yes rfl rfl rfl rfl rfl (fun _ => rfl) ?_
    refine step_yes (v := .int .i64 (Int.ofNat (b3 + 1))) rfl rfl rfl rfl rfl (fun K' => congrArg (fun x => K' (.int .i64 x)) (w4)) ?_
    refine step_yes rfl rfl rfl rfl rfl (fun _ => rfl) ?_
    refine step_yes (v := .int .i64 (Int.ofNat (b3 + 1))) rfl rfl rfl rfl rfl (fun K' => congrArg (fun x => K' (.int .i64 x)) (w4)) ?_
    refine ops_forget (fun t => (getW 3 0).g t = .int .u32 (Int.ofNat q) ∧ (getW 3 10).g t = .int .i64 (Int.ofNat b3) ∧ (getW 3 11).g t = .int .i64 (Int.ofNat a3) ∧ (getW 3 109).g t = .bool true ∧ (getW 3 111).g t = .int .i64 (Int.ofNat (b3 + 1)) ∧ (getW 3 113).g t = .int .i64 (Int.ofNat (b3 + 1))) ⟨rfl, rfl, rfl, rfl, rfl, rfl⟩ ?_
    rintro t ⟨fc0, fc10, fc11, fc109, fc111, fc113⟩
    obtain ⟨⟨⟨a0, a64, a128, a192, a256, a320, a384, a448⟩, g1_8, g1_16, g1_24, g1_32, g1_40, g1_48, g1_56⟩, ⟨g1_1, g1_9, g1_17, g1_25, g1_33, g1_41, ⟨a49, a113, a177, a241, a305, a369, a433, a497⟩, g1_57⟩, ⟨g1_2, ⟨a10, a74, a138, a202, a266, a330, a394, a458⟩, g1_18, g1_26, g1_34, g1_42, g1_50, g1_58⟩, ⟨g1_3, ⟨a11, a75, a139, a203, a267, a331, a395, a459⟩, g1_19, g1_27, g1_35, g1_43, g1_51, g1_59⟩, g2_4, ⟨g1_5, g1_13, g1_21, g1_29, g1_37, ⟨a45, a109, a173, a237, a301, a365, a429, a493⟩, g1_53, g1_61⟩, g2_6, ⟨g1_7, g1_15, g1_23, g1_31, g1_39, ⟨a47, a111, a175, a239, a303, a367, a431, a495⟩, g1_55, g1_63⟩⟩ := t
    have fc0 : _ = a0 := Eq.symm fc0
    have fc10 : _ = a10 := Eq.symm fc10
    have fc11 : _ = a11 := Eq.symm fc11
    have fc109 : _ = a109 := Eq.symm fc109
    have fc111 : _ = a111 := Eq.symm fc111
    have fc113 : _ = a113 := Eq.symm fc113
    subst fc0 fc10 fc11 fc109 fc111 fc113
    refine step_yes (v := .int .i64 (Int.ofNat ((b3 + 1) * (b3 + 1)))) rfl rfl rfl rfl rfl (fun K' => congrArg (fun x => K' (.int .i64 x)) (w7)) ?_
    refine step_yes rfl rfl rfl rfl rfl (fun _ => rfl) ?_
    refine step_yes (v := .int .i64 (Int.ofNat q)) rfl rfl rfl rfl rfl (fun K' => congrArg (fun x => K' (.int .i64 x)) (w3)) ?_
    refine step_yes (v := .bool true) rfl rfl rfl rfl rfl (fun K' => congrArg (fun c => K' (.bool c)) (l7)) ?_
    refine step_sil rfl rfl rfl (fun _ => rfl) ?_
    refine ops_forget (fun t => (getW 3 0).g t = .int .u32 (Int.ofNat q) ∧ (getW 3 10).g t = .int .i64 (Int.ofNat b3) ∧ (getW 3 11).g t = .int .i64 (Int.ofNat a3) ∧ (getW 3 118).g t = .bool true) ⟨rfl, rfl, rfl, rfl⟩ ?_
    rintro t ⟨fc0, fc10, fc11, fc118⟩
    obtain ⟨⟨⟨a0, a64, a128, a192, a256, a320, a384, a448⟩, g1_8, g1_16, g1_24, g1_32, g1_40, g1_48, g1_56⟩, g2_1, ⟨g1_2, ⟨a10, a74, a138, a202, a266, a330, a394, a458⟩, g1_18, g1_26, g1_34, g1_42, g1_50, g1_58⟩, ⟨g1_3, ⟨a11, a75, a139, a203, a267, a331, a395, a459⟩, g1_19, g1_27, g1_35, g1_43, g1_51, g1_59⟩, g2_4, g2_5, ⟨g1_6, g1_14, g1_22, g1_30, g1_38, g1_46, ⟨a54, a118, a182, a246, a310, a374, a438, a502⟩, g1_62⟩, g2_7⟩ := t
    have fc0 : _ = a0 := Eq.symm fc0
    have fc10 : _ = a10 := Eq.symm fc10
    have fc11 : _ = a11 := Eq.symm fc11
    have fc118 : _ = a118 := Eq.symm fc118
    subst fc0 fc10 fc11 fc118
    refine step_sil rfl rfl rfl (fun _ => rfl) ?_
    refine step_yes rfl rfl rfl rfl rfl (fun _ => rfl) ?_
    refine step_yes rfl rfl rfl rfl rfl (fun _ => rfl) ?_
    refine step_yes (v := .bool y) rfl rfl rfl rfl rfl (fun K' => congrArg (fun c => K' (.bool c)) (y1)) ?_
    refine step_yes rfl rfl rfl rfl rfl (fun _ => rfl) ?_
    refine ops_forget (fun t => (getW 3 0).g t = .int .u32 (Int.ofNat q) ∧ (getW 3 10).g t = .int .i64 (Int.ofNat b3) ∧ (getW 3 119).g t = .bool true ∧ (getW 3 122).g t = .bool y ∧ (getW 3 123).g t = .int .i64 (Int.ofNat b3)) ⟨rfl, rfl, rfl, rfl, rfl⟩ ?_
    rintro t ⟨fc0, fc10, fc119, fc122, fc123⟩
    obtain ⟨⟨⟨a0, a64, a128, a192, a256, a320, a384, a448⟩, g1_8, g1_16, g1_24, g1_32, g1_40, g1_48, g1_56⟩, g2_1, ⟨g1_2, ⟨a10, a74, a138, a202, a266, a330, a394, a458⟩, g1_18, g1_26, g1_34, g1_42, g1_50, ⟨a58, a122, a186, a250, a314, a378, a442, a506⟩⟩, ⟨g1_3, g1_11, g1_19, g1_27, g1_35, g1_43, g1_51, ⟨a59, a123, a187, a251, a315, a379, a443, a507⟩⟩, g2_4, g2_5, g2_6, ⟨g1_7, g1_15, g1_23, g1_31, g1_39, g1_47, ⟨a55, a119, a183, a247, a311, a375, a439, a503⟩, g1_63⟩⟩ := t
    have fc0 : _ = a0 := Eq.symm fc0
    have fc10 : _ = a10 := Eq.symm fc10
    have fc119 : _ = a119 := Eq.symm fc119
    have fc122 : _ = a122 := Eq.symm fc122
    have fc123 : _ = a123 := Eq.symm fc123
    subst fc0 fc10 fc119 fc122 fc123
    refine step_yes rfl rfl rfl rfl rfl (fun _ => rfl) ?_
    refine step_yes (v := .int .i64 (Int.ofNat (b3 * b3))) rfl rfl rfl rfl rfl (fun K' => congrArg (fun x => K' (.int .i64 x)) (w6)) ?_
    refine step_yes rfl rfl rfl rfl rfl (fun _ => rfl) ?_
    refine step_yes (v := .int .i64 (Int.ofNat q)) rfl rfl rfl rfl rfl (fun K' => congrArg (fun x => K' (.int .i64 x)) (w3)) ?_
    refine step_yes (v := .bool y) rfl rfl rfl rfl rfl (fun K' => congrArg (fun c => K' (.bool c)) (y2)) ?_
    refine ops_forget (fun t => (getW 3 119).g t = .bool true ∧ (getW 3 122).g t = .bool y ∧ (getW 3 128).g t = .bool y) ⟨rfl, rfl, rfl⟩ ?_
    rintro t ⟨fc119, fc122, fc128⟩
    obtain ⟨⟨⟨a0, a64, a128, a192, a256, a320, a384, a448⟩, g1_8, g1_16, g1_24, g1_32, g1_40, g1_48, g1_56⟩, g2_1, ⟨g1_2, g1_10, g1_18, g1_26, g1_34, g1_42, g1_50, ⟨a58, a122, a186, a250, a314, a378, a442, a506⟩⟩, g2_3, g2_4, g2_5, g2_6, ⟨g1_7, g1_15, g1_23, g1_31, g1_39, g1_47, ⟨a55, a119, a183, a247, a311, a375, a439, a503⟩, g1_63⟩⟩ := t
    have fc119 : _ = a119 := Eq.symm fc119
    have fc122 : _ = a122 := Eq.symm fc122
    have fc128 : _ = a128 := Eq.symm fc128
    subst fc119 fc122 fc128
    refine step_yes (v := .bool true) rfl rfl rfl rfl rfl (fun K' => by cases y <;> rfl) ?_
    refine step_sil rfl rfl rfl (fun _ => rfl) ?_
    refine step_sil rfl rfl rfl (fun _ => rfl) ?_
    refine step_call_yes rfl rfl rfl rfl rfl ?_
    refine Eq.trans (callF_B_w rfl _ _) ?_
    refine ops_forget (fun t => (getW 3 131).g t = .bool true ∧ (getW 3 132).g t = .bool true) ⟨rfl, rfl⟩ ?_
    rintro t ⟨fc131, fc132⟩
    obtain ⟨g2_0, g2_1, g2_2, ⟨⟨a3, a67, a131, a195, a259, a323, a387, a451⟩, g1_11, g1_19, g1_27, g1_35, g1_43, g1_51, g1_59⟩, ⟨⟨a4, a68, a132, a196, a260, a324, a388, a452⟩, g1_12, g1_20, g1_28, g1_36, g1_44, g1_52, g1_60⟩, g2_5, g2_6, g2_7⟩ := t
    have fc131 : _ = a131 := Eq.symm fc131
    have fc132 : _ = a132 := Eq.symm fc132
    subst fc131 fc132
    refine step_sil rfl rfl rfl (fun _ => rfl) ?_
    refine step_sil rfl rfl rfl (fun _ => rfl) ?_
    refine Eq.trans ops_nil ?_
    refine run_forget (fun t => (getW 3 2).g t = .bool true) rfl ?_
    rintro t fc2
    obtain ⟨g2_0, g2_1, ⟨⟨a2, a66, a130, a194, a258, a322, a386, a450⟩, g1_10, g1_18, g1_26, g1_34, g1_42, g1_50, g1_58⟩, g2_3, g2_4, g2_5, g2_6, g2_7⟩ := t
    have fc2 : _ = a2 := Eq.symm fc2
    subst fc2
    refine Eq.trans run_ret ?_
    exact hK _ _ rfl
  · have l5 : iLt (Int.ofNat n) (Int.ofNat n) = false := by rw [iLt_eq]; simp
    have w5 : wr .i64 (Int.add (Int.ofNat n) 1) = Int.ofNat (n + 1) := wr_nat (i := n + 1) (by omega)
    -- region 5
    repeat (first | refine Eq.trans run_seq ?_ | refine Eq.trans run_block ?_ | refine Eq.trans run_region0 ?_)
    refine step_sil rfl rfl rfl (fun _ => rfl) ?_
    refine step_sil (v := .bool false) rfl rfl rfl (fun K' => congrArg (fun c => K' (.bool (!c))) (iEq_self 0)) ?_
    refine step_sil rfl rfl rfl (fun _ => rfl) ?_
    refine step_yes rfl rfl rfl rfl rfl (fun _ => rfl) ?_
    refine step_yes (v := .bool false) rfl rfl rfl rfl rfl (fun K' => congrArg (fun c => K' (.bool (!c))) (iEq_self 0)) ?_
    refine ops_forget (fun t => (getW 3 0).g t = .int .u32 (Int.ofNat q) ∧ (getW 3 3).g t = .int .i64 (Int.ofNat n) ∧ (getW 3 4).g t = .int .i64 (Int.ofNat n) ∧ (getW 3 5).g t = .int .i64 (Int.ofNat n) ∧ (getW 3 7).g t = .int .i64 (Int.ofNat n) ∧ (getW 3 8).g t = .int .i64 (Int.ofNat (n + 1)) ∧ (getW 3 10).g t = .int .i64 (Int.ofNat b3) ∧ (getW 3 11).g t = .int .i64 (Int.ofNat a3) ∧ (getW 3 12).g t = .int .i64 0 ∧ (getW 3 42).g t = .bool false ∧ (getW 3 44).g t = .bool false) ⟨rfl, rfl, rfl, rfl, rfl, rfl, rfl, rfl, rfl, rfl, rfl⟩ ?_
    rintro t ⟨fc0, fc3, fc4, fc5, fc7, fc8, fc10, fc11, fc12, fc42, fc44⟩
    obtain ⟨⟨⟨a0, a64, a128, a192, a256, a320, a384, a448⟩, ⟨a8, a72, a136, a200, a264, a328, a392, a456⟩, g1_16, g1_24, g1_32, g1_40, g1_48, g1_56⟩, g2_1, ⟨g1_2, ⟨a10, a74, a138, a202, a266, a330, a394, a458⟩, g1_18, g1_26, g1_34, ⟨a42, a106, a170, a234, a298, a362, a426, a490⟩, g1_50, g1_58⟩, ⟨⟨a3, a67, a131, a195, a259, a323, a387, a451⟩, ⟨a11, a75, a139, a203, a267, a331, a395, a459⟩, g1_19, g1_27, g1_35, g1_43, g1_51, g1_59⟩, ⟨⟨a4, a68, a132, a196, a260, a324, a388, a452⟩, ⟨a12, a76, a140, a204, a268, a332, a396, a460⟩, g1_20, g1_28, g1_36, ⟨a44, a108, a172, a236, a300, a364, a428, a492⟩, g1_52, g1_60⟩, ⟨⟨a5, a69, a133, a197, a261, a325, a389, a453⟩, g1_13, g1_21, g1_29, g1_37, g1_45, g1_53, g1_61⟩, g2_6, ⟨⟨a7, a71, a135, a199, a263, a327, a391, a455⟩, g1_15, g1_23, g1_31, g1_39, g1_47, g1_55, g1_63⟩⟩ := t
    have fc0 : _ = a0 := Eq.symm fc0
    have fc3 : _ = a3 := Eq.symm fc3
    have fc4 : _ = a4 := Eq.symm fc4
    have fc5 : _ = a5 := Eq.symm fc5
    have fc7 : _ = a7 := Eq.symm fc7
    have fc8 : _ = a8 := Eq.symm fc8
    have fc10 : _ = a10 := Eq.symm fc10
    have fc11 : _ = a11 := Eq.symm fc11
    have fc12 : _ = a12 := Eq.symm fc12
    have fc42 : _ = a42 := Eq.symm fc42
    have fc44 : _ = a44 := Eq.symm fc44
    subst fc0 fc3 fc4 fc5 fc7 fc8 fc10 fc11 fc12 fc42 fc44
    refine step_sil rfl rfl rfl (fun _ => rfl) ?_
    refine step_sil rfl rfl rfl (fun _ => rfl) ?_
    refine step_yes rfl rfl rfl rfl rfl (fun _ => rfl) ?_
    refine step_yes (v := .bool false) rfl rfl rfl rfl rfl (fun K' => congrArg (fun c => K' (.bool (!c))) (iEq_self 0)) ?_
    refine step_sil rfl rfl rfl (fun _ => rfl) ?_
    refine ops_forget (fun t => (getW 3 0).g t = .int .u32 (Int.ofNat q) ∧ (getW 3 3).g t = .int .i64 (Int.ofNat n) ∧ (getW 3 4).g t = .int .i64 (Int.ofNat n) ∧ (getW 3 5).g t = .int .i64 (Int.ofNat n) ∧ (getW 3 7).g t = .int .i64 (Int.ofNat n) ∧ (getW 3 8).g t = .int .i64 (Int.ofNat (n + 1)) ∧ (getW 3 10).g t = .int .i64 (Int.ofNat b3) ∧ (getW 3 11).g t = .int .i64 (Int.ofNat a3) ∧ (getW 3 49).g t = .bool false) ⟨rfl, rfl, rfl, rfl, rfl, rfl, rfl, rfl, rfl⟩ ?_
    rintro t ⟨fc0, fc3, fc4, fc5, fc7, fc8, fc10, fc11, fc49⟩
    obtain ⟨⟨⟨a0, a64, a128, a192, a256, a320, a384, a448⟩, ⟨a8, a72, a136, a200, a264, a328, a392, a456⟩, g1_16, g1_24, g1_32, g1_40, g1_48, g1_56⟩, ⟨g1_1, g1_9, g1_17, g1_25, g1_33, g1_41, ⟨a49, a113, a177, a241, a305, a369, a433, a497⟩, g1_57⟩, ⟨g1_2, ⟨a10, a74, a138, a202, a266, a330, a394, a458⟩, g1_18, g1_26, g1_34, g1_42, g1_50, g1_58⟩, ⟨⟨a3, a67, a131, a195, a259, a323, a387, a451⟩, ⟨a11, a75, a139, a203, a267, a331, a395, a459⟩, g1_19, g1_27, g1_35, g1_43, g1_51, g1_59⟩, ⟨⟨a4, a68, a132, a196, a260, a324, a388, a452⟩, g1_12, g1_20, g1_28, g1_36, g1_44, g1_52, g1_60⟩, ⟨⟨a5, a69, a133, a197, a261, a325, a389, a453⟩, g1_13, g1_21, g1_29, g1_37, g1_45, g1_53, g1_61⟩, g2_6, ⟨⟨a7, a71, a135, a199, a263, a327, a391, a455⟩, g1_15, g1_23, g1_31, g1_39, g1_47, g1_55, g1_63⟩⟩ := t
    have fc0 : _ = a0 := Eq.symm fc0
    have fc3 : _ = a3 := Eq.symm fc3
    have fc4 : _ = a4 := Eq.symm fc4
    have fc5 : _ = a5 := Eq.symm fc5
    have fc7 : _ = a7 := Eq.symm fc7
    have fc8 : _ = a8 := Eq.symm fc8
    have fc10 : _ = a10 := Eq.symm fc10
    have fc11 : _ = a11 := Eq.symm fc11
    have fc49 : _ = a49 := Eq.symm fc49
    subst fc0 fc3 fc4 fc5 fc7 fc8 fc10 fc11 fc49
    refine step_sil rfl rfl rfl (fun _ => rfl) ?_
    refine step_yes rfl rfl rfl rfl rfl (fun _ => rfl) ?_
    refine step_yes rfl rfl rfl rfl rfl (fun _ => rfl) ?_
    refine step_yes (v := .bool false) rfl rfl rfl rfl rfl (fun K' => congrArg (fun c => K' (.bool (!c))) (iEq_self _)) ?_
    refine step_sil rfl rfl rfl (fun _ => rfl) ?_
    refine ops_forget (fun t => (getW 3 0).g t = .int .u32 (Int.ofNat q) ∧ (getW 3 3).g t = .int .i64 (Int.ofNat n) ∧ (getW 3 5).g t = .int .i64 (Int.ofNat n) ∧ (getW 3 7).g t = .int .i64 (Int.ofNat n) ∧ (getW 3 8).g t = .int .i64 (Int.ofNat (n + 1)) ∧ (getW 3 10).g t = .int .i64 (Int.ofNat b3) ∧ (getW 3 11).g t = .int .i64 (Int.ofNat a3) ∧ (getW 3 54).g t = .bool false) ⟨rfl, rfl, rfl, rfl, rfl, rfl, rfl, rfl⟩ ?_
    rintro t ⟨fc0, fc3, fc5, fc7, fc8, fc10, fc11, fc54⟩
    obtain ⟨⟨⟨a0, a64, a128, a192, a256, a320, a384, a448⟩, ⟨a8, a72, a136, a200, a264, a328, a392, a456⟩, g1_16, g1_24, g1_32, g1_40, g1_48, g1_56⟩, g2_1, ⟨g1_2, ⟨a10, a74, a138, a202, a266, a330, a394, a458⟩, g1_18, g1_26, g1_34, g1_42, g1_50, g1_58⟩, ⟨⟨a3, a67, a131, a195, a259, a323, a387, a451⟩, ⟨a11, a75, a139, a203, a267, a331, a395, a459⟩, g1_19, g1_27, g1_35, g1_43, g1_51, g1_59⟩, g2_4, ⟨⟨a5, a69, a133, a197, a261, a325, a389, a453⟩, g1_13, g1_21, g1_29, g1_37, g1_45, g1_53, g1_61⟩, ⟨g1_6, g1_14, g1_22, g1_30, g1_38, g1_46, ⟨a54, a118, a182, a246, a310, a374, a438, a502⟩, g1_62⟩, ⟨⟨a7, a71, a135, a199, a263, a327, a391, a455⟩, g1_15, g1_23, g1_31, g1_39, g1_47, g1_55, g1_63⟩⟩ := t
    have fc0 : _ = a0 := Eq.symm fc0
    have fc3 : _ = a3 := Eq.symm fc3
    have fc5 : _ = a5 := Eq.symm fc5
    have fc7 : _ = a7 := Eq.symm fc7
    have fc8 : _ = a8 := Eq.symm fc8
    have fc10 : _ = a10 := Eq.symm fc10
    have fc11 : _ = a11 := Eq.symm fc11
    have fc54 : _ = a54 := Eq.symm fc54
    subst fc0 fc3 fc5 fc7 fc8 fc10 fc11 fc54
    refine step_sil rfl rfl rfl (fun _ => rfl) ?_
    refine step_yes rfl rfl rfl rfl rfl (fun _ => rfl) ?_
    refine step_yes rfl rfl rfl rfl rfl (fun _ => rfl) ?_
    refine step_yes (v := .bool false) rfl rfl rfl rfl rfl (fun K' => congrArg (fun c => K' (.bool (!c))) (iEq_self _)) ?_
    refine step_sil rfl rfl rfl (fun _ => rfl) ?_
    refine ops_forget (fun t => (getW 3 0).g t = .int .u32 (Int.ofNat q) ∧ (getW 3 3).g t = .int .i64 (Int.ofNat n) ∧ (getW 3 7).g t = .int .i64 (Int.ofNat n) ∧ (getW 3 8).g t = .int .i64 (Int.ofNat (n + 1)) ∧ (getW 3 10).g t = .int .i64 (Int.ofNat b3) ∧ (getW 3 11).g t = .int .i64 (Int.ofNat a3) ∧ (getW 3 59).g t = .bool false) ⟨rfl, rfl, rfl, rfl, rfl, rfl, rfl⟩ ?_
    rintro t ⟨fc0, fc3, fc7, fc8, fc10, fc11, fc59⟩
    obtain ⟨⟨⟨a0, a64, a128, a192, a256, a320, a384, a448⟩, ⟨a8, a72, a136, a200, a264, a328, a392, a456⟩, g1_16, g1_24, g1_32, g1_40, g1_48, g1_56⟩, g2_1, ⟨g1_2, ⟨a10, a74, a138, a202, a266, a330, a394, a458⟩, g1_18, g1_26, g1_34, g1_42, g1_50, g1_58⟩, ⟨⟨a3, a67, a131, a195, a259, a323, a387, a451⟩, ⟨a11, a75, a139, a203, a267, a331, a395, a459⟩, g1_19, g1_27, g1_35, g1_43, g1_51, ⟨a59, a123, a187, a251, a315, a379, a443, a507⟩⟩, g2_4, g2_5, g2_6, ⟨⟨a7, a71, a135, a199, a263, a327, a391, a455⟩, g1_15, g1_23, g1_31, g1_39, g1_47, g1_55, g1_63⟩⟩ := t
    have fc0 : _ = a0 := Eq.symm fc0
    have fc3 : _ = a3 := Eq.symm fc3
    have fc7 : _ = a7 := Eq.symm fc7
    have fc8 : _ = a8 := Eq.symm fc8
    have fc10 : _ = a10 := Eq.symm fc10
    have fc11 : _ = a11 := Eq.symm fc11
    have fc59 : _ = a59 := Eq.symm fc59
    subst fc0 fc3 fc7 fc8 fc10 fc11 fc59
    refine step_sil rfl rfl rfl (fun _ => rfl) ?_
    refine step_yes rfl rfl rfl rfl rfl (fun _ => rfl) ?_
    refine step_yes (v := .bool false) rfl rfl rfl rfl rfl (fun K' => congrArg (fun c => K' (.bool c)) (l1)) ?_
    refine step_sil rfl rfl rfl (fun _ => rfl) ?_
    refine step_sil rfl rfl rfl (fun _ => rfl) ?_
    refine ops_forget (fun t => (getW 3 0).g t = .int .u32 (Int.ofNat q) ∧ (getW 3 3).g t = .int .i64 (Int.ofNat n) ∧ (getW 3 7).g t = .int .i64 (Int.ofNat n) ∧ (getW 3 8).g t = .int .i64 (Int.ofNat (n + 1)) ∧ (getW 3 10).g t = .int .i64 (Int.ofNat b3) ∧ (getW 3 11).g t = .int .i64 (Int.ofNat a3) ∧ (getW 3 64).g t = .bool false) ⟨rfl, rfl, rfl, rfl, rfl, rfl, rfl⟩ ?_
    rintro t ⟨fc0, fc3, fc7, fc8, fc10, fc11, fc64⟩
    obtain ⟨⟨⟨a0, a64, a128, a192, a256, a320, a384, a448⟩, ⟨a8, a72, a136, a200, a264, a328, a392, a456⟩, g1_16, g1_24, g1_32, g1_40, g1_48, g1_56⟩, g2_1, ⟨g1_2, ⟨a10, a74, a138, a202, a266, a330, a394, a458⟩, g1_18, g1_26, g1_34, g1_42, g1_50, g1_58⟩, ⟨⟨a3, a67, a131, a195, a259, a323, a387, a451⟩, ⟨a11, a75, a139, a203, a267, a331, a395, a459⟩, g1_19, g1_27, g1_35, g1_43, g1_51, g1_59⟩, g2_4, g2_5, g2_6, ⟨⟨a7, a71, a135, a199, a263, a327, a391, a455⟩, g1_15, g1_23, g1_31, g1_39, g1_47, g1_55, g1_63⟩⟩ := t
    have fc0 : _ = a0 := Eq.symm fc0
    have fc3 : _ = a3 := Eq.symm fc3
    have fc7 : _ = a7 := Eq.symm fc7
    have fc8 : _ = a8 := Eq.symm fc8
    have fc10 : _ = a10 := Eq.symm fc10
    have fc11 : _ = a11 := Eq.symm fc11
    have fc64 : _ = a64 := Eq.symm fc64
    subst fc0 fc3 fc7 fc8 fc10 fc11 fc64
    refine step_yes rfl rfl rfl rfl rfl (fun _ => rfl) ?_
    refine step_yes (v := .bool false) rfl rfl rfl rfl rfl (fun K' => congrArg (fun c => K' (.bool c)) (l2)) ?_
    refine step_sil rfl rfl rfl (fun _ => rfl) ?_
    refine step_sil rfl rfl rfl (fun _ => rfl) ?_
    refine step_yes rfl rfl rfl rfl rfl (fun _ => rfl) ?_
    refine ops_forget (fun t => (getW 3 0).g t = .int .u32 (Int.ofNat q) ∧ (getW 3 3).g t = .int .i64 (Int.ofNat n) ∧ (getW 3 7).g t = .int .i64 (Int.ofNat n) ∧ (getW 3 8).g t = .int .i64 (Int.ofNat (n + 1)) ∧ (getW 3 10).g t = .int .i64 (Int.ofNat b3) ∧ (getW 3 11).g t = .int .i64 (Int.ofNat a3) ∧ (getW 3 68).g t = .bool false ∧ (getW 3 69).g t = .int .i64 (Int.ofNat a3)) ⟨rfl, rfl, rfl, rfl, rfl, rfl, rfl, rfl⟩ ?_
    rintro t ⟨fc0, fc3, fc7, fc8, fc10, fc11, fc68, fc69⟩
    obtain ⟨⟨⟨a0, a64, a128, a192, a256, a320, a384, a448⟩, ⟨a8, a72, a136, a200, a264, a328, a392, a456⟩, g1_16, g1_24, g1_32, g1_40, g1_48, g1_56⟩, g2_1, ⟨g1_2, ⟨a10, a74, a138, a202, a266, a330, a394, a458⟩, g1_18, g1_26, g1_34, g1_42, g1_50, g1_58⟩, ⟨⟨a3, a67, a131, a195, a259, a323, a387, a451⟩, ⟨a11, a75, a139, a203, a267, a331, a395, a459⟩, g1_19, g1_27, g1_35, g1_43, g1_51, g1_59⟩, ⟨⟨a4, a68, a132, a196, a260, a324, a388, a452⟩, g1_12, g1_20, g1_28, g1_36, g1_44, g1_52, g1_60⟩, ⟨⟨a5, a69, a133, a197, a261, a325, a389, a453⟩, g1_13, g1_21, g1_29, g1_37, g1_45, g1_53, g1_61⟩, g2_6, ⟨⟨a7, a71, a135, a199, a263, a327, a391, a455⟩, g1_15, g1_23, g1_31, g1_39, g1_47, g1_55, g1_63⟩⟩ := t
    have fc0 : _ = a0 := Eq.symm fc0
    have fc3 : _ = a3 := Eq.symm fc3
    have fc7 : _ = a7 := Eq.symm fc7
    have fc8 : _ = a8 := Eq.symm fc8
    have fc10 : _ = a10 := Eq.symm fc10
    have fc11 : _ = a11 := Eq.symm fc11
    have fc68 : _ = a68 := Eq.symm fc68
    have fc69 : _ = a69 := Eq.symm fc69
    subst fc0 fc3 fc7 fc8 fc10 fc11 fc68 fc69
    refine step_yes rfl rfl rfl rfl rfl (fun _ => rfl) ?_
    refine step_yes (v := .bool false) rfl rfl rfl rfl rfl (fun K' => congrArg (fun c => K' (.bool c)) (l3)) ?_
    refine step_sil rfl rfl rfl (fun _ => rfl) ?_
    refine step_sil rfl rfl rfl (fun _ => rfl) ?_
    refine step_yes rfl rfl rfl rfl rfl (fun _ => rfl) ?_
    refine ops_forget (fun t => (getW 3 0).g t = .int .u32 (Int.ofNat q) ∧ (getW 3 3).g t = .int .i64 (Int.ofNat n) ∧ (getW 3 7).g t = .int .i64 (Int.ofNat n) ∧ (getW 3 8).g t = .int .i64 (Int.ofNat (n + 1)) ∧ (getW 3 10).g t = .int .i64 (Int.ofNat b3) ∧ (getW 3 11).g t = .int .i64 (Int.ofNat a3) ∧ (getW 3 73).g t = .bool false ∧ (getW 3 74).g t = .int .i64 (Int.ofNat a3)) ⟨rfl, rfl, rfl, rfl, rfl, rfl, rfl, rfl⟩ ?_
    rintro t ⟨fc0, fc3, fc7, fc8, fc10, fc11, fc73, fc74⟩
    obtain ⟨⟨⟨a0, a64, a128, a192, a256, a320, a384, a448⟩, ⟨a8, a72, a136, a200, a264, a328, a392, a456⟩, g1_16, g1_24, g1_32, g1_40, g1_48, g1_56⟩, ⟨g1_1, ⟨a9, a73, a137, a201, a265, a329, a393, a457⟩, g1_17, g1_25, g1_33, g1_41, g1_49, g1_57⟩, ⟨g1_2, ⟨a10, a74, a138, a202, a266, a330, a394, a458⟩, g1_18, g1_26, g1_34, g1_42, g1_50, g1_58⟩, ⟨⟨a3, a67, a131, a195, a259, a323, a387, a451⟩, ⟨a11, a75, a139, a203, a267, a331, a395, a459⟩, g1_19, g1_27, g1_35, g1_43, g1_51, g1_59⟩, g2_4, g2_5, g2_6, ⟨⟨a7, a71, a135, a199, a263, a327, a391, a455⟩, g1_15, g1_23, g1_31, g1_39, g1_47, g1_55, g1_63⟩⟩ := t
    have fc0 : _ = a0 := Eq.symm fc0
    have fc3 : _ = a3 := Eq.symm fc3
    have fc7 : _ = a7 := Eq.symm fc7
    have fc8 : _ = a8 := Eq.symm fc8
    have fc10 : _ = a10 := Eq.symm fc10
    have fc11 : _ = a11 := Eq.symm fc11
    have fc73 : _ = a73 := Eq.symm fc73
    have fc74 : _ = a74 := Eq.symm fc74
    subst fc0 fc3 fc7 fc8 fc10 fc11 fc73 fc74
    refine step_yes rfl rfl rfl rfl rfl (fun _ => rfl) ?_
    refine step_yes (v := .int .i64 (Int.ofNat (b3 + 1))) rfl rfl rfl rfl rfl (fun K' => congrArg (fun x => K' (.int .i64 x)) (w4)) ?_
    refine step_yes (v := .bool false) rfl rfl rfl rfl rfl (fun K' => congrArg (fun c => K' (.bool c)) (l4)) ?_
    refine step_sil rfl rfl rfl (fun _ => rfl) ?_
    refine Eq.trans ops_nil ?_
    refine run_forget (fun t => (getW 3 0).g t = .int .u32 (Int.ofNat q) ∧ (getW 3 3).g t = .int .i64 (Int.ofNat n) ∧ (getW 3 7).g t = .int .i64 (Int.ofNat n) ∧ (getW 3 8).g t = .int .i64 (Int.ofNat (n + 1)) ∧ (getW 3 10).g t = .int .i64 (Int.ofNat b3) ∧ (getW 3 11).g t = .int .i64 (Int.ofNat a3) ∧ (getW 3 78).g t = .bool false) ⟨rfl, rfl, rfl, rfl, rfl, rfl, rfl⟩ ?_
    rintro t ⟨fc0, fc3, fc7, fc8, fc10, fc11, fc78⟩
    obtain ⟨⟨⟨a0, a64, a128, a192, a256, a320, a384, a448⟩, ⟨a8, a72, a136, a200, a264, a328, a392, a456⟩, g1_16, g1_24, g1_32, g1_40, g1_48, g1_56⟩, g2_1, ⟨g1_2, ⟨a10, a74, a138, a202, a266, a330, a394, a458⟩, g1_18, g1_26, g1_34, g1_42, g1_50, g1_58⟩, ⟨⟨a3, a67, a131, a195, a259, a323, a387, a451⟩, ⟨a11, a75, a139, a203, a267, a331, a395, a459⟩, g1_19, g1_27, g1_35, g1_43, g1_51, g1_59⟩, g2_4, g2_5, ⟨g1_6, ⟨a14, a78, a142, a206, a270, a334, a398, a462⟩, g1_22, g1_30, g1_38, g1_46, g1_54, g1_62⟩, ⟨⟨a7, a71, a135, a199, a263, a327, a391, a455⟩, g1_15, g1_23, g1_31, g1_39, g1_47, g1_55, g1_63⟩⟩ := t
    have fc0 : _ = a0 := Eq.symm fc0
    have fc3 : _ = a3 := Eq.symm fc3
    have fc7 : _ = a7 := Eq.symm fc7
    have fc8 : _ = a8 := Eq.symm fc8
    have fc10 : _ = a10 := Eq.symm fc10
    have fc11 : _ = a11 := Eq.symm fc11
    have fc78 : _ = a78 := Eq.symm fc78
    subst fc0 fc3 fc7 fc8 fc10 fc11 fc78
    refine Eq.trans (run_if_f (g := getW 3 78) rfl rfl) ?_
    refine Eq.trans run_skip' ?_
    -- region 7
    repeat (first | refine Eq.trans run_seq ?_ | refine Eq.trans run_block ?_ | refine Eq.trans run_region0 ?_)
    refine step_sil rfl rfl rfl (fun _ => rfl) ?_
    refine step_sil rfl rfl rfl (fun _ => rfl) ?_
    refine step_sil (v := .bool true) rfl rfl rfl (fun K' => congrArg (fun c => K' (.bool (!c))) (l5)) ?_
    refine step_sil rfl rfl rfl (fun _ => rfl) ?_
    refine step_yes rfl rfl rfl rfl rfl (fun _ => rfl) ?_
    refine ops_forget (fun t => (getW 3 0).g t = .int .u32 (Int.ofNat q) ∧ (getW 3 3).g t = .int .i64 (Int.ofNat n) ∧ (getW 3 7).g t = .int .i64 (Int.ofNat n) ∧ (getW 3 10).g t = .int .i64 (Int.ofNat b3) ∧ (getW 3 11).g t = .int .i64 (Int.ofNat a3) ∧ (getW 3 82).g t = .bool true ∧ (getW 3 83).g t = .int .i64 (Int.ofNat (n + 1))) ⟨rfl, rfl, rfl, rfl, rfl, rfl, rfl⟩ ?_
    rintro t ⟨fc0, fc3, fc7, fc10, fc11, fc82, fc83⟩
    obtain ⟨⟨⟨a0, a64, a128, a192, a256, a320, a384, a448⟩, g1_8, g1_16, g1_24, g1_32, g1_40, g1_48, g1_56⟩, g2_1, ⟨g1_2, ⟨a10, a74, a138, a202, a266, a330, a394, a458⟩, ⟨a18, a82, a146, a210, a274, a338, a402, a466⟩, g1_26, g1_34, g1_42, g1_50, g1_58⟩, ⟨⟨a3, a67, a131, a195, a259, a323, a387, a451⟩, ⟨a11, a75, a139, a203, a267, a331, a395, a459⟩, ⟨a19, a83, a147, a211, a275, a339, a403, a467⟩, g1_27, g1_35, g1_43, g1_51, g1_59⟩, g2_4, g2_5, g2_6, ⟨⟨a7, a71, a135, a199, a263, a327, a391, a455⟩, g1_15, g1_23, g1_31, g1_39, g1_47, g1_55, g1_63⟩⟩ := t
    have fc0 : _ = a0 := Eq.symm fc0
    have fc3 : _ = a3 := Eq.symm fc3
    have fc7 : _ = a7 := Eq.symm fc7
    have fc10 : _ = a10 := Eq.symm fc10
    have fc11 : _ = a11 := Eq.symm fc11
    have fc82 : _ = a82 := Eq.symm fc82
    have fc83 : _ = a83 := Eq.symm fc83
    subst fc0 fc3 fc7 fc10 fc11 fc82 fc83
    refine step_yes rfl rfl rfl rfl rfl (fun _ => rfl) ?_
    refine step_yes (v := .int .i64 (Int.ofNat (n + 1))) rfl rfl rfl rfl rfl (fun K' => congrArg (fun x => K' (.int .i64 x)) (w5)) ?_
    refine step_yes (v := .bool true) rfl rfl rfl rfl rfl (fun K' => congrArg (fun c => K' (.bool c)) (iEq_self _)) ?_
    refine step_sil rfl rfl rfl (fun _ => rfl) ?_
    refine step_sil rfl rfl rfl (fun _ => rfl) ?_
    refine ops_forget (fun t => (getW 3 0).g t = .int .u32 (Int.ofNat q) ∧ (getW 3 3).g t = .int .i64 (Int.ofNat n) ∧ (getW 3 7).g t = .int .i64 (Int.ofNat n) ∧ (getW 3 10).g t = .int .i64 (Int.ofNat b3) ∧ (getW 3 11).g t = .int .i64 (Int.ofNat a3) ∧ (getW 3 88).g t = .bool true) ⟨rfl, rfl, rfl, rfl, rfl, rfl⟩ ?_
    rintro t ⟨fc0, fc3, fc7, fc10, fc11, fc88⟩
    obtain ⟨⟨⟨a0, a64, a128, a192, a256, a320, a384, a448⟩, g1_8, g1_16, ⟨a24, a88, a152, a216, a280, a344, a408, a472⟩, g1_32, g1_40, g1_48, g1_56⟩, g2_1, ⟨g1_2, ⟨a10, a74, a138, a202, a266, a330, a394, a458⟩, g1_18, g1_26, g1_34, g1_42, g1_50, g1_58⟩, ⟨⟨a3, a67, a131, a195, a259, a323, a387, a451⟩, ⟨a11, a75, a139, a203, a267, a331, a395, a459⟩, g1_19, g1_27, g1_35, g1_43, g1_51, g1_59⟩, g2_4, g2_5, g2_6, ⟨⟨a7, a71, a135, a199, a263, a327, a391, a455⟩, g1_15, g1_23, g1_31, g1_39, g1_47, g1_55, g1_63⟩⟩ := t
    have fc0 : _ = a0 := Eq.symm fc0
    have fc3 : _ = a3 := Eq.symm fc3
    have fc7 : _ = a7 := Eq.symm fc7
    have fc10 : _ = a10 := Eq.symm fc10
    have fc11 : _ = a11 := Eq.symm fc11
    have fc88 : _ = a88 := Eq.symm fc88
    subst fc0 fc3 fc7 fc10 fc11 fc88
    refine step_yes rfl rfl rfl rfl rfl (fun _ => rfl) ?_
    refine step_yes rfl rfl rfl rfl rfl (fun _ => rfl) ?_
    refine step_yes (v := .bool true) rfl rfl rfl rfl rfl (fun K' => congrArg (fun c => K' (.bool c)) (iEq_self _)) ?_
    refine step_yes rfl rfl rfl rfl rfl (fun _ => rfl) ?_
    refine step_no rfl rfl rfl rfl ?_
    refine ops_forget (fun t => (getW 3 0).g t = .int .u32 (Int.ofNat q) ∧ (getW 3 7).g t = .int .i64 (Int.ofNat n) ∧ (getW 3 10).g t = .int .i64 (Int.ofNat b3) ∧ (getW 3 11).g t = .int .i64 (Int.ofNat a3) ∧ (getW 3 88).g t = .bool true ∧ (getW 3 92).g t = .bool true ∧ (getW 3 93).g t = undef) ⟨rfl, rfl, rfl, rfl, rfl, rfl, rfl⟩ ?_
    rintro t ⟨fc0, fc7, fc10, fc11, fc88, fc92, fc93⟩
    obtain ⟨⟨⟨a0, a64, a128, a192, a256, a320, a384, a448⟩, g1_8, g1_16, ⟨a24, a88, a152, a216, a280, a344, a408, a472⟩, g1_32, g1_40, g1_48, g1_56⟩, g2_1, ⟨g1_2, ⟨a10, a74, a138, a202, a266, a330, a394, a458⟩, g1_18, g1_26, g1_34, g1_42, g1_50, g1_58⟩, ⟨g1_3, ⟨a11, a75, a139, a203, a267, a331, a395, a459⟩, g1_19, g1_27, g1_35, g1_43, g1_51, g1_59⟩, ⟨g1_4, g1_12, g1_20, ⟨a28, a92, a156, a220, a284, a348, a412, a476⟩, g1_36, g1_44, g1_52, g1_60⟩, ⟨g1_5, g1_13, g1_21, ⟨a29, a93, a157, a221, a285, a349, a413, a477⟩, g1_37, g1_45, g1_53, g1_61⟩, g2_6, ⟨⟨a7, a71, a135, a199, a263, a327, a391, a455⟩, g1_15, g1_23, g1_31, g1_39, g1_47, g1_55, g1_63⟩⟩ := t
    have fc0 : _ = a0 := Eq.symm fc0
    have fc7 : _ = a7 := Eq.symm fc7
    have fc10 : _ = a10 := Eq.symm fc10
    have fc11 : _ = a11 := Eq.symm fc11
    have fc88 : _ = a88 := Eq.symm fc88
    have fc92 : _ = a92 := Eq.symm fc92
    have fc93 : _ = a93 := Eq.symm fc93
    subst fc0 fc7 fc10 fc11 fc88 fc92 fc93
    refine step_no rfl rfl rfl rfl ?_
    refine step_no rfl rfl rfl rfl ?_
    refine step_no rfl rfl rfl rfl ?_
    refine step_no rfl rfl rfl rfl ?_
    refine step_no rfl rfl rfl rfl ?_
    refine ops_forget (fun t => (getW 3 0).g t = .int .u32 (Int.ofNat q) ∧ (getW 3 10).g t = .int .i64 (Int.ofNat b3) ∧ (getW 3 11).g t = .int .i64 (Int.ofNat a3) ∧ (getW 3 88).g t = .bool true ∧ (getW 3 92).g t = .bool true ∧ (getW 3 98).g t = undef) ⟨rfl, rfl, rfl, rfl, rfl, rfl⟩ ?_
    rintro t ⟨fc0, fc10, fc11, fc88, fc92, fc98⟩
    obtain ⟨⟨⟨a0, a64, a128, a192, a256, a320, a384, a448⟩, g1_8, g1_16, ⟨a24, a88, a152, a216, a280, a344, a408, a472⟩, g1_32, g1_40, g1_48, g1_56⟩, g2_1, ⟨g1_2, ⟨a10, a74, a138, a202, a266, a330, a394, a458⟩, g1_18, g1_26, ⟨a34, a98, a162, a226, a290, a354, a418, a482⟩, g1_42, g1_50, g1_58⟩, ⟨g1_3, ⟨a11, a75, a139, a203, a267, a331, a395, a459⟩, g1_19, g1_27, g1_35, g1_43, g1_51, g1_59⟩, ⟨g1_4, g1_12, g1_20, ⟨a28, a92, a156, a220, a284, a348, a412, a476⟩, g1_36, g1_44, g1_52, g1_60⟩, g2_5, g2_6, g2_7⟩ := t
    have fc0 : _ = a0 := Eq.symm fc0
    have fc10 : _ = a10 := Eq.symm fc10
    have fc11 : _ = a11 := Eq.symm fc11
    have fc88 : _ = a88 := Eq.symm fc88
    have fc92 : _ = a92 := Eq.symm fc92
    have fc98 : _ = a98 := Eq.symm fc98
    subst fc0 fc10 fc11 fc88 fc92 fc98
    refine step_yes rfl rfl rfl rfl rfl (fun _ => rfl) ?_
    refine step_sil rfl rfl rfl (fun _ => rfl) ?_
    refine step_sil rfl rfl rfl (fun _ => rfl) ?_
    refine step_yes rfl rfl rfl rfl rfl (fun _ => rfl) ?_
    refine step_yes rfl rfl rfl rfl rfl (fun _ => rfl) ?_
    refine ops_forget (fun t => (getW 3 0).g t = .int .u32 (Int.ofNat q) ∧ (getW 3 10).g t = .int .i64 (Int.ofNat b3) ∧ (getW 3 11).g t = .int .i64 (Int.ofNat a3) ∧ (getW 3 101).g t = .bool true ∧ (getW 3 102).g t = .int .i64 (Int.ofNat b3) ∧ (getW 3 103).g t = .int .i64 (Int.ofNat b3)) ⟨rfl, rfl, rfl, rfl, rfl, rfl⟩ ?_
    rintro t ⟨fc0, fc10, fc11, fc101, fc102, fc103⟩
    obtain ⟨⟨⟨a0, a64, a128, a192, a256, a320, a384, a448⟩, g1_8, g1_16, g1_24, g1_32, g1_40, g1_48, g1_56⟩, g2_1, ⟨g1_2, ⟨a10, a74, a138, a202, a266, a330, a394, a458⟩, g1_18, g1_26, g1_34, g1_42, g1_50, g1_58⟩, ⟨g1_3, ⟨a11, a75, a139, a203, a267, a331, a395, a459⟩, g1_19, g1_27, g1_35, g1_43, g1_51, g1_59⟩, g2_4, ⟨g1_5, g1_13, g1_21, g1_29, ⟨a37, a101, a165, a229, a293, a357, a421, a485⟩, g1_45, g1_53, g1_61⟩, ⟨g1_6, g1_14, g1_22, g1_30, ⟨a38, a102, a166, a230, a294, a358, a422, a486⟩, g1_46, g1_54, g1_62⟩, ⟨g1_7, g1_15, g1_23, g1_31, ⟨a39, a103, a167, a231, a295, a359, a423, a487⟩, g1_47, g1_55, g1_63⟩⟩ := t
    have fc0 : _ = a0 := Eq.symm fc0
    have fc10 : _ = a10 := Eq.symm fc10
    have fc11 : _ = a11 := Eq.symm fc11
    have fc101 : _ = a101 := Eq.symm fc101
    have fc102 : _ = a102 := Eq.symm fc102
    have fc103 : _ = a103 := Eq.symm fc103
    subst fc0 fc10 fc11 fc101 fc102 fc103
    refine step_yes (v := .int .i64 (Int.ofNat (b3 * b3))) rfl rfl rfl rfl rfl (fun K' => congrArg (fun x => K' (.int .i64 x)) (w6)) ?_
    refine step_yes rfl rfl rfl rfl rfl (fun _ => rfl) ?_
    refine step_yes (v := .int .i64 (Int.ofNat q)) rfl rfl rfl rfl rfl (fun K' => congrArg (fun x => K' (.int .i64 x)) (w3)) ?_
    refine step_yes (v := .bool true) rfl rfl rfl rfl rfl (fun K' => congrArg (fun c => K' (.bool (!c))) (l6)) ?_
    refine step_sil rfl rfl rfl (fun _ => rfl) ?_
    refine ops_forget (fun t => (getW 3 0).g t = .int .u32 (Int.ofNat q) ∧ (getW 3 10).g t = .int .i64 (Int.ofNat b3) ∧ (getW 3 11).g t = .int .i64 (Int.ofNat a3) ∧ (getW 3 108).g t = .bool true) ⟨rfl, rfl, rfl, rfl⟩ ?_
    rintro t ⟨fc0, fc10, fc11, fc108⟩
    obtain ⟨⟨⟨a0, a64, a128, a192, a256, a320, a384, a448⟩, g1_8, g1_16, g1_24, g1_32, g1_40, g1_48, g1_56⟩, g2_1, ⟨g1_2, ⟨a10, a74, a138, a202, a266, a330, a394, a458⟩, g1_18, g1_26, g1_34, g1_42, g1_50, g1_58⟩, ⟨g1_3, ⟨a11, a75, a139, a203, a267, a331, a395, a459⟩, g1_19, g1_27, g1_35, g1_43, g1_51, g1_59⟩, ⟨g1_4, g1_12, g1_20, g1_28, g1_36, ⟨a44, a108, a172, a236, a300, a364, a428, a492⟩, g1_52, g1_60⟩, g2_5, g2_6, g2_7⟩ := t
    have fc0 : _ = a0 := Eq.symm fc0
    have fc10 : _ = a10 := Eq.symm fc10
    have fc11 : _ = a11 := Eq.symm fc11
    have fc108 : _ = a108 := Eq.symm fc108
    subst fc0 fc10 fc11 fc108
    refine step_sil rfl rfl rfl (fun _ => rfl) ?_
    refine step_yes rfl rfl rfl rfl rfl (fun _ => rfl) ?_
    refine step_yes (v := .int .i64 (Int.ofNat (b3 + 1))) rfl rfl rfl rfl rfl (fun K' => congrArg (fun x => K' (.int .i64 x)) (w4)) ?_
    refine step_yes rfl rfl rfl rfl rfl (fun _ => rfl) ?_
    refine step_yes (v := .int .i64 (Int.ofNat (b3 + 1))) rfl rfl rfl rfl rfl (fun K' => congrArg (fun x => K' (.int .i64 x)) (w4)) ?_
    refine ops_forget (fun t => (getW 3 0).g t = .int .u32 (Int.ofNat q) ∧ (getW 3 10).g t = .int .i64 (Int.ofNat b3) ∧ (getW 3 11).g t = .int .i64 (Int.ofNat a3) ∧ (getW 3 109).g t = .bool true ∧ (getW 3 111).g t = .int .i64 (Int.ofNat (b3 + 1)) ∧ (getW 3 113).g t = .int .i64 (Int.ofNat (b3 + 1))) ⟨rfl, rfl, rfl, rfl, rfl, rfl⟩ ?_
    rintro t ⟨fc0, fc10, fc11, fc109, fc111, fc113⟩
    obtain ⟨⟨⟨a0, a64, a128, a192, a256, a320, a384, a448⟩, g1_8, g1_16, g1_24, g1_32, g1_40, g1_48, g1_56⟩, ⟨g1_1, g1_9, g1_17, g1_25, g1_33, g1_41, ⟨a49, a113, a177, a241, a305, a369, a433, a497⟩, g1_57⟩, ⟨g1_2, ⟨a10, a74, a138, a202, a266, a330, a394, a458⟩, g1_18, g1_26, g1_34, g1_42, g1_50, g1_58⟩, ⟨g1_3, ⟨a11, a75, a139, a203, a267, a331, a395, a459⟩, g1_19, g1_27, g1_35, g1_43, g1_51, g1_59⟩, g2_4, ⟨g1_5, g1_13, g1_21, g1_29, g1_37, ⟨a45, a109, a173, a237, a301, a365, a429, a493⟩, g1_53, g1_61⟩, g2_6, ⟨g1_7, g1_15, g1_23, g1_31, g1_39, ⟨a47, a111, a175, a239, a303, a367, a431, a495⟩, g1_55, g1_63⟩⟩ := t
    have fc0 : _ = a0 := Eq.symm fc0
    have fc10 : _ = a10 := Eq.symm fc10
    have fc11 : _ = a11 := Eq.symm fc11
    have fc109 : _ = a109 := Eq.symm fc109
    have fc111 : _ = a111 := Eq.symm fc111
    have fc113 : _ = a113 := Eq.symm fc113
    subst fc0 fc10 fc11 fc109 fc111 fc113
    refine step_yes (v := .int .i64 (Int.ofNat ((b3 + 1) * (b3 + 1)))) rfl rfl rfl rfl rfl (fun K' => congrArg (fun x => K' (.int .i64 x)) (w7)) ?_
    refine step_yes rfl rfl rfl rfl rfl (fun _ => rfl) ?_
    refine step_yes (v := .int .i64 (Int.ofNat q)) rfl rfl rfl rfl rfl (fun K' => congrArg (fun x => K' (.int .i64 x)) (w3)) ?_
    refine step_yes (v := .bool true) rfl rfl rfl rfl rfl (fun K' => congrArg (fun c => K' (.bool c)) (l7)) ?_
    refine step_sil rfl rfl rfl (fun _ => rfl) ?_
    refine ops_forget (fun t => (getW 3 0).g t = .int .u32 (Int.ofNat q) ∧ (getW 3 10).g t = .int .i64 (Int.ofNat b3) ∧ (getW 3 11).g t = .int .i64 (Int.ofNat a3) ∧ (getW 3 118).g t = .bool true) ⟨rfl, rfl, rfl, rfl⟩ ?_
    rintro t ⟨fc0, fc10, fc11, fc118⟩
    obtain ⟨⟨⟨a0, a64, a128, a192, a256, a320, a384, a448⟩, g1_8, g1_16, g1_24, g1_32, g1_40, g1_48, g1_56⟩, g2_1, ⟨g1_2, ⟨a10, a74, a138, a202, a266, a330, a394, a458⟩, g1_18, g1_26, g1_34, g1_42, g1_50, g1_58⟩, ⟨g1_3, ⟨a11, a75, a139, a203, a267, a331, a395, a459⟩, g1_19, g1_27, g1_35, g1_43, g1_51, g1_59⟩, g2_4, g2_5, ⟨g1_6, g1_14, g1_22, g1_30, g1_38, g1_46, ⟨a54, a118, a182, a246, a310, a374, a438, a502⟩, g1_62⟩, g2_7⟩ := t
    have fc0 : _ = a0 := Eq.symm fc0
    have fc10 : _ = a10 := Eq.symm fc10
    have fc11 : _ = a11 := Eq.symm fc11
    have fc118 : _ = a118 := Eq.symm fc118
    subst fc0 fc10 fc11 fc118
    refine step_sil rfl rfl rfl (fun _ => rfl) ?_
    refine step_yes rfl rfl rfl rfl rfl (fun _ => rfl) ?_
    refine step_yes rfl rfl rfl rfl rfl (fun _ => rfl) ?_
    refine step_yes (v := .bool y) rfl rfl rfl rfl rfl (fun K' => congrArg (fun c => K' (.bool c)) (y1)) ?_
    refine step_yes rfl rfl rfl rfl rfl (fun _ => rfl) ?_
    refine ops_forget (fun t => (getW 3 0).g t = .int .u32 (Int.ofNat q) ∧ (getW 3 10).g t = .int .i64 (Int.ofNat b3) ∧ (getW 3 119).g t = .bool true ∧ (getW 3 122).g t = .bool y ∧ (getW 3 123).g t = .int .i64 (Int.ofNat b3)) ⟨rfl, rfl, rfl, rfl, rfl⟩ ?_
    rintro t ⟨fc0, fc10, fc119, fc122, fc123⟩
    obtain ⟨⟨⟨a0, a64, a128, a192, a256, a320, a384, a448⟩, g1_8, g1_16, g1_24, g1_32, g1_40, g1_48, g1_56⟩, g2_1, ⟨g1_2, ⟨a10, a74, a138, a202, a266, a330, a394, a458⟩, g1_18, g1_26, g1_34, g1_42, g1_50, ⟨a58, a122, a186, a250, a314, a378, a442, a506⟩⟩, ⟨g1_3, g1_11, g1_19, g1_27, g1_35, g1_43, g1_51, ⟨a59, a123, a187, a251, a315, a379, a443, a507⟩⟩, g2_4, g2_5, g2_6, ⟨g1_7, g1_15, g1_23, g1_31, g1_39, g1_47, ⟨a55, a119, a183, a247, a311, a375, a439, a503⟩, g1_63⟩⟩ := t
    have fc0 : _ = a0 := Eq.symm fc0
    have fc10 : _ = a10 := Eq.symm fc10
    have fc119 : _ = a119 := Eq.symm fc119
    have fc122 : _ = a122 := Eq.symm fc122
    have fc123 : _ = a123 := Eq.symm fc123
    subst fc0 fc10 fc119 fc122 fc123
    refine step_yes rfl rfl rfl rfl rfl (fun _ => rfl) ?_
    refine step_yes (v := .int .i64 (Int.ofNat (b3 * b3))) rfl rfl rfl rfl rfl (fun K' => congrArg (fun x => K' (.int .i64 x)) (w6)) ?_
    refine step_yes rfl rfl rfl rfl rfl (fun _ => rfl) ?_
    refine step_yes (v := .int .i64 (Int.ofNat q)) rfl rfl rfl rfl rfl (fun K' => congrArg (fun x => K' (.int .i64 x)) (w3)) ?_
    refine step_yes (v := .bool y) rfl rfl rfl rfl rfl (fun K' => congrArg (fun c => K' (.bool c)) (y2)) ?_
    refine ops_forget (fun t => (getW 3 119).g t = .bool true ∧ (getW 3 122).g t = .bool y ∧ (getW 3 128).g t = .bool y) ⟨rfl, rfl, rfl⟩ ?_
    rintro t ⟨fc119, fc122, fc128⟩
    obtain ⟨⟨⟨a0, a64, a128, a192, a256, a320, a384, a448⟩, g1_8, g1_16, g1_24, g1_32, g1_40, g1_48, g1_56⟩, g2_1, ⟨g1_2, g1_10, g1_18, g1_26, g1_34, g1_42, g1_50, ⟨a58, a122, a186, a250, a314, a378, a442, a506⟩⟩, g2_3, g2_4, g2_5, g2_6, ⟨g1_7, g1_15, g1_23, g1_31, g1_39, g1_47, ⟨a55, a119, a183, a247, a311, a375, a439, a503⟩, g1_63⟩⟩ := t
    have fc119 : _ = a119 := Eq.symm fc119
    have fc122 : _ = a122 := Eq.symm fc122
    have fc128 : _ = a128 := Eq.symm fc128
    subst fc119 fc122 fc128
    refine step_yes (v := .bool true) rfl rfl rfl rfl rfl (fun K' => by cases y <;> rfl) ?_
    refine step_sil rfl rfl rfl (fun _ => rfl) ?_
    refine step_sil rfl rfl rfl (fun _ => rfl) ?_
    refine step_call_yes rfl rfl rfl rfl rfl ?_
    refine Eq.trans (callF_B_w rfl _ _) ?_
    refine ops_forget (fun t => (getW 3 131).g t = .bool true ∧ (getW 3 132).g t = .bool true) ⟨rfl, rfl⟩ ?_
    rintro t ⟨fc131, fc132⟩
    obtain ⟨g2_0, g2_1, g2_2, ⟨⟨a3, a67, a131, a195, a259, a323, a387, a451⟩, g1_11, g1_19, g1_27, g1_35, g1_43, g1_51, g1_59⟩, ⟨⟨a4, a68, a132, a196, a260, a324, a388, a452⟩, g1_12, g1_20, g1_28, g1_36, g1_44, g1_52, g1_60⟩, g2_5, g2_6, g2_7⟩ := t
    have fc131 : _ = a131 := Eq.symm fc131
    have fc132 : _ = a132 := Eq.symm fc132
    subst fc131 fc132
    refine step_sil rfl rfl rfl (fun _ => rfl) ?_
    refine step_sil rfl rfl rfl (fun _ => rfl) ?_
    refine Eq.trans ops_nil ?_
    refine run_forget (fun t => (getW 3 2).g t = .bool true) rfl ?_
    rintro t fc2
    obtain ⟨g2_0, g2_1, ⟨⟨a2, a66, a130, a194, a258, a322, a386, a450⟩, g1_10, g1_18, g1_26, g1_34, g1_42, g1_50, g1_58⟩, g2_3, g2_4, g2_5, g2_6, g2_7⟩ := t
    have fc2 : _ = a2 := Eq.symm fc2
    subst fc2
    refine Eq.trans run_ret ?_
    exact hK _ _ rfl
end Go.Proofs.Ytmmaccdkinlclaa
