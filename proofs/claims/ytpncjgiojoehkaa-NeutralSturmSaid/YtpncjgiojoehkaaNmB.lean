/- Neutral: texts J K L H N O P Q R. -/
import Derived.Test.YtpncjgiojoehkaaNmA
import Derived.KernelRfl
namespace Go.Proofs.Ytpncjgiojoehkaa
open Go.Ab
attribute [local irreducible] aggOk drwOK
set_option maxRecDepth 100000
set_option maxHeartbeats 4000000
set_option linter.unusedVariables false
set_option linter.unusedSimpArgs false
theorem c75_2 (F d c2 : Nat) (hF : 200 < F) (ac ad0 ad1 : Option Addr) (n0 n1 : Nat) (l0 l1 : List Int) (hl0 : l0.length = n0) (hn0 : n0 ≤ 20) (hl1 : l1.length = n1) (hn1 : n1 ≤ 20) (x y : Int) (bp bx bc : Nat) : IterC (CL F (d + 3)) (CL F (d + 6)) (.fn 75 [] [.ptr 925 bp 0, .ptr 926 bx 0]) [(925, .own bp 84 [.fn 76 [] [.ptr 924 bc 0]]), (926, .own bx 24 [.int .i64 x, .int .i64 y]), (924, .own bc 77 [.sl 900 ac 2 2]), (900, .gr ac 2 71 1 (elS [.sl 901 ad0 n0 n0, .sl 902 ad1 n1 n1])), (901, .gr ad0 n0 3 1 (pf l0)), (902, .gr ad1 n1 3 1 (pf l1))] ((c2 + 2500) * 2 + 200) c2 2 (fun k => [.int .i64 (sgP ([l0, l1].getD k []) x y)]) := by
  intro i b I Q hr m hI R
  rw [addL_eq, ← Nat.add_assoc, ← addL_eq _ 200, Nat.add_comm R]
  have k38_0 := fun a c => c38 F d hF a n0 c hn0 l0 hl0 x y
  have k38_1 := fun a c => c38 F d hF a n1 c hn1 l1 hl1 x y
  refine call_in (n := 13) Try.func75 rfl rfl rfl rfl rfl rfl rfl ?_
  repeat' ((conv => whnf); first | refine eqS_rfl ?_ | refine eqA_rfl ?_ | refine eqA_of (by assumption) ?_ | refine eqS_of (by rfl) ?_ | refine eqL_rfl ?_ | refine eqJ_rfl ?_ | refine gE ?_ | refine seS_rfl ?_ | refine lsS_of hup ?_ | refine lsS_rfl ?_ | refine brS_tt ?_ | refine brS_ff ?_ | refine brS_not ?_ | refine gI ?_ | refine gT ?_ | refine gF ?_ | refine brS_intro (fun _ => ?_) (fun _ => ?_) | refine gL ?_ | refine gX ?_ | refine gO ?_ | refine gN ?_ | refine gM ?_ | refine gY ?_ | refine loS_u 3 (by omega) ?_ | refine call_readL (k38_0 _ _) (addL (((c2 + 2500) * 1 + R) + c2 + 200) 60) (by rfl) (by exact SeesM.cons 900 (sees_gr (i := 901) (by rfl)) (SeesM.nil _) (fun _ _ _ _ _ _ x hx => by cases hx)) (nM1) ?_ | refine call_round (k := 0) (by assumption) (hr 0 (by omega)) [_, _, _, _, _, _, _, _, _] (addL (((c2 + 2500) * 1 + R) + 100) 60) (by rfl) (by exact WkM.refl _) (nM1) ?_ ?_ | refine call_readL (k38_1 _ _) (addL (((c2 + 2500) * 0 + R) + c2 + 200) 60) (by rfl) (by exact SeesM.cons 900 (sees_gr (i := 902) (by rfl)) (SeesM.nil _) (fun _ _ _ _ _ _ x hx => by cases hx)) (nM1) ?_ | refine call_round (k := 1) (by assumption) (hr 1 (by omega)) [_, _, _, _, _, _, _, _, _] (addL (((c2 + 2500) * 0 + R) + 100) 60) (by rfl) (by exact WkM.refl _) (nM1) ?_ ?_ | refine call_yield ?_ | refine call_in (n := 16) Try.func76 rfl rfl rfl rfl rfl rfl rfl ?_ | intro _)
  all_goals conv => whnf
  all_goals exact ⟨nM1, _, by repeat' (first | exact WkM.comm [(925, _), (926, _), (924, _), (900, _), (901, _), (902, _)] _ | refine WkM.drop ?_), by first | exact .inl (by assumption) | exact .inr (by assumption)⟩
theorem c75_3 (F d c2 : Nat) (hF : 200 < F) (ac ad0 ad1 ad2 : Option Addr) (n0 n1 n2 : Nat) (l0 l1 l2 : List Int) (hl0 : l0.length = n0) (hn0 : n0 ≤ 20) (hl1 : l1.length = n1) (hn1 : n1 ≤ 20) (hl2 : l2.length = n2) (hn2 : n2 ≤ 20) (x y : Int) (bp bx bc : Nat) : IterC (CL F (d + 3)) (CL F (d + 6)) (.fn 75 [] [.ptr 925 bp 0, .ptr 926 bx 0]) [(925, .own bp 84 [.fn 76 [] [.ptr 924 bc 0]]), (926, .own bx 24 [.int .i64 x, .int .i64 y]), (924, .own bc 77 [.sl 900 ac 3 3]), (900, .gr ac 3 71 1 (elS [.sl 901 ad0 n0 n0, .sl 902 ad1 n1 n1, .sl 903 ad2 n2 n2])), (901, .gr ad0 n0 3 1 (pf l0)), (902, .gr ad1 n1 3 1 (pf l1)), (903, .gr ad2 n2 3 1 (pf l2))] ((c2 + 2500) * 3 + 200) c2 3 (fun k => [.int .i64 (sgP ([l0, l1, l2].getD k []) x y)]) := by
  intro i b I Q hr m hI R
  rw [addL_eq, ← Nat.add_assoc, ← addL_eq _ 200, Nat.add_comm R]
  have k38_0 := fun a c => c38 F d hF a n0 c hn0 l0 hl0 x y
  have k38_1 := fun a c => c38 F d hF a n1 c hn1 l1 hl1 x y
  have k38_2 := fun a c => c38 F d hF a n2 c hn2 l2 hl2 x y
  refine call_in (n := 13) Try.func75 rfl rfl rfl rfl rfl rfl rfl ?_
  repeat' ((conv => whnf); first | refine eqS_rfl ?_ | refine eqA_rfl ?_ | refine eqA_of (by assumption) ?_ | refine eqS_of (by rfl) ?_ | refine eqL_rfl ?_ | refine eqJ_rfl ?_ | refine gE ?_ | refine seS_rfl ?_ | refine lsS_of hup ?_ | refine lsS_rfl ?_ | refine brS_tt ?_ | refine brS_ff ?_ | refine brS_not ?_ | refine gI ?_ | refine gT ?_ | refine gF ?_ | refine brS_intro (fun _ => ?_) (fun _ => ?_) | refine gL ?_ | refine gX ?_ | refine gO ?_ | refine gN ?_ | refine gM ?_ | refine gY ?_ | refine loS_u 4 (by omega) ?_ | refine call_readL (k38_0 _ _) (addL (((c2 + 2500) * 2 + R) + c2 + 200) 60) (by rfl) (by exact SeesM.cons 900 (sees_gr (i := 901) (by rfl)) (SeesM.nil _) (fun _ _ _ _ _ _ x hx => by cases hx)) (nM1) ?_ | refine call_round (k := 0) (by assumption) (hr 0 (by omega)) [_, _, _, _, _, _, _, _, _, _] (addL (((c2 + 2500) * 2 + R) + 100) 60) (by rfl) (by exact WkM.refl _) (nM1) ?_ ?_ | refine call_readL (k38_1 _ _) (addL (((c2 + 2500) * 1 + R) + c2 + 200) 60) (by rfl) (by exact SeesM.cons 900 (sees_gr (i := 902) (by rfl)) (SeesM.nil _) (fun _ _ _ _ _ _ x hx => by cases hx)) (nM1) ?_ | refine call_round (k := 1) (by assumption) (hr 1 (by omega)) [_, _, _, _, _, _, _, _, _, _] (addL (((c2 + 2500) * 1 + R) + 100) 60) (by rfl) (by exact WkM.refl _) (nM1) ?_ ?_ | refine call_readL (k38_2 _ _) (addL (((c2 + 2500) * 0 + R) + c2 + 200) 60) (by rfl) (by exact SeesM.cons 900 (sees_gr (i := 903) (by rfl)) (SeesM.nil _) (fun _ _ _ _ _ _ x hx => by cases hx)) (nM1) ?_ | refine call_round (k := 2) (by assumption) (hr 2 (by omega)) [_, _, _, _, _, _, _, _, _, _] (addL (((c2 + 2500) * 0 + R) + 100) 60) (by rfl) (by exact WkM.refl _) (nM1) ?_ ?_ | refine call_yield ?_ | refine call_in (n := 16) Try.func76 rfl rfl rfl rfl rfl rfl rfl ?_ | intro _)
  all_goals conv => whnf
  all_goals exact ⟨nM1, _, by repeat' (first | exact WkM.comm [(925, _), (926, _), (924, _), (900, _), (901, _), (902, _), (903, _)] _ | refine WkM.drop ?_), by first | exact .inl (by assumption) | exact .inr (by assumption)⟩
theorem c75_4 (F d c2 : Nat) (hF : 200 < F) (ac ad0 ad1 ad2 ad3 : Option Addr) (n0 n1 n2 n3 : Nat) (l0 l1 l2 l3 : List Int) (hl0 : l0.length = n0) (hn0 : n0 ≤ 20) (hl1 : l1.length = n1) (hn1 : n1 ≤ 20) (hl2 : l2.length = n2) (hn2 : n2 ≤ 20) (hl3 : l3.length = n3) (hn3 : n3 ≤ 20) (x y : Int) (bp bx bc : Nat) : IterC (CL F (d + 3)) (CL F (d + 6)) (.fn 75 [] [.ptr 925 bp 0, .ptr 926 bx 0]) [(925, .own bp 84 [.fn 76 [] [.ptr 924 bc 0]]), (926, .own bx 24 [.int .i64 x, .int .i64 y]), (924, .own bc 77 [.sl 900 ac 4 4]), (900, .gr ac 4 71 1 (elS [.sl 901 ad0 n0 n0, .sl 902 ad1 n1 n1, .sl 903 ad2 n2 n2, .sl 904 ad3 n3 n3])), (901, .gr ad0 n0 3 1 (pf l0)), (902, .gr ad1 n1 3 1 (pf l1)), (903, .gr ad2 n2 3 1 (pf l2)), (904, .gr ad3 n3 3 1 (pf l3))] ((c2 + 2500) * 4 + 200) c2 4 (fun k => [.int .i64 (sgP ([l0, l1, l2, l3].getD k []) x y)]) := by
  intro i b I Q hr m hI R
  rw [addL_eq, ← Nat.add_assoc, ← addL_eq _ 200, Nat.add_comm R]
  have k38_0 := fun a c => c38 F d hF a n0 c hn0 l0 hl0 x y
  have k38_1 := fun a c => c38 F d hF a n1 c hn1 l1 hl1 x y
  have k38_2 := fun a c => c38 F d hF a n2 c hn2 l2 hl2 x y
  have k38_3 := fun a c => c38 F d hF a n3 c hn3 l3 hl3 x y
  refine call_in (n := 13) Try.func75 rfl rfl rfl rfl rfl rfl rfl ?_
  repeat' ((conv => whnf); first | refine eqS_rfl ?_ | refine eqA_rfl ?_ | refine eqA_of (by assumption) ?_ | refine eqS_of (by rfl) ?_ | refine eqL_rfl ?_ | refine eqJ_rfl ?_ | refine gE ?_ | refine seS_rfl ?_ | refine lsS_of hup ?_ | refine lsS_rfl ?_ | refine brS_tt ?_ | refine brS_ff ?_ | refine brS_not ?_ | refine gI ?_ | refine gT ?_ | refine gF ?_ | refine brS_intro (fun _ => ?_) (fun _ => ?_) | refine gL ?_ | refine gX ?_ | refine gO ?_ | refine gN ?_ | refine gM ?_ | refine gY ?_ | refine loS_u 5 (by omega) ?_ | refine call_readL (k38_0 _ _) (addL (((c2 + 2500) * 3 + R) + c2 + 200) 60) (by rfl) (by exact SeesM.cons 900 (sees_gr (i := 901) (by rfl)) (SeesM.nil _) (fun _ _ _ _ _ _ x hx => by cases hx)) (nM1) ?_ | refine call_round (k := 0) (by assumption) (hr 0 (by omega)) [_, _, _, _, _, _, _, _, _, _, _] (addL (((c2 + 2500) * 3 + R) + 100) 60) (by rfl) (by exact WkM.refl _) (nM1) ?_ ?_ | refine call_readL (k38_1 _ _) (addL (((c2 + 2500) * 2 + R) + c2 + 200) 60) (by rfl) (by exact SeesM.cons 900 (sees_gr (i := 902) (by rfl)) (SeesM.nil _) (fun _ _ _ _ _ _ x hx => by cases hx)) (nM1) ?_ | refine call_round (k := 1) (by assumption) (hr 1 (by omega)) [_, _, _, _, _, _, _, _, _, _, _] (addL (((c2 + 2500) * 2 + R) + 100) 60) (by rfl) (by exact WkM.refl _) (nM1) ?_ ?_ | refine call_readL (k38_2 _ _) (addL (((c2 + 2500) * 1 + R) + c2 + 200) 60) (by rfl) (by exact SeesM.cons 900 (sees_gr (i := 903) (by rfl)) (SeesM.nil _) (fun _ _ _ _ _ _ x hx => by cases hx)) (nM1) ?_ | refine call_round (k := 2) (by assumption) (hr 2 (by omega)) [_, _, _, _, _, _, _, _, _, _, _] (addL (((c2 + 2500) * 1 + R) + 100) 60) (by rfl) (by exact WkM.refl _) (nM1) ?_ ?_ | refine call_readL (k38_3 _ _) (addL (((c2 + 2500) * 0 + R) + c2 + 200) 60) (by rfl) (by exact SeesM.cons 900 (sees_gr (i := 904) (by rfl)) (SeesM.nil _) (fun _ _ _ _ _ _ x hx => by cases hx)) (nM1) ?_ | refine call_round (k := 3) (by assumption) (hr 3 (by omega)) [_, _, _, _, _, _, _, _, _, _, _] (addL (((c2 + 2500) * 0 + R) + 100) 60) (by rfl) (by exact WkM.refl _) (nM1) ?_ ?_ | refine call_yield ?_ | refine call_in (n := 16) Try.func76 rfl rfl rfl rfl rfl rfl rfl ?_ | intro _)
  all_goals conv => whnf
  all_goals exact ⟨nM1, _, by repeat' (first | exact WkM.comm [(925, _), (926, _), (924, _), (900, _), (901, _), (902, _), (903, _), (904, _)] _ | refine WkM.drop ?_), by first | exact .inl (by assumption) | exact .inr (by assumption)⟩
end Go.Proofs.Ytpncjgiojoehkaa
namespace Go.Proofs.Ytpncjgiojoehkaa
open Go.Ab
attribute [local irreducible] aggOk drwOK
set_option maxRecDepth 100000
set_option maxHeartbeats 4000000
set_option linter.unusedVariables false
set_option linter.unusedSimpArgs false
/-- the last sign that is not 0, and how often signs changed -/
def chN (sg : Nat → Int) : Nat → Int × Nat
  | 0 => (0, 0)
  | k + 1 => if sg k = 0 then ((chN sg k).1, (chN sg k).2) else (sg k, if (chN sg k).1 ≠ 0 ∧ sg k ≠ (chN sg k).1 then (chN sg k).2 + 1 else (chN sg k).2)
theorem chN_le (sg : Nat → Int) : ∀ k, (chN sg k).2 ≤ k
  | 0 => Nat.le_refl 0
  | k + 1 => by
    have := chN_le sg k
    unfold chN
    split
    · exact Nat.le_succ_of_le this
    · show (if (chN sg k).1 ≠ 0 ∧ sg k ≠ (chN sg k).1 then (chN sg k).2 + 1 else (chN sg k).2) ≤ k + 1
      split <;> omega
theorem c47_2 (F d : Nat) (hF : 200 < F) (ac ad0 ad1 : Option Addr) (n0 n1 : Nat) (l0 l1 : List Int) (hl0 : l0.length = n0) (hn0 : n0 ≤ 20) (hl1 : l1.length = n1) (hn1 : n1 ≤ 20) (x y : Int) (bc : Nat) (rest : Mem) (R : Nat) :
    callS (CL F (d + 8)) (.fn 47 [] []) [.fn 76 [] [.ptr 924 bc 0], .agg [.int .i64 x, .int .i64 y]] ([(924, .own bc 77 [.sl 900 ac 2 2]), (900, .gr ac 2 71 1 (elS [.sl 901 ad0 n0 n0, .sl 902 ad1 n1 n1])), (901, .gr ad0 n0 3 1 (pf l0)), (902, .gr ad1 n1 3 1 (pf l1))] ++ rest) (addL R (2700 * 2 + 400 + 100)) 1000 fun w m' R' _ => R ≤ R' ∧ den w = .int .i64 (Int.ofNat (chN (fun k => (sgP ([l0, l1].getD k []) x y)) 2).2) ∧ WkM m' ([(924, .own bc 77 [.sl 900 ac 2 2]), (900, .gr ac 2 71 1 (elS [.sl 901 ad0 n0 n0, .sl 902 ad1 n1 n1])), (901, .gr ad0 n0 3 1 (pf l0)), (902, .gr ad1 n1 3 1 (pf l1))] ++ rest) := by
  rw [addL_eq, show R + (2700 * 2 + 400 + 100) = (2700 * 2 + 400) + R + 100 by omega, ← addL_eq _ 100]
  refine callS.ni 3000 ?_
  refine call_in (n := 7) Try.func47 rfl rfl rfl rfl rfl rfl rfl ?_
  repeat' ((conv => whnf); first | refine eqS_rfl ?_ | refine eqA_rfl ?_ | refine eqA_of (by assumption) ?_ | refine eqS_of (by rfl) ?_ | refine eqL_rfl ?_ | refine eqJ_rfl ?_ | refine gE ?_ | refine seS_rfl ?_ | refine lsS_of hup ?_ | refine lsS_rfl ?_ | refine brS_tt ?_ | refine brS_ff ?_ | refine brS_not ?_ | refine gI ?_ | refine gT ?_ | refine gF ?_ | refine brS_intro (fun _ => ?_) (fun _ => ?_) | refine gL ?_ | refine gX ?_ | refine gO ?_ | refine gN ?_ | refine call_in (n := 24) Try.func74 rfl rfl rfl rfl rfl rfl rfl ?_ | intro _)
  rename_i bp bx b3 b4 b5 b1 b2
  have hcl : ∀ k, k ≤ 2 → (chN (fun k => (sgP ([l0, l1].getD k []) x y)) k).2 ≤ k := fun k _ => chN_le _ k
  refine call_iter2 (c75_2 F d 100 hF ac ad0 ad1 n0 n1 l0 l1 hl0 hn0 hl1 hn1 x y bp bx bc) (fun k m => m = [(3005, lopF Try.f74 0 b2 .ready none 24 [(3, .ptr 3002 b3 0), (4, .ptr 3003 b4 0), (5, .ptr 3004 b5 0)] b1), (dfN, .dfr [b1]), (3002, .own b3 3 [.int .i64 0]), (3003, .own b4 3 [.int .i64 (chN (fun k => (sgP ([l0, l1].getD k []) x y)) k).1]), (3004, .own b5 3 [.int .i64 (Int.ofNat (chN (fun k => (sgP ([l0, l1].getD k []) x y)) k).2)])] ++ rest) (fun _ => False) ([(3005, lopF Try.f74 0 b2 .ready none 24 [(3, .ptr 3002 b3 0), (4, .ptr 3003 b4 0), (5, .ptr 3004 b5 0)] b1), (dfN, .dfr [b1]), (3002, .own b3 3 [.int .i64 0]), (3003, .own b4 3 [.int .i64 (chN (fun k => (sgP ([l0, l1].getD k []) x y)) 0).1]), (3004, .own b5 3 [.int .i64 (Int.ofNat (chN (fun k => (sgP ([l0, l1].getD k []) x y)) 0).2)])] ++ rest) (addL R 60) (by rfl) (by exact (WkM.lop (i := 3005) (j := 3005) (f' := [(3, .ptr 3002 b3 0), (4, .ptr 3003 b4 0), (5, .ptr 3004 b5 0)]) ⟨eqF_rfl _, eqF_rfl _, eqF_rfl _, trivial⟩ (WkM.refl _)).trans WS) rfl ?_ (nM1) ?_
  · rintro k hk _ rfl me' R
    have hck := hcl k (by omega)
    refine call_yield ?_
    obtain ⟨sv, hsv⟩ : ∃ z, z = (sgP ([l0, l1].getD k []) x y) := ⟨_, rfl⟩
    obtain ⟨bv, hbv⟩ : ∃ z, z = (chN (fun k => (sgP ([l0, l1].getD k []) x y)) k).1 := ⟨_, rfl⟩
    obtain ⟨cn, hcn⟩ : ∃ z, z = (chN (fun k => (sgP ([l0, l1].getD k []) x y)) k).2 := ⟨_, rfl⟩
    have hst : chN (fun k => (sgP ([l0, l1].getD k []) x y)) (k + 1) = if sv = 0 then (bv, cn) else (sv, if bv ≠ 0 ∧ sv ≠ bv then cn + 1 else cn) := by rw [hsv, hbv, hcn]; rfl
    rw [← hcn] at hck
    rw [← hsv, ← hbv, ← hcn]
    by_cases h0 : sv = 0
    · have d1 : iEq sv 0 = true := by rw [iEq_eq]; exact decide_eq_true h0
      rw [if_pos h0] at hst
      repeat' ((conv => whnf); first | refine eqS_rfl ?_ | refine eqA_rfl ?_ | refine eqA_of (by assumption) ?_ | refine eqS_of (by rfl) ?_ | refine eqL_rfl ?_ | refine eqJ_rfl ?_ | refine gE ?_ | refine seS_rfl ?_ | refine lsS_of hup ?_ | refine lsS_rfl ?_ | refine brS_tt ?_ | refine brS_ff ?_ | refine brS_not ?_ | refine gI ?_ | refine gT ?_ | refine gF ?_ | refine brS_intro (fun _ => ?_) (fun _ => ?_) | refine gL ?_ | refine gX ?_ | refine gO ?_ | refine gN ?_ | intro _)
      conv => whnf
      exact ⟨nM1, [(3005, lopF Try.f74 0 b2 .ready none 24 [(3, .ptr 3002 b3 0), (4, .ptr 3003 b4 0), (5, .ptr 3004 b5 0)] b1), (dfN, .dfr [b1]), (3002, .own b3 3 [.int .i64 0]), (3003, .own b4 3 [.int .i64 (chN (fun k => (sgP ([l0, l1].getD k []) x y)) (k + 1)).1]), (3004, .own b5 3 [.int .i64 (Int.ofNat (chN (fun k => (sgP ([l0, l1].getD k []) x y)) (k + 1)).2)])] ++ rest, (by rw [hst]; exact WS), .inl ⟨rfl, rfl⟩⟩
    · have d1 : iEq sv 0 = false := by rw [iEq_eq]; exact decide_eq_false h0
      rw [if_neg h0] at hst
      by_cases h1 : bv = 0
      · have d2 : iEq bv 0 = true := by rw [iEq_eq]; exact decide_eq_true h1
        rw [if_neg (fun h => h.1 h1)] at hst
        repeat' ((conv => whnf); first | refine eqS_rfl ?_ | refine eqA_rfl ?_ | refine eqA_of (by assumption) ?_ | refine eqS_of (by rfl) ?_ | refine eqL_rfl ?_ | refine eqJ_rfl ?_ | refine gE ?_ | refine seS_rfl ?_ | refine lsS_of hup ?_ | refine lsS_rfl ?_ | refine brS_tt ?_ | refine brS_ff ?_ | refine brS_not ?_ | refine gI ?_ | refine gT ?_ | refine gF ?_ | refine brS_intro (fun _ => ?_) (fun _ => ?_) | refine gL ?_ | refine gX ?_ | refine gO ?_ | refine gN ?_ | intro _)
        conv => whnf
        exact ⟨nM1, [(3005, lopF Try.f74 0 b2 .ready none 24 [(3, .ptr 3002 b3 0), (4, .ptr 3003 b4 0), (5, .ptr 3004 b5 0)] b1), (dfN, .dfr [b1]), (3002, .own b3 3 [.int .i64 0]), (3003, .own b4 3 [.int .i64 (chN (fun k => (sgP ([l0, l1].getD k []) x y)) (k + 1)).1]), (3004, .own b5 3 [.int .i64 (Int.ofNat (chN (fun k => (sgP ([l0, l1].getD k []) x y)) (k + 1)).2)])] ++ rest, (by rw [hst]; exact WS), .inl ⟨rfl, rfl⟩⟩
      · have d2 : iEq bv 0 = false := by rw [iEq_eq]; exact decide_eq_false h1
        by_cases h2 : sv = bv
        · have d3 : iEq sv bv = true := by rw [iEq_eq]; exact decide_eq_true h2
          rw [if_neg (fun h => h.2 h2)] at hst
          repeat' ((conv => whnf); first | refine eqS_rfl ?_ | refine eqA_rfl ?_ | refine eqA_of (by assumption) ?_ | refine eqS_of (by rfl) ?_ | refine eqL_rfl ?_ | refine eqJ_rfl ?_ | refine gE ?_ | refine seS_rfl ?_ | refine lsS_of hup ?_ | refine lsS_rfl ?_ | refine brS_tt ?_ | refine brS_ff ?_ | refine brS_not ?_ | refine gI ?_ | refine gT ?_ | refine gF ?_ | refine brS_intro (fun _ => ?_) (fun _ => ?_) | refine gL ?_ | refine gX ?_ | refine gO ?_ | refine gN ?_ | intro _)
          conv => whnf
          exact ⟨nM1, [(3005, lopF Try.f74 0 b2 .ready none 24 [(3, .ptr 3002 b3 0), (4, .ptr 3003 b4 0), (5, .ptr 3004 b5 0)] b1), (dfN, .dfr [b1]), (3002, .own b3 3 [.int .i64 0]), (3003, .own b4 3 [.int .i64 (chN (fun k => (sgP ([l0, l1].getD k []) x y)) (k + 1)).1]), (3004, .own b5 3 [.int .i64 (Int.ofNat (chN (fun k => (sgP ([l0, l1].getD k []) x y)) (k + 1)).2)])] ++ rest, (by rw [hst]; exact WS), .inl ⟨rfl, rfl⟩⟩
        · have d3 : iEq sv bv = false := by rw [iEq_eq]; exact decide_eq_false h2
          rw [if_pos ⟨h1, h2⟩] at hst
          have hc1 : wr .i64 (Int.add (Int.ofNat cn) 1) = Int.ofNat (cn + 1) := smn (i := cn + 1) (by omega)
          repeat' ((conv => whnf); first | refine eqS_rfl ?_ | refine eqA_rfl ?_ | refine eqA_of (by assumption) ?_ | refine eqS_of (by rfl) ?_ | refine eqL_rfl ?_ | refine eqJ_rfl ?_ | refine gE ?_ | refine seS_rfl ?_ | refine lsS_of hup ?_ | refine lsS_rfl ?_ | refine brS_tt ?_ | refine brS_ff ?_ | refine brS_not ?_ | refine gI ?_ | refine gT ?_ | refine gF ?_ | refine brS_intro (fun _ => ?_) (fun _ => ?_) | refine gL ?_ | refine gX ?_ | refine gO ?_ | refine gN ?_ | intro _)
          conv => whnf
          exact ⟨nM1, [(3005, lopF Try.f74 0 b2 .ready none 24 [(3, .ptr 3002 b3 0), (4, .ptr 3003 b4 0), (5, .ptr 3004 b5 0)] b1), (dfN, .dfr [b1]), (3002, .own b3 3 [.int .i64 0]), (3003, .own b4 3 [.int .i64 (chN (fun k => (sgP ([l0, l1].getD k []) x y)) (k + 1)).1]), (3004, .own b5 3 [.int .i64 (Int.ofNat (chN (fun k => (sgP ([l0, l1].getD k []) x y)) (k + 1)).2)])] ++ rest, (by rw [hst, ← hc1]; exact WS), .inl ⟨rfl, rfl⟩⟩
  · rintro _ _ (rfl | h)
    · skip
      repeat' ((conv => whnf); first | refine eqS_rfl ?_ | refine eqA_rfl ?_ | refine eqA_of (by assumption) ?_ | refine eqS_of (by rfl) ?_ | refine eqL_rfl ?_ | refine eqJ_rfl ?_ | refine gE ?_ | refine seS_rfl ?_ | refine lsS_of hup ?_ | refine lsS_rfl ?_ | refine brS_tt ?_ | refine brS_ff ?_ | refine brS_not ?_ | refine gI ?_ | refine gT ?_ | refine gF ?_ | refine brS_intro (fun _ => ?_) (fun _ => ?_) | refine gL ?_ | refine gX ?_ | refine gO ?_ | refine gN ?_ | intro _)
      conv => whnf
      exact ⟨nM1, rfl, WS⟩
    · exact h.elim
theorem c47_3 (F d : Nat) (hF : 200 < F) (ac ad0 ad1 ad2 : Option Addr) (n0 n1 n2 : Nat) (l0 l1 l2 : List Int) (hl0 : l0.length = n0) (hn0 : n0 ≤ 20) (hl1 : l1.length = n1) (hn1 : n1 ≤ 20) (hl2 : l2.length = n2) (hn2 : n2 ≤ 20) (x y : Int) (bc : Nat) (rest : Mem) (R : Nat) :
    callS (CL F (d + 8)) (.fn 47 [] []) [.fn 76 [] [.ptr 924 bc 0], .agg [.int .i64 x, .int .i64 y]] ([(924, .own bc 77 [.sl 900 ac 3 3]), (900, .gr ac 3 71 1 (elS [.sl 901 ad0 n0 n0, .sl 902 ad1 n1 n1, .sl 903 ad2 n2 n2])), (901, .gr ad0 n0 3 1 (pf l0)), (902, .gr ad1 n1 3 1 (pf l1)), (903, .gr ad2 n2 3 1 (pf l2))] ++ rest) (addL R (2700 * 3 + 400 + 100)) 1000 fun w m' R' _ => R ≤ R' ∧ den w = .int .i64 (Int.ofNat (chN (fun k => (sgP ([l0, l1, l2].getD k []) x y)) 3).2) ∧ WkM m' ([(924, .own bc 77 [.sl 900 ac 3 3]), (900, .gr ac 3 71 1 (elS [.sl 901 ad0 n0 n0, .sl 902 ad1 n1 n1, .sl 903 ad2 n2 n2])), (901, .gr ad0 n0 3 1 (pf l0)), (902, .gr ad1 n1 3 1 (pf l1)), (903, .gr ad2 n2 3 1 (pf l2))] ++ rest) := by
  rw [addL_eq, show R + (2700 * 3 + 400 + 100) = (2700 * 3 + 400) + R + 100 by omega, ← addL_eq _ 100]
  refine callS.ni 3000 ?_
  refine call_in (n := 7) Try.func47 rfl rfl rfl rfl rfl rfl rfl ?_
  repeat' ((conv => whnf); first | refine eqS_rfl ?_ | refine eqA_rfl ?_ | refine eqA_of (by assumption) ?_ | refine eqS_of (by rfl) ?_ | refine eqL_rfl ?_ | refine eqJ_rfl ?_ | refine gE ?_ | refine seS_rfl ?_ | refine lsS_of hup ?_ | refine lsS_rfl ?_ | refine brS_tt ?_ | refine brS_ff ?_ | refine brS_not ?_ | refine gI ?_ | refine gT ?_ | refine gF ?_ | refine brS_intro (fun _ => ?_) (fun _ => ?_) | refine gL ?_ | refine gX ?_ | refine gO ?_ | refine gN ?_ | refine call_in (n := 24) Try.func74 rfl rfl rfl rfl rfl rfl rfl ?_ | intro _)
  rename_i bp bx b3 b4 b5 b1 b2
  have hcl : ∀ k, k ≤ 3 → (chN (fun k => (sgP ([l0, l1, l2].getD k []) x y)) k).2 ≤ k := fun k _ => chN_le _ k
  refine call_iter2 (c75_3 F d 100 hF ac ad0 ad1 ad2 n0 n1 n2 l0 l1 l2 hl0 hn0 hl1 hn1 hl2 hn2 x y bp bx bc) (fun k m => m = [(3005, lopF Try.f74 0 b2 .ready none 24 [(3, .ptr 3002 b3 0), (4, .ptr 3003 b4 0), (5, .ptr 3004 b5 0)] b1), (dfN, .dfr [b1]), (3002, .own b3 3 [.int .i64 0]), (3003, .own b4 3 [.int .i64 (chN (fun k => (sgP ([l0, l1, l2].getD k []) x y)) k).1]), (3004, .own b5 3 [.int .i64 (Int.ofNat (chN (fun k => (sgP ([l0, l1, l2].getD k []) x y)) k).2)])] ++ rest) (fun _ => False) ([(3005, lopF Try.f74 0 b2 .ready none 24 [(3, .ptr 3002 b3 0), (4, .ptr 3003 b4 0), (5, .ptr 3004 b5 0)] b1), (dfN, .dfr [b1]), (3002, .own b3 3 [.int .i64 0]), (3003, .own b4 3 [.int .i64 (chN (fun k => (sgP ([l0, l1, l2].getD k []) x y)) 0).1]), (3004, .own b5 3 [.int .i64 (Int.ofNat (chN (fun k => (sgP ([l0, l1, l2].getD k []) x y)) 0).2)])] ++ rest) (addL R 60) (by rfl) (by exact (WkM.lop (i := 3005) (j := 3005) (f' := [(3, .ptr 3002 b3 0), (4, .ptr 3003 b4 0), (5, .ptr 3004 b5 0)]) ⟨eqF_rfl _, eqF_rfl _, eqF_rfl _, trivial⟩ (WkM.refl _)).trans WS) rfl ?_ (nM1) ?_
  · rintro k hk _ rfl me' R
    have hck := hcl k (by omega)
    refine call_yield ?_
    obtain ⟨sv, hsv⟩ : ∃ z, z = (sgP ([l0, l1, l2].getD k []) x y) := ⟨_, rfl⟩
    obtain ⟨bv, hbv⟩ : ∃ z, z = (chN (fun k => (sgP ([l0, l1, l2].getD k []) x y)) k).1 := ⟨_, rfl⟩
    obtain ⟨cn, hcn⟩ : ∃ z, z = (chN (fun k => (sgP ([l0, l1, l2].getD k []) x y)) k).2 := ⟨_, rfl⟩
    have hst : chN (fun k => (sgP ([l0, l1, l2].getD k []) x y)) (k + 1) = if sv = 0 then (bv, cn) else (sv, if bv ≠ 0 ∧ sv ≠ bv then cn + 1 else cn) := by rw [hsv, hbv, hcn]; rfl
    rw [← hcn] at hck
    rw [← hsv, ← hbv, ← hcn]
    by_cases h0 : sv = 0
    · have d1 : iEq sv 0 = true := by rw [iEq_eq]; exact decide_eq_true h0
      rw [if_pos h0] at hst
      repeat' ((conv => whnf); first | refine eqS_rfl ?_ | refine eqA_rfl ?_ | refine eqA_of (by assumption) ?_ | refine eqS_of (by rfl) ?_ | refine eqL_rfl ?_ | refine eqJ_rfl ?_ | refine gE ?_ | refine seS_rfl ?_ | refine lsS_of hup ?_ | refine lsS_rfl ?_ | refine brS_tt ?_ | refine brS_ff ?_ | refine brS_not ?_ | refine gI ?_ | refine gT ?_ | refine gF ?_ | refine brS_intro (fun _ => ?_) (fun _ => ?_) | refine gL ?_ | refine gX ?_ | refine gO ?_ | refine gN ?_ | intro _)
      conv => whnf
      exact ⟨nM1, [(3005, lopF Try.f74 0 b2 .ready none 24 [(3, .ptr 3002 b3 0), (4, .ptr 3003 b4 0), (5, .ptr 3004 b5 0)] b1), (dfN, .dfr [b1]), (3002, .own b3 3 [.int .i64 0]), (3003, .own b4 3 [.int .i64 (chN (fun k => (sgP ([l0, l1, l2].getD k []) x y)) (k + 1)).1]), (3004, .own b5 3 [.int .i64 (Int.ofNat (chN (fun k => (sgP ([l0, l1, l2].getD k []) x y)) (k + 1)).2)])] ++ rest, (by rw [hst]; exact WS), .inl ⟨rfl, rfl⟩⟩
    · have d1 : iEq sv 0 = false := by rw [iEq_eq]; exact decide_eq_false h0
      rw [if_neg h0] at hst
      by_cases h1 : bv = 0
      · have d2 : iEq bv 0 = true := by rw [iEq_eq]; exact decide_eq_true h1
        rw [if_neg (fun h => h.1 h1)] at hst
        repeat' ((conv => whnf); first | refine eqS_rfl ?_ | refine eqA_rfl ?_ | refine eqA_of (by assumption) ?_ | refine eqS_of (by rfl) ?_ | refine eqL_rfl ?_ | refine eqJ_rfl ?_ | refine gE ?_ | refine seS_rfl ?_ | refine lsS_of hup ?_ | refine lsS_rfl ?_ | refine brS_tt ?_ | refine brS_ff ?_ | refine brS_not ?_ | refine gI ?_ | refine gT ?_ | refine gF ?_ | refine brS_intro (fun _ => ?_) (fun _ => ?_) | refine gL ?_ | refine gX ?_ | refine gO ?_ | refine gN ?_ | intro _)
        conv => whnf
        exact ⟨nM1, [(3005, lopF Try.f74 0 b2 .ready none 24 [(3, .ptr 3002 b3 0), (4, .ptr 3003 b4 0), (5, .ptr 3004 b5 0)] b1), (dfN, .dfr [b1]), (3002, .own b3 3 [.int .i64 0]), (3003, .own b4 3 [.int .i64 (chN (fun k => (sgP ([l0, l1, l2].getD k []) x y)) (k + 1)).1]), (3004, .own b5 3 [.int .i64 (Int.ofNat (chN (fun k => (sgP ([l0, l1, l2].getD k []) x y)) (k + 1)).2)])] ++ rest, (by rw [hst]; exact WS), .inl ⟨rfl, rfl⟩⟩
      · have d2 : iEq bv 0 = false := by rw [iEq_eq]; exact decide_eq_false h1
        by_cases h2 : sv = bv
        · have d3 : iEq sv bv = true := by rw [iEq_eq]; exact decide_eq_true h2
          rw [if_neg (fun h => h.2 h2)] at hst
          repeat' ((conv => whnf); first | refine eqS_rfl ?_ | refine eqA_rfl ?_ | refine eqA_of (by assumption) ?_ | refine eqS_of (by rfl) ?_ | refine eqL_rfl ?_ | refine eqJ_rfl ?_ | refine gE ?_ | refine seS_rfl ?_ | refine lsS_of hup ?_ | refine lsS_rfl ?_ | refine brS_tt ?_ | refine brS_ff ?_ | refine brS_not ?_ | refine gI ?_ | refine gT ?_ | refine gF ?_ | refine brS_intro (fun _ => ?_) (fun _ => ?_) | refine gL ?_ | refine gX ?_ | refine gO ?_ | refine gN ?_ | intro _)
          conv => whnf
          exact ⟨nM1, [(3005, lopF Try.f74 0 b2 .ready none 24 [(3, .ptr 3002 b3 0), (4, .ptr 3003 b4 0), (5, .ptr 3004 b5 0)] b1), (dfN, .dfr [b1]), (3002, .own b3 3 [.int .i64 0]), (3003, .own b4 3 [.int .i64 (chN (fun k => (sgP ([l0, l1, l2].getD k []) x y)) (k + 1)).1]), (3004, .own b5 3 [.int .i64 (Int.ofNat (chN (fun k => (sgP ([l0, l1, l2].getD k []) x y)) (k + 1)).2)])] ++ rest, (by rw [hst]; exact WS), .inl ⟨rfl, rfl⟩⟩
        · have d3 : iEq sv bv = false := by rw [iEq_eq]; exact decide_eq_false h2
          rw [if_pos ⟨h1, h2⟩] at hst
          have hc1 : wr .i64 (Int.add (Int.ofNat cn) 1) = Int.ofNat (cn + 1) := smn (i := cn + 1) (by omega)
          repeat' ((conv => whnf); first | refine eqS_rfl ?_ | refine eqA_rfl ?_ | refine eqA_of (by assumption) ?_ | refine eqS_of (by rfl) ?_ | refine eqL_rfl ?_ | refine eqJ_rfl ?_ | refine gE ?_ | refine seS_rfl ?_ | refine lsS_of hup ?_ | refine lsS_rfl ?_ | refine brS_tt ?_ | refine brS_ff ?_ | refine brS_not ?_ | refine gI ?_ | refine gT ?_ | refine gF ?_ | refine brS_intro (fun _ => ?_) (fun _ => ?_) | refine gL ?_ | refine gX ?_ | refine gO ?_ | refine gN ?_ | intro _)
          conv => whnf
          exact ⟨nM1, [(3005, lopF Try.f74 0 b2 .ready none 24 [(3, .ptr 3002 b3 0), (4, .ptr 3003 b4 0), (5, .ptr 3004 b5 0)] b1), (dfN, .dfr [b1]), (3002, .own b3 3 [.int .i64 0]), (3003, .own b4 3 [.int .i64 (chN (fun k => (sgP ([l0, l1, l2].getD k []) x y)) (k + 1)).1]), (3004, .own b5 3 [.int .i64 (Int.ofNat (chN (fun k => (sgP ([l0, l1, l2].getD k []) x y)) (k + 1)).2)])] ++ rest, (by rw [hst, ← hc1]; exact WS), .inl ⟨rfl, rfl⟩⟩
  · rintro _ _ (rfl | h)
    · skip
      repeat' ((conv => whnf); first | refine eqS_rfl ?_ | refine eqA_rfl ?_ | refine eqA_of (by assumption) ?_ | refine eqS_of (by rfl) ?_ | refine eqL_rfl ?_ | refine eqJ_rfl ?_ | refine gE ?_ | refine seS_rfl ?_ | refine lsS_of hup ?_ | refine lsS_rfl ?_ | refine brS_tt ?_ | refine brS_ff ?_ | refine brS_not ?_ | refine gI ?_ | refine gT ?_ | refine gF ?_ | refine brS_intro (fun _ => ?_) (fun _ => ?_) | refine gL ?_ | refine gX ?_ | refine gO ?_ | refine gN ?_ | intro _)
      conv => whnf
      exact ⟨nM1, rfl, WS⟩
    · exact h.elim
theorem c47_4 (F d : Nat) (hF : 200 < F) (ac ad0 ad1 ad2 ad3 : Option Addr) (n0 n1 n2 n3 : Nat) (l0 l1 l2 l3 : List Int) (hl0 : l0.length = n0) (hn0 : n0 ≤ 20) (hl1 : l1.length = n1) (hn1 : n1 ≤ 20) (hl2 : l2.length = n2) (hn2 : n2 ≤ 20) (hl3 : l3.length = n3) (hn3 : n3 ≤ 20) (x y : Int) (bc : Nat) (rest : Mem) (R : Nat) :
    callS (CL F (d + 8)) (.fn 47 [] []) [.fn 76 [] [.ptr 924 bc 0], .agg [.int .i64 x, .int .i64 y]] ([(924, .own bc 77 [.sl 900 ac 4 4]), (900, .gr ac 4 71 1 (elS [.sl 901 ad0 n0 n0, .sl 902 ad1 n1 n1, .sl 903 ad2 n2 n2, .sl 904 ad3 n3 n3])), (901, .gr ad0 n0 3 1 (pf l0)), (902, .gr ad1 n1 3 1 (pf l1)), (903, .gr ad2 n2 3 1 (pf l2)), (904, .gr ad3 n3 3 1 (pf l3))] ++ rest) (addL R (2700 * 4 + 400 + 100)) 1000 fun w m' R' _ => R ≤ R' ∧ den w = .int .i64 (Int.ofNat (chN (fun k => (sgP ([l0, l1, l2, l3].getD k []) x y)) 4).2) ∧ WkM m' ([(924, .own bc 77 [.sl 900 ac 4 4]), (900, .gr ac 4 71 1 (elS [.sl 901 ad0 n0 n0, .sl 902 ad1 n1 n1, .sl 903 ad2 n2 n2, .sl 904 ad3 n3 n3])), (901, .gr ad0 n0 3 1 (pf l0)), (902, .gr ad1 n1 3 1 (pf l1)), (903, .gr ad2 n2 3 1 (pf l2)), (904, .gr ad3 n3 3 1 (pf l3))] ++ rest) := by
  rw [addL_eq, show R + (2700 * 4 + 400 + 100) = (2700 * 4 + 400) + R + 100 by omega, ← addL_eq _ 100]
  refine callS.ni 3000 ?_
  refine call_in (n := 7) Try.func47 rfl rfl rfl rfl rfl rfl rfl ?_
  repeat' ((conv => whnf); first | refine eqS_rfl ?_ | refine eqA_rfl ?_ | refine eqA_of (by assumption) ?_ | refine eqS_of (by rfl) ?_ | refine eqL_rfl ?_ | refine eqJ_rfl ?_ | refine gE ?_ | refine seS_rfl ?_ | refine lsS_of hup ?_ | refine lsS_rfl ?_ | refine brS_tt ?_ | refine brS_ff ?_ | refine brS_not ?_ | refine gI ?_ | refine gT ?_ | refine gF ?_ | refine brS_intro (fun _ => ?_) (fun _ => ?_) | refine gL ?_ | refine gX ?_ | refine gO ?_ | refine gN ?_ | refine call_in (n := 24) Try.func74 rfl rfl rfl rfl rfl rfl rfl ?_ | intro _)
  rename_i bp bx b3 b4 b5 b1 b2
  have hcl : ∀ k, k ≤ 4 → (chN (fun k => (sgP ([l0, l1, l2, l3].getD k []) x y)) k).2 ≤ k := fun k _ => chN_le _ k
  refine call_iter2 (c75_4 F d 100 hF ac ad0 ad1 ad2 ad3 n0 n1 n2 n3 l0 l1 l2 l3 hl0 hn0 hl1 hn1 hl2 hn2 hl3 hn3 x y bp bx bc) (fun k m => m = [(3005, lopF Try.f74 0 b2 .ready none 24 [(3, .ptr 3002 b3 0), (4, .ptr 3003 b4 0), (5, .ptr 3004 b5 0)] b1), (dfN, .dfr [b1]), (3002, .own b3 3 [.int .i64 0]), (3003, .own b4 3 [.int .i64 (chN (fun k => (sgP ([l0, l1, l2, l3].getD k []) x y)) k).1]), (3004, .own b5 3 [.int .i64 (Int.ofNat (chN (fun k => (sgP ([l0, l1, l2, l3].getD k []) x y)) k).2)])] ++ rest) (fun _ => False) ([(3005, lopF Try.f74 0 b2 .ready none 24 [(3, .ptr 3002 b3 0), (4, .ptr 3003 b4 0), (5, .ptr 3004 b5 0)] b1), (dfN, .dfr [b1]), (3002, .own b3 3 [.int .i64 0]), (3003, .own b4 3 [.int .i64 (chN (fun k => (sgP ([l0, l1, l2, l3].getD k []) x y)) 0).1]), (3004, .own b5 3 [.int .i64 (Int.ofNat (chN (fun k => (sgP ([l0, l1, l2, l3].getD k []) x y)) 0).2)])] ++ rest) (addL R 60) (by rfl) (by exact (WkM.lop (i := 3005) (j := 3005) (f' := [(3, .ptr 3002 b3 0), (4, .ptr 3003 b4 0), (5, .ptr 3004 b5 0)]) ⟨eqF_rfl _, eqF_rfl _, eqF_rfl _, trivial⟩ (WkM.refl _)).trans WS) rfl ?_ (nM1) ?_
  · rintro k hk _ rfl me' R
    have hck := hcl k (by omega)
    refine call_yield ?_
    obtain ⟨sv, hsv⟩ : ∃ z, z = (sgP ([l0, l1, l2, l3].getD k []) x y) := ⟨_, rfl⟩
    obtain ⟨bv, hbv⟩ : ∃ z, z = (chN (fun k => (sgP ([l0, l1, l2, l3].getD k []) x y)) k).1 := ⟨_, rfl⟩
    obtain ⟨cn, hcn⟩ : ∃ z, z = (chN (fun k => (sgP ([l0, l1, l2, l3].getD k []) x y)) k).2 := ⟨_, rfl⟩
    have hst : chN (fun k => (sgP ([l0, l1, l2, l3].getD k []) x y)) (k + 1) = if sv = 0 then (bv, cn) else (sv, if bv ≠ 0 ∧ sv ≠ bv then cn + 1 else cn) := by rw [hsv, hbv, hcn]; rfl
    rw [← hcn] at hck
    rw [← hsv, ← hbv, ← hcn]
    by_cases h0 : sv = 0
    · have d1 : iEq sv 0 = true := by rw [iEq_eq]; exact decide_eq_true h0
      rw [if_pos h0] at hst
      repeat' ((conv => whnf); first | refine eqS_rfl ?_ | refine eqA_rfl ?_ | refine eqA_of (by assumption) ?_ | refine eqS_of (by rfl) ?_ | refine eqL_rfl ?_ | refine eqJ_rfl ?_ | refine gE ?_ | refine seS_rfl ?_ | refine lsS_of hup ?_ | refine lsS_rfl ?_ | refine brS_tt ?_ | refine brS_ff ?_ | refine brS_not ?_ | refine gI ?_ | refine gT ?_ | refine gF ?_ | refine brS_intro (fun _ => ?_) (fun _ => ?_) | refine gL ?_ | refine gX ?_ | refine gO ?_ | refine gN ?_ | intro _)
      conv => whnf
      exact ⟨nM1, [(3005, lopF Try.f74 0 b2 .ready none 24 [(3, .ptr 3002 b3 0), (4, .ptr 3003 b4 0), (5, .ptr 3004 b5 0)] b1), (dfN, .dfr [b1]), (3002, .own b3 3 [.int .i64 0]), (3003, .own b4 3 [.int .i64 (chN (fun k => (sgP ([l0, l1, l2, l3].getD k []) x y)) (k + 1)).1]), (3004, .own b5 3 [.int .i64 (Int.ofNat (chN (fun k => (sgP ([l0, l1, l2, l3].getD k []) x y)) (k + 1)).2)])] ++ rest, (by rw [hst]; exact WS), .inl ⟨rfl, rfl⟩⟩
    · have d1 : iEq sv 0 = false := by rw [iEq_eq]; exact decide_eq_false h0
      rw [if_neg h0] at hst
      by_cases h1 : bv = 0
      · have d2 : iEq bv 0 = true := by rw [iEq_eq]; exact decide_eq_true h1
        rw [if_neg (fun h => h.1 h1)] at hst
        repeat' ((conv => whnf); first | refine eqS_rfl ?_ | refine eqA_rfl ?_ | refine eqA_of (by assumption) ?_ | refine eqS_of (by rfl) ?_ | refine eqL_rfl ?_ | refine eqJ_rfl ?_ | refine gE ?_ | refine seS_rfl ?_ | refine lsS_of hup ?_ | refine lsS_rfl ?_ | refine brS_tt ?_ | refine brS_ff ?_ | refine brS_not ?_ | refine gI ?_ | refine gT ?_ | refine gF ?_ | refine brS_intro (fun _ => ?_) (fun _ => ?_) | refine gL ?_ | refine gX ?_ | refine gO ?_ | refine gN ?_ | intro _)
        conv => whnf
        exact ⟨nM1, [(3005, lopF Try.f74 0 b2 .ready none 24 [(3, .ptr 3002 b3 0), (4, .ptr 3003 b4 0), (5, .ptr 3004 b5 0)] b1), (dfN, .dfr [b1]), (3002, .own b3 3 [.int .i64 0]), (3003, .own b4 3 [.int .i64 (chN (fun k => (sgP ([l0, l1, l2, l3].getD k []) x y)) (k + 1)).1]), (3004, .own b5 3 [.int .i64 (Int.ofNat (chN (fun k => (sgP ([l0, l1, l2, l3].getD k []) x y)) (k + 1)).2)])] ++ rest, (by rw [hst]; exact WS), .inl ⟨rfl, rfl⟩⟩
      · have d2 : iEq bv 0 = false := by rw [iEq_eq]; exact decide_eq_false h1
        by_cases h2 : sv = bv
        · have d3 : iEq sv bv = true := by rw [iEq_eq]; exact decide_eq_true h2
          rw [if_neg (fun h => h.2 h2)] at hst
          repeat' ((conv => whnf); first | refine eqS_rfl ?_ | refine eqA_rfl ?_ | refine eqA_of (by assumption) ?_ | refine eqS_of (by rfl) ?_ | refine eqL_rfl ?_ | refine eqJ_rfl ?_ | refine gE ?_ | refine seS_rfl ?_ | refine lsS_of hup ?_ | refine lsS_rfl ?_ | refine brS_tt ?_ | refine brS_ff ?_ | refine brS_not ?_ | refine gI ?_ | refine gT ?_ | refine gF ?_ | refine brS_intro (fun _ => ?_) (fun _ => ?_) | refine gL ?_ | refine gX ?_ | refine gO ?_ | refine gN ?_ | intro _)
          conv => whnf
          exact ⟨nM1, [(3005, lopF Try.f74 0 b2 .ready none 24 [(3, .ptr 3002 b3 0), (4, .ptr 3003 b4 0), (5, .ptr 3004 b5 0)] b1), (dfN, .dfr [b1]), (3002, .own b3 3 [.int .i64 0]), (3003, .own b4 3 [.int .i64 (chN (fun k => (sgP ([l0, l1, l2, l3].getD k []) x y)) (k + 1)).1]), (3004, .own b5 3 [.int .i64 (Int.ofNat (chN (fun k => (sgP ([l0, l1, l2, l3].getD k []) x y)) (k + 1)).2)])] ++ rest, (by rw [hst]; exact WS), .inl ⟨rfl, rfl⟩⟩
        · have d3 : iEq sv bv = false := by rw [iEq_eq]; exact decide_eq_false h2
          rw [if_pos ⟨h1, h2⟩] at hst
          have hc1 : wr .i64 (Int.add (Int.ofNat cn) 1) = Int.ofNat (cn + 1) := smn (i := cn + 1) (by omega)
          repeat' ((conv => whnf); first | refine eqS_rfl ?_ | refine eqA_rfl ?_ | refine eqA_of (by assumption) ?_ | refine eqS_of (by rfl) ?_ | refine eqL_rfl ?_ | refine eqJ_rfl ?_ | refine gE ?_ | refine seS_rfl ?_ | refine lsS_of hup ?_ | refine lsS_rfl ?_ | refine brS_tt ?_ | refine brS_ff ?_ | refine brS_not ?_ | refine gI ?_ | refine gT ?_ | refine gF ?_ | refine brS_intro (fun _ => ?_) (fun _ => ?_) | refine gL ?_ | refine gX ?_ | refine gO ?_ | refine gN ?_ | intro _)
          conv => whnf
          exact ⟨nM1, [(3005, lopF Try.f74 0 b2 .ready none 24 [(3, .ptr 3002 b3 0), (4, .ptr 3003 b4 0), (5, .ptr 3004 b5 0)] b1), (dfN, .dfr [b1]), (3002, .own b3 3 [.int .i64 0]), (3003, .own b4 3 [.int .i64 (chN (fun k => (sgP ([l0, l1, l2, l3].getD k []) x y)) (k + 1)).1]), (3004, .own b5 3 [.int .i64 (Int.ofNat (chN (fun k => (sgP ([l0, l1, l2, l3].getD k []) x y)) (k + 1)).2)])] ++ rest, (by rw [hst, ← hc1]; exact WS), .inl ⟨rfl, rfl⟩⟩
  · rintro _ _ (rfl | h)
    · skip
      repeat' ((conv => whnf); first | refine eqS_rfl ?_ | refine eqA_rfl ?_ | refine eqA_of (by assumption) ?_ | refine eqS_of (by rfl) ?_ | refine eqL_rfl ?_ | refine eqJ_rfl ?_ | refine gE ?_ | refine seS_rfl ?_ | refine lsS_of hup ?_ | refine lsS_rfl ?_ | refine brS_tt ?_ | refine brS_ff ?_ | refine brS_not ?_ | refine gI ?_ | refine gT ?_ | refine gF ?_ | refine brS_intro (fun _ => ?_) (fun _ => ?_) | refine gL ?_ | refine gX ?_ | refine gO ?_ | refine gN ?_ | intro _)
      conv => whnf
      exact ⟨nM1, rfl, WS⟩
    · exact h.elim
end Go.Proofs.Ytpncjgiojoehkaa
namespace Go.Proofs.Ytpncjgiojoehkaa
open Go.Ab
attribute [local irreducible] aggOk drwOK
set_option maxRecDepth 100000
set_option maxHeartbeats 4000000
set_option linter.unusedVariables false
set_option linter.unusedSimpArgs false
theorem call47_2 {F d N : Nat} {ac ad0 ad1 : Option Addr} {n0 n1 : Nat} {l0 l1 : List Int} {x y : Int} {bc : Nat} {rest : Mem} {v : Nat}
    (h : ∀ R, callS (CL F (d + 8)) (.fn 47 [] []) [.fn 76 [] [.ptr 924 bc 0], .agg [.int .i64 x, .int .i64 y]] ([(924, .own bc 77 [.sl 900 ac 2 2]), (900, .gr ac 2 71 1 (elS [.sl 901 ad0 n0 n0, .sl 902 ad1 n1 n1])), (901, .gr ad0 n0 3 1 (pf l0)), (902, .gr ad1 n1 3 1 (pf l1))] ++ rest) (addL R N) 1000 fun w m' R' _ => R ≤ R' ∧ den w = .int .i64 (Int.ofNat v) ∧ WkM m' ([(924, .own bc 77 [.sl 900 ac 2 2]), (900, .gr ac 2 71 1 (elS [.sl 901 ad0 n0 n0, .sl 902 ad1 n1 n1])), (901, .gr ad0 n0 3 1 (pf l0)), (902, .gr ad1 n1 3 1 (pf l1))] ++ rest))
    (R2 : Nat) {args : List SV} {m : Mem} {R ni : Nat} {K : SV → Mem → Nat → Nat → Prop} (ha : dens args = dens [.fn 76 [] [.ptr 924 bc 0], .agg [.int .i64 x, .int .i64 y]]) (hw : WkM m ([(924, .own bc 77 [.sl 900 ac 2 2]), (900, .gr ac 2 71 1 (elS [.sl 901 ad0 n0 n0, .sl 902 ad1 n1 n1])), (901, .gr ad0 n0 3 1 (pf l0)), (902, .gr ad1 n1 3 1 (pf l1))] ++ rest)) (hN : R2 + N ≤ R)
    (hK : K (.int .i64 (Int.ofNat v)) ([(924, .own bc 77 [.sl 900 ac 2 2]), (900, .gr ac 2 71 1 (elS [.sl 901 ad0 n0 n0, .sl 902 ad1 n1 n1])), (901, .gr ad0 n0 3 1 (pf l0)), (902, .gr ad1 n1 3 1 (pf l1))] ++ rest) R2 ni) : callS (CL F (d + 8)) (.fn 47 [] []) args m R ni K := by
  refine callS.cast (fv' := .fn 47 [] []) rfl ha ?_
  refine callS.wk hw ?_
  have h1 := h (R - N)
  rw [addL_eq, Nat.sub_add_cancel (by omega)] at h1
  exact call_post h1 fun w m' R' n' ⟨hR, e, hw1⟩ => ⟨.int .i64 (Int.ofNat v), _, R2, ni, e, hw1, by omega, hK⟩
theorem c53_2 (F d : Nat) (hF : 200 < F) (ac ad0 ad1 : Option Addr) (n0 n1 : Nat) (l0 l1 : List Int) (hl0 : l0.length = n0) (hn0 : n0 ≤ 20) (hl1 : l1.length = n1) (hn1 : n1 ≤ 20) (x1 y1 x2 y2 : Int) (bc : Nat) (rest : Mem) (R : Nat) :
    callS (CL F (d + 9)) (.fn 53 [] []) [.fn 76 [] [.ptr 924 bc 0], .agg [.int .i64 x1, .int .i64 y1], .agg [.int .i64 x2, .int .i64 y2]] ([(924, .own bc 77 [.sl 900 ac 2 2]), (900, .gr ac 2 71 1 (elS [.sl 901 ad0 n0 n0, .sl 902 ad1 n1 n1])), (901, .gr ad0 n0 3 1 (pf l0)), (902, .gr ad1 n1 3 1 (pf l1))] ++ rest) (addL R (23000 + 200)) 2000 fun w m' R' _ => R ≤ R' ∧ den w = .int .i64 (((chN (fun k => (sgP ([l0, l1].getD k []) x1 y1)) 2).2 : Int) - ((chN (fun k => (sgP ([l0, l1].getD k []) x2 y2)) 2).2 : Int)) ∧ WkM m' ([(924, .own bc 77 [.sl 900 ac 2 2]), (900, .gr ac 2 71 1 (elS [.sl 901 ad0 n0 n0, .sl 902 ad1 n1 n1])), (901, .gr ad0 n0 3 1 (pf l0)), (902, .gr ad1 n1 3 1 (pf l1))] ++ rest) := by
  rw [addL_eq, show R + (23000 + 200) = 23000 + R + 200 by omega, ← addL_eq _ 200]
  refine callS.ni 2000 ?_
  obtain ⟨v1, hv1⟩ : ∃ v, v = (chN (fun k => (sgP ([l0, l1].getD k []) x1 y1)) 2).2 := ⟨_, rfl⟩
  obtain ⟨v2, hv2⟩ : ∃ v, v = (chN (fun k => (sgP ([l0, l1].getD k []) x2 y2)) 2).2 := ⟨_, rfl⟩
  have b1 : v1 ≤ 4 := by rw [hv1]; exact Nat.le_trans (chN_le _ _) (by decide)
  have b2 : v2 ≤ 4 := by rw [hv2]; exact Nat.le_trans (chN_le _ _) (by decide)
  have es : wr .i64 (Int.sub (Int.ofNat v1) (Int.ofNat v2)) = (v1 : Int) - (v2 : Int) := sm (by show -1000000000000 ≤ (v1 : Int) - (v2 : Int) ∧ (v1 : Int) - (v2 : Int) ≤ 1000000000000; omega)
  have k1 := fun rest R => c47_2 F d hF ac ad0 ad1 n0 n1 l0 l1 hl0 hn0 hl1 hn1 x1 y1 bc rest R
  have k2 := fun rest R => c47_2 F d hF ac ad0 ad1 n0 n1 l0 l1 hl0 hn0 hl1 hn1 x2 y2 bc rest R
  rw [← hv1] at k1
  rw [← hv2] at k2
  rw [← hv1, ← hv2]
  refine call_in (n := 14) Try.func53 rfl rfl rfl rfl rfl rfl rfl ?_
  repeat' ((conv => whnf); first | refine eqS_rfl ?_ | refine eqA_rfl ?_ | refine eqA_of (by assumption) ?_ | refine eqS_of (by rfl) ?_ | refine eqL_rfl ?_ | refine eqJ_rfl ?_ | refine gE ?_ | refine seS_rfl ?_ | refine lsS_of hup ?_ | refine lsS_rfl ?_ | refine brS_tt ?_ | refine brS_ff ?_ | refine brS_not ?_ | refine gI ?_ | refine gT ?_ | refine gF ?_ | refine brS_intro (fun _ => ?_) (fun _ => ?_) | refine gL ?_ | refine gX ?_ | refine gO ?_ | refine gN ?_ | refine gM ?_ | refine gY ?_ | intro _)
  rename_i ba bb
  refine call47_2 (v := v1) (rest := [(2001, .own bb 24 [.int .i64 x2, .int .i64 y2]), (2000, .own ba 24 [.int .i64 x1, .int .i64 y1])] ++ rest) (fun R => k1 _ R) (addL (11500 + R) 120) (by rfl) WS (nM1) ?_
  repeat' ((conv => whnf); first | refine eqS_rfl ?_ | refine eqA_rfl ?_ | refine eqA_of (by assumption) ?_ | refine eqS_of (by rfl) ?_ | refine eqL_rfl ?_ | refine eqJ_rfl ?_ | refine gE ?_ | refine seS_rfl ?_ | refine lsS_of hup ?_ | refine lsS_rfl ?_ | refine brS_tt ?_ | refine brS_ff ?_ | refine brS_not ?_ | refine gI ?_ | refine gT ?_ | refine gF ?_ | refine brS_intro (fun _ => ?_) (fun _ => ?_) | refine gL ?_ | refine gX ?_ | refine gO ?_ | refine gN ?_ | refine gM ?_ | refine gY ?_ | intro _)
  refine call47_2 (v := v2) (rest := [(2001, .own bb 24 [.int .i64 x2, .int .i64 y2]), (2000, .own ba 24 [.int .i64 x1, .int .i64 y1])] ++ rest) (fun R => k2 _ R) (addL R 100) (by rfl) WS (nM1) ?_
  repeat' ((conv => whnf); first | refine eqS_rfl ?_ | refine eqA_rfl ?_ | refine eqA_of (by assumption) ?_ | refine eqS_of (by rfl) ?_ | refine eqL_rfl ?_ | refine eqJ_rfl ?_ | refine gE ?_ | refine seS_rfl ?_ | refine lsS_of hup ?_ | refine lsS_rfl ?_ | refine brS_tt ?_ | refine brS_ff ?_ | refine brS_not ?_ | refine gI ?_ | refine gT ?_ | refine gF ?_ | refine brS_intro (fun _ => ?_) (fun _ => ?_) | refine gL ?_ | refine gX ?_ | refine gO ?_ | refine gN ?_ | refine gM ?_ | refine gY ?_ | intro _)
  conv => whnf
  exact ⟨nM1, congrArg (Value.int .i64) es, WS⟩
theorem call47_3 {F d N : Nat} {ac ad0 ad1 ad2 : Option Addr} {n0 n1 n2 : Nat} {l0 l1 l2 : List Int} {x y : Int} {bc : Nat} {rest : Mem} {v : Nat}
    (h : ∀ R, callS (CL F (d + 8)) (.fn 47 [] []) [.fn 76 [] [.ptr 924 bc 0], .agg [.int .i64 x, .int .i64 y]] ([(924, .own bc 77 [.sl 900 ac 3 3]), (900, .gr ac 3 71 1 (elS [.sl 901 ad0 n0 n0, .sl 902 ad1 n1 n1, .sl 903 ad2 n2 n2])), (901, .gr ad0 n0 3 1 (pf l0)), (902, .gr ad1 n1 3 1 (pf l1)), (903, .gr ad2 n2 3 1 (pf l2))] ++ rest) (addL R N) 1000 fun w m' R' _ => R ≤ R' ∧ den w = .int .i64 (Int.ofNat v) ∧ WkM m' ([(924, .own bc 77 [.sl 900 ac 3 3]), (900, .gr ac 3 71 1 (elS [.sl 901 ad0 n0 n0, .sl 902 ad1 n1 n1, .sl 903 ad2 n2 n2])), (901, .gr ad0 n0 3 1 (pf l0)), (902, .gr ad1 n1 3 1 (pf l1)), (903, .gr ad2 n2 3 1 (pf l2))] ++ rest))
    (R2 : Nat) {args : List SV} {m : Mem} {R ni : Nat} {K : SV → Mem → Nat → Nat → Prop} (ha : dens args = dens [.fn 76 [] [.ptr 924 bc 0], .agg [.int .i64 x, .int .i64 y]]) (hw : WkM m ([(924, .own bc 77 [.sl 900 ac 3 3]), (900, .gr ac 3 71 1 (elS [.sl 901 ad0 n0 n0, .sl 902 ad1 n1 n1, .sl 903 ad2 n2 n2])), (901, .gr ad0 n0 3 1 (pf l0)), (902, .gr ad1 n1 3 1 (pf l1)), (903, .gr ad2 n2 3 1 (pf l2))] ++ rest)) (hN : R2 + N ≤ R)
    (hK : K (.int .i64 (Int.ofNat v)) ([(924, .own bc 77 [.sl 900 ac 3 3]), (900, .gr ac 3 71 1 (elS [.sl 901 ad0 n0 n0, .sl 902 ad1 n1 n1, .sl 903 ad2 n2 n2])), (901, .gr ad0 n0 3 1 (pf l0)), (902, .gr ad1 n1 3 1 (pf l1)), (903, .gr ad2 n2 3 1 (pf l2))] ++ rest) R2 ni) : callS (CL F (d + 8)) (.fn 47 [] []) args m R ni K := by
  refine callS.cast (fv' := .fn 47 [] []) rfl ha ?_
  refine callS.wk hw ?_
  have h1 := h (R - N)
  rw [addL_eq, Nat.sub_add_cancel (by omega)] at h1
  exact call_post h1 fun w m' R' n' ⟨hR, e, hw1⟩ => ⟨.int .i64 (Int.ofNat v), _, R2, ni, e, hw1, by omega, hK⟩
theorem c53_3 (F d : Nat) (hF : 200 < F) (ac ad0 ad1 ad2 : Option Addr) (n0 n1 n2 : Nat) (l0 l1 l2 : List Int) (hl0 : l0.length = n0) (hn0 : n0 ≤ 20) (hl1 : l1.length = n1) (hn1 : n1 ≤ 20) (hl2 : l2.length = n2) (hn2 : n2 ≤ 20) (x1 y1 x2 y2 : Int) (bc : Nat) (rest : Mem) (R : Nat) :
    callS (CL F (d + 9)) (.fn 53 [] []) [.fn 76 [] [.ptr 924 bc 0], .agg [.int .i64 x1, .int .i64 y1], .agg [.int .i64 x2, .int .i64 y2]] ([(924, .own bc 77 [.sl 900 ac 3 3]), (900, .gr ac 3 71 1 (elS [.sl 901 ad0 n0 n0, .sl 902 ad1 n1 n1, .sl 903 ad2 n2 n2])), (901, .gr ad0 n0 3 1 (pf l0)), (902, .gr ad1 n1 3 1 (pf l1)), (903, .gr ad2 n2 3 1 (pf l2))] ++ rest) (addL R (23000 + 200)) 2000 fun w m' R' _ => R ≤ R' ∧ den w = .int .i64 (((chN (fun k => (sgP ([l0, l1, l2].getD k []) x1 y1)) 3).2 : Int) - ((chN (fun k => (sgP ([l0, l1, l2].getD k []) x2 y2)) 3).2 : Int)) ∧ WkM m' ([(924, .own bc 77 [.sl 900 ac 3 3]), (900, .gr ac 3 71 1 (elS [.sl 901 ad0 n0 n0, .sl 902 ad1 n1 n1, .sl 903 ad2 n2 n2])), (901, .gr ad0 n0 3 1 (pf l0)), (902, .gr ad1 n1 3 1 (pf l1)), (903, .gr ad2 n2 3 1 (pf l2))] ++ rest) := by
  rw [addL_eq, show R + (23000 + 200) = 23000 + R + 200 by omega, ← addL_eq _ 200]
  refine callS.ni 2000 ?_
  obtain ⟨v1, hv1⟩ : ∃ v, v = (chN (fun k => (sgP ([l0, l1, l2].getD k []) x1 y1)) 3).2 := ⟨_, rfl⟩
  obtain ⟨v2, hv2⟩ : ∃ v, v = (chN (fun k => (sgP ([l0, l1, l2].getD k []) x2 y2)) 3).2 := ⟨_, rfl⟩
  have b1 : v1 ≤ 4 := by rw [hv1]; exact Nat.le_trans (chN_le _ _) (by decide)
  have b2 : v2 ≤ 4 := by rw [hv2]; exact Nat.le_trans (chN_le _ _) (by decide)
  have es : wr .i64 (Int.sub (Int.ofNat v1) (Int.ofNat v2)) = (v1 : Int) - (v2 : Int) := sm (by show -1000000000000 ≤ (v1 : Int) - (v2 : Int) ∧ (v1 : Int) - (v2 : Int) ≤ 1000000000000; omega)
  have k1 := fun rest R => c47_3 F d hF ac ad0 ad1 ad2 n0 n1 n2 l0 l1 l2 hl0 hn0 hl1 hn1 hl2 hn2 x1 y1 bc rest R
  have k2 := fun rest R => c47_3 F d hF ac ad0 ad1 ad2 n0 n1 n2 l0 l1 l2 hl0 hn0 hl1 hn1 hl2 hn2 x2 y2 bc rest R
  rw [← hv1] at k1
  rw [← hv2] at k2
  rw [← hv1, ← hv2]
  refine call_in (n := 14) Try.func53 rfl rfl rfl rfl rfl rfl rfl ?_
  repeat' ((conv => whnf); first | refine eqS_rfl ?_ | refine eqA_rfl ?_ | refine eqA_of (by assumption) ?_ | refine eqS_of (by rfl) ?_ | refine eqL_rfl ?_ | refine eqJ_rfl ?_ | refine gE ?_ | refine seS_rfl ?_ | refine lsS_of hup ?_ | refine lsS_rfl ?_ | refine brS_tt ?_ | refine brS_ff ?_ | refine brS_not ?_ | refine gI ?_ | refine gT ?_ | refine gF ?_ | refine brS_intro (fun _ => ?_) (fun _ => ?_) | refine gL ?_ | refine gX ?_ | refine gO ?_ | refine gN ?_ | refine gM ?_ | refine gY ?_ | intro _)
  rename_i ba bb
  refine call47_3 (v := v1) (rest := [(2001, .own bb 24 [.int .i64 x2, .int .i64 y2]), (2000, .own ba 24 [.int .i64 x1, .int .i64 y1])] ++ rest) (fun R => k1 _ R) (addL (11500 + R) 120) (by rfl) WS (nM1) ?_
  repeat' ((conv => whnf); first | refine eqS_rfl ?_ | refine eqA_rfl ?_ | refine eqA_of (by assumption) ?_ | refine eqS_of (by rfl) ?_ | refine eqL_rfl ?_ | refine eqJ_rfl ?_ | refine gE ?_ | refine seS_rfl ?_ | refine lsS_of hup ?_ | refine lsS_rfl ?_ | refine brS_tt ?_ | refine brS_ff ?_ | refine brS_not ?_ | refine gI ?_ | refine gT ?_ | refine gF ?_ | refine brS_intro (fun _ => ?_) (fun _ => ?_) | refine gL ?_ | refine gX ?_ | refine gO ?_ | refine gN ?_ | refine gM ?_ | refine gY ?_ | intro _)
  refine call47_3 (v := v2) (rest := [(2001, .own bb 24 [.int .i64 x2, .int .i64 y2]), (2000, .own ba 24 [.int .i64 x1, .int .i64 y1])] ++ rest) (fun R => k2 _ R) (addL R 100) (by rfl) WS (nM1) ?_
  repeat' ((conv => whnf); first | refine eqS_rfl ?_ | refine eqA_rfl ?_ | refine eqA_of (by assumption) ?_ | refine eqS_of (by rfl) ?_ | refine eqL_rfl ?_ | refine eqJ_rfl ?_ | refine gE ?_ | refine seS_rfl ?_ | refine lsS_of hup ?_ | refine lsS_rfl ?_ | refine brS_tt ?_ | refine brS_ff ?_ | refine brS_not ?_ | refine gI ?_ | refine gT ?_ | refine gF ?_ | refine brS_intro (fun _ => ?_) (fun _ => ?_) | refine gL ?_ | refine gX ?_ | refine gO ?_ | refine gN ?_ | refine gM ?_ | refine gY ?_ | intro _)
  conv => whnf
  exact ⟨nM1, congrArg (Value.int .i64) es, WS⟩
theorem call47_4 {F d N : Nat} {ac ad0 ad1 ad2 ad3 : Option Addr} {n0 n1 n2 n3 : Nat} {l0 l1 l2 l3 : List Int} {x y : Int} {bc : Nat} {rest : Mem} {v : Nat}
    (h : ∀ R, callS (CL F (d + 8)) (.fn 47 [] []) [.fn 76 [] [.ptr 924 bc 0], .agg [.int .i64 x, .int .i64 y]] ([(924, .own bc 77 [.sl 900 ac 4 4]), (900, .gr ac 4 71 1 (elS [.sl 901 ad0 n0 n0, .sl 902 ad1 n1 n1, .sl 903 ad2 n2 n2, .sl 904 ad3 n3 n3])), (901, .gr ad0 n0 3 1 (pf l0)), (902, .gr ad1 n1 3 1 (pf l1)), (903, .gr ad2 n2 3 1 (pf l2)), (904, .gr ad3 n3 3 1 (pf l3))] ++ rest) (addL R N) 1000 fun w m' R' _ => R ≤ R' ∧ den w = .int .i64 (Int.ofNat v) ∧ WkM m' ([(924, .own bc 77 [.sl 900 ac 4 4]), (900, .gr ac 4 71 1 (elS [.sl 901 ad0 n0 n0, .sl 902 ad1 n1 n1, .sl 903 ad2 n2 n2, .sl 904 ad3 n3 n3])), (901, .gr ad0 n0 3 1 (pf l0)), (902, .gr ad1 n1 3 1 (pf l1)), (903, .gr ad2 n2 3 1 (pf l2)), (904, .gr ad3 n3 3 1 (pf l3))] ++ rest))
    (R2 : Nat) {args : List SV} {m : Mem} {R ni : Nat} {K : SV → Mem → Nat → Nat → Prop} (ha : dens args = dens [.fn 76 [] [.ptr 924 bc 0], .agg [.int .i64 x, .int .i64 y]]) (hw : WkM m ([(924, .own bc 77 [.sl 900 ac 4 4]), (900, .gr ac 4 71 1 (elS [.sl 901 ad0 n0 n0, .sl 902 ad1 n1 n1, .sl 903 ad2 n2 n2, .sl 904 ad3 n3 n3])), (901, .gr ad0 n0 3 1 (pf l0)), (902, .gr ad1 n1 3 1 (pf l1)), (903, .gr ad2 n2 3 1 (pf l2)), (904, .gr ad3 n3 3 1 (pf l3))] ++ rest)) (hN : R2 + N ≤ R)
    (hK : K (.int .i64 (Int.ofNat v)) ([(924, .own bc 77 [.sl 900 ac 4 4]), (900, .gr ac 4 71 1 (elS [.sl 901 ad0 n0 n0, .sl 902 ad1 n1 n1, .sl 903 ad2 n2 n2, .sl 904 ad3 n3 n3])), (901, .gr ad0 n0 3 1 (pf l0)), (902, .gr ad1 n1 3 1 (pf l1)), (903, .gr ad2 n2 3 1 (pf l2)), (904, .gr ad3 n3 3 1 (pf l3))] ++ rest) R2 ni) : callS (CL F (d + 8)) (.fn 47 [] []) args m R ni K := by
  refine callS.cast (fv' := .fn 47 [] []) rfl ha ?_
  refine callS.wk hw ?_
  have h1 := h (R - N)
  rw [addL_eq, Nat.sub_add_cancel (by omega)] at h1
  exact call_post h1 fun w m' R' n' ⟨hR, e, hw1⟩ => ⟨.int .i64 (Int.ofNat v), _, R2, ni, e, hw1, by omega, hK⟩
theorem c53_4 (F d : Nat) (hF : 200 < F) (ac ad0 ad1 ad2 ad3 : Option Addr) (n0 n1 n2 n3 : Nat) (l0 l1 l2 l3 : List Int) (hl0 : l0.length = n0) (hn0 : n0 ≤ 20) (hl1 : l1.length = n1) (hn1 : n1 ≤ 20) (hl2 : l2.length = n2) (hn2 : n2 ≤ 20) (hl3 : l3.length = n3) (hn3 : n3 ≤ 20) (x1 y1 x2 y2 : Int) (bc : Nat) (rest : Mem) (R : Nat) :
    callS (CL F (d + 9)) (.fn 53 [] []) [.fn 76 [] [.ptr 924 bc 0], .agg [.int .i64 x1, .int .i64 y1], .agg [.int .i64 x2, .int .i64 y2]] ([(924, .own bc 77 [.sl 900 ac 4 4]), (900, .gr ac 4 71 1 (elS [.sl 901 ad0 n0 n0, .sl 902 ad1 n1 n1, .sl 903 ad2 n2 n2, .sl 904 ad3 n3 n3])), (901, .gr ad0 n0 3 1 (pf l0)), (902, .gr ad1 n1 3 1 (pf l1)), (903, .gr ad2 n2 3 1 (pf l2)), (904, .gr ad3 n3 3 1 (pf l3))] ++ rest) (addL R (23000 + 200)) 2000 fun w m' R' _ => R ≤ R' ∧ den w = .int .i64 (((chN (fun k => (sgP ([l0, l1, l2, l3].getD k []) x1 y1)) 4).2 : Int) - ((chN (fun k => (sgP ([l0, l1, l2, l3].getD k []) x2 y2)) 4).2 : Int)) ∧ WkM m' ([(924, .own bc 77 [.sl 900 ac 4 4]), (900, .gr ac 4 71 1 (elS [.sl 901 ad0 n0 n0, .sl 902 ad1 n1 n1, .sl 903 ad2 n2 n2, .sl 904 ad3 n3 n3])), (901, .gr ad0 n0 3 1 (pf l0)), (902, .gr ad1 n1 3 1 (pf l1)), (903, .gr ad2 n2 3 1 (pf l2)), (904, .gr ad3 n3 3 1 (pf l3))] ++ rest) := by
  rw [addL_eq, show R + (23000 + 200) = 23000 + R + 200 by omega, ← addL_eq _ 200]
  refine callS.ni 2000 ?_
  obtain ⟨v1, hv1⟩ : ∃ v, v = (chN (fun k => (sgP ([l0, l1, l2, l3].getD k []) x1 y1)) 4).2 := ⟨_, rfl⟩
  obtain ⟨v2, hv2⟩ : ∃ v, v = (chN (fun k => (sgP ([l0, l1, l2, l3].getD k []) x2 y2)) 4).2 := ⟨_, rfl⟩
  have b1 : v1 ≤ 4 := by rw [hv1]; exact Nat.le_trans (chN_le _ _) (by decide)
  have b2 : v2 ≤ 4 := by rw [hv2]; exact Nat.le_trans (chN_le _ _) (by decide)
  have es : wr .i64 (Int.sub (Int.ofNat v1) (Int.ofNat v2)) = (v1 : Int) - (v2 : Int) := sm (by show -1000000000000 ≤ (v1 : Int) - (v2 : Int) ∧ (v1 : Int) - (v2 : Int) ≤ 1000000000000; omega)
  have k1 := fun rest R => c47_4 F d hF ac ad0 ad1 ad2 ad3 n0 n1 n2 n3 l0 l1 l2 l3 hl0 hn0 hl1 hn1 hl2 hn2 hl3 hn3 x1 y1 bc rest R
  have k2 := fun rest R => c47_4 F d hF ac ad0 ad1 ad2 ad3 n0 n1 n2 n3 l0 l1 l2 l3 hl0 hn0 hl1 hn1 hl2 hn2 hl3 hn3 x2 y2 bc rest R
  rw [← hv1] at k1
  rw [← hv2] at k2
  rw [← hv1, ← hv2]
  refine call_in (n := 14) Try.func53 rfl rfl rfl rfl rfl rfl rfl ?_
  repeat' ((conv => whnf); first | refine eqS_rfl ?_ | refine eqA_rfl ?_ | refine eqA_of (by assumption) ?_ | refine eqS_of (by rfl) ?_ | refine eqL_rfl ?_ | refine eqJ_rfl ?_ | refine gE ?_ | refine seS_rfl ?_ | refine lsS_of hup ?_ | refine lsS_rfl ?_ | refine brS_tt ?_ | refine brS_ff ?_ | refine brS_not ?_ | refine gI ?_ | refine gT ?_ | refine gF ?_ | refine brS_intro (fun _ => ?_) (fun _ => ?_) | refine gL ?_ | refine gX ?_ | refine gO ?_ | refine gN ?_ | refine gM ?_ | refine gY ?_ | intro _)
  rename_i ba bb
  refine call47_4 (v := v1) (rest := [(2001, .own bb 24 [.int .i64 x2, .int .i64 y2]), (2000, .own ba 24 [.int .i64 x1, .int .i64 y1])] ++ rest) (fun R => k1 _ R) (addL (11500 + R) 120) (by rfl) WS (nM1) ?_
  repeat' ((conv => whnf); first | refine eqS_rfl ?_ | refine eqA_rfl ?_ | refine eqA_of (by assumption) ?_ | refine eqS_of (by rfl) ?_ | refine eqL_rfl ?_ | refine eqJ_rfl ?_ | refine gE ?_ | refine seS_rfl ?_ | refine lsS_of hup ?_ | refine lsS_rfl ?_ | refine brS_tt ?_ | refine brS_ff ?_ | refine brS_not ?_ | refine gI ?_ | refine gT ?_ | refine gF ?_ | refine brS_intro (fun _ => ?_) (fun _ => ?_) | refine gL ?_ | refine gX ?_ | refine gO ?_ | refine gN ?_ | refine gM ?_ | refine gY ?_ | intro _)
  refine call47_4 (v := v2) (rest := [(2001, .own bb 24 [.int .i64 x2, .int .i64 y2]), (2000, .own ba 24 [.int .i64 x1, .int .i64 y1])] ++ rest) (fun R => k2 _ R) (addL R 100) (by rfl) WS (nM1) ?_
  repeat' ((conv => whnf); first | refine eqS_rfl ?_ | refine eqA_rfl ?_ | refine eqA_of (by assumption) ?_ | refine eqS_of (by rfl) ?_ | refine eqL_rfl ?_ | refine eqJ_rfl ?_ | refine gE ?_ | refine seS_rfl ?_ | refine lsS_of hup ?_ | refine lsS_rfl ?_ | refine brS_tt ?_ | refine brS_ff ?_ | refine brS_not ?_ | refine gI ?_ | refine gT ?_ | refine gF ?_ | refine brS_intro (fun _ => ?_) (fun _ => ?_) | refine gL ?_ | refine gX ?_ | refine gO ?_ | refine gN ?_ | refine gM ?_ | refine gY ?_ | intro _)
  conv => whnf
  exact ⟨nM1, congrArg (Value.int .i64) es, WS⟩
end Go.Proofs.Ytpncjgiojoehkaa
namespace Go.Proofs.Ytpncjgiojoehkaa
open Go.Ab
attribute [local irreducible] aggOk drwOK
set_option maxRecDepth 100000
set_option maxHeartbeats 4000000
set_option linter.unusedVariables false
set_option linter.unusedSimpArgs false
theorem c43_4 (F d i : Nat) (a : Option Addr) (n c : Nat) (l : List Int) (hl : l.length = n) (hn : n ≤ 4) (hF : 200 < F) (hi : ∀ j, j < n → inI (l.getD j 0)) (co : List Int) (hco : coO l = some co) (hcl : co.length ≤ 4) (hle : leB (drL co) = true) (d1 : List Int) (hd1 : leL (drL co) = d1) (s1 r1 : List Int) (hs1 : dvR co d1 = s1) (hr1 : tmL s1 (-1) = r1) (s2 r2 : List Int) (hs2 : dvR d1 r1 = s2) (hr2 : tmL s2 (-1) = r2) (s3 r3 : List Int) (hs3 : dvR r1 r2 = s3) (hr3 : tmL s3 (-1) = r3) (hc0 : ¬ co.length < 2) (hc1 : ¬ d1.length < 2) (hc2 : ¬ s1.length < 2) (hc3 : s2.length < 2) (hv0 : dvB co d1 = true) (hv1 : dvB d1 r1 = true) (hv2 : dvB r1 r2 = true) (R : Nat) :
    callS (CL F (d + 7)) (.fn 43 [] []) [.sl 1000 a n c] [(1000, .ro a n 4 1 (pf l))] (addL R (380000 + 400)) 0 fun w m' R' _ => (∃ w0 mf, QC4 i co d1 r1 r2 co.length d1.length s1.length s2.length w0 mf ∧ den w = den w0 ∧ WkM m' mf) ∧ R ≤ R' := by
  have k41 := fun R => c41 F (d + 1) 700 a n c l hl hn hF hi co hco R
  have hdl := drL_len co
  have hl1 : d1.length = co.length - 1 := by rw [← hd1, leL_len, hdl]
  have k55 := fun a R => c55 F (d + 5) 720 a co.length co.length co rfl (by omega) (by omega) R
  have hci := coO_in hco
  have k71 := fun a R => c71 F (d + 4) 710 a d1.length d1.length (drL co) (by omega) (by omega) hF (fun j hj => drL_in (by omega)) (by rw [hl1, ← hdl]; exact leB_ne hle) R
  rw [hd1] at k71
  rw [← hl1] at k55
  have e0 := decide_eq_false hc0
  have e1 := decide_eq_false hc1
  have e2 := decide_eq_false hc2
  have e3 := decide_eq_true hc3
  have v0 := dvB_le hv0
  have w0 := dvR_le co d1
  rw [hs1] at w0
  have hl2 : r1.length = s1.length := by rw [← hr1, tmL_len]
  have kd0 := fun a c a2 c2 R => c64n F (d + 2) 740 750 a c co co.length rfl a2 c2 d1 d1.length rfl hv0 hF R
  rw [hs1] at kd0
  generalize dvQ co d1 = q0 at kd0
  have km0 := fun a R => c67 F (d + 4) 732 a s1.length s1.length s1 rfl (by omega) (by omega) (-1) R
  rw [hr1] at km0
  have v1 := dvB_le hv1
  have w1 := dvR_le d1 r1
  rw [hs2] at w1
  have hl3 : r2.length = s2.length := by rw [← hr2, tmL_len]
  have kd1 := fun a c a2 c2 R => c64n F (d + 1) 741 751 a c d1 d1.length rfl a2 c2 r1 s1.length hl2 hv1 hF R
  rw [hs2] at kd1
  generalize dvQ d1 r1 = q1 at kd1
  have km1 := fun a R => c67 F (d + 3) 733 a s2.length s2.length s2 rfl (by omega) (by omega) (-1) R
  rw [hr2] at km1
  have v2 := dvB_le hv2
  have w2 := dvR_le r1 r2
  rw [hs3] at w2
  have hl4 : r3.length = s3.length := by rw [← hr3, tmL_len]
  have kd2 := fun a c a2 c2 R => c64n F (d + 0) 742 752 a c r1 s1.length hl2 a2 c2 r2 s2.length hl3 hv2 hF R
  rw [hs3] at kd2
  generalize dvQ r1 r2 = q2 at kd2
  have km2 := fun a R => c67 F (d + 2) 734 a s3.length s3.length s3 rfl (by omega) (by omega) (-1) R
  rw [hr3] at km2
  rw [show 380000 + 400 = (380000) + 400 from rfl, addL_eq, ← Nat.add_assoc, ← addL_eq _ 400, Nat.add_comm R (380000)]
  clear hd1 hs1 hr1 hs2 hr2 hs3 hr3
  refine call_in (n := 11) Try.func43 rfl rfl rfl rfl rfl rfl rfl ?_
  repeat' ((conv => whnf); first | refine eqS_rfl ?_ | refine eqA_rfl ?_ | refine eqA_of (by assumption) ?_ | refine eqS_of (by rfl) ?_ | refine eqL_rfl ?_ | refine eqJ_rfl ?_ | refine gE ?_ | refine seS_rfl ?_ | refine lsS_of hup ?_ | refine lsS_rfl ?_ | refine brS_tt ?_ | refine brS_ff ?_ | refine brS_not ?_ | refine gI ?_ | refine gT ?_ | refine gF ?_ | refine brS_intro (fun _ => ?_) (fun _ => ?_) | refine gL ?_ | refine gX ?_ | refine gO ?_ | refine gN ?_ | refine gM ?_ | refine gY ?_ | refine call67 700 k41 (addL (140000 + R) 60) (by rfl) (by exact SeesM.cons 1000 (sees_ro (i := 1000) (by rfl)) (SeesM.nil _) (fun _ _ _ _ _ _ x hx => by cases hx)) (nM1) ?_ | refine call67 720 (k55 _) (addL (139000 + R) 60) (by rfl) (by exact SeesM.cons 1000 (sees_gr (i := 700) (by rfl)) (SeesM.nil _) (fun _ _ _ _ _ _ x hx => by cases hx)) (nM1) ?_ | refine call67 710 (k71 _) (addL (130000 + R) 60) (by rfl) (by exact SeesM.cons 1000 (sees_gr (i := 720) (by rfl)) (SeesM.nil _) (fun _ _ _ _ _ _ x hx => by cases hx)) (nM1) ?_ | refine call64 740 750 (kd0 _ _ _ _) (addL (90000 + R) 60) (by rfl) (by exact SeesM.cons 1000 (sees_gr (i := 700) (by rfl)) (SeesM.cons 1001 (sees_gr (i := 710) (by rfl)) (SeesM.nil _) (fun _ _ _ _ _ _ x hx => by cases hx)) (fun _ _ _ _ _ _ x hx => by rcases List.mem_singleton.1 hx with rfl; exact fun _ h => h)) (nM1) ?_ | refine call67 732 (km0 _) (addL (89000 + R) 60) (by rfl) (by exact SeesM.cons 1000 (sees_gr (i := 750) (by rfl)) (SeesM.nil _) (fun _ _ _ _ _ _ x hx => by cases hx)) (nM1) ?_ | refine call64 741 751 (kd1 _ _ _ _) (addL (60000 + R) 60) (by rfl) (by exact SeesM.cons 1000 (sees_gr (i := 710) (by rfl)) (SeesM.cons 1001 (sees_gr (i := 732) (by rfl)) (SeesM.nil _) (fun _ _ _ _ _ _ x hx => by cases hx)) (fun _ _ _ _ _ _ x hx => by rcases List.mem_singleton.1 hx with rfl; exact fun _ h => h)) (nM1) ?_ | refine call67 733 (km1 _) (addL (59000 + R) 60) (by rfl) (by exact SeesM.cons 1000 (sees_gr (i := 751) (by rfl)) (SeesM.nil _) (fun _ _ _ _ _ _ x hx => by cases hx)) (nM1) ?_ | refine call64 742 752 (kd2 _ _ _ _) (addL (30000 + R) 60) (by rfl) (by exact SeesM.cons 1000 (sees_gr (i := 732) (by rfl)) (SeesM.cons 1001 (sees_gr (i := 733) (by rfl)) (SeesM.nil _) (fun _ _ _ _ _ _ x hx => by cases hx)) (fun _ _ _ _ _ _ x hx => by rcases List.mem_singleton.1 hx with rfl; exact fun _ h => h)) (nM1) ?_ | refine call67 734 (km2 _) (addL (29000 + R) 60) (by rfl) (by exact SeesM.cons 1000 (sees_gr (i := 752) (by rfl)) (SeesM.nil _) (fun _ _ _ _ _ _ x hx => by cases hx)) (nM1) ?_ | refine call_pure (c79 F _ _ _ _ _) ?_ | refine flE_intro (fun j hj => by match j, hj with | 0, _ => rfl | 1, _ => rfl | 2, _ => rfl | j + 3, hj => exact absurd (Nat.lt_of_lt_of_le hj (show _ ≤ 3 by decide)) (Nat.not_lt_of_le (Nat.le_add_left 3 j))) ?_ | refine call_in (n := 23) Try.func70 rfl rfl rfl rfl rfl rfl rfl ?_ | refine call_in (n := 9) Try.func86 rfl rfl rfl rfl rfl rfl rfl ?_ | refine ltS_intro oM1 ?_ | refine emS_0 ?_ | refine emS_p oM1 ?_ | refine emS_z rfl ?_ | intro _)
  rename_i ac x2 a1 q0x s0x a2 q1x s1x a3 q2x s2x x5 b1 b2 az1 b3 az2 b4 az
  conv => whnf
  exact ⟨⟨_, _, ⟨az, ac, a1, a2, a3, rfl, rfl⟩, rfl, (WkM.gr_den (j := i) (g := elS [.sl (i + 1) ac co.length co.length, .sl (i + 2) a1 d1.length d1.length, .sl (i + 3) a2 s1.length s1.length, .sl (i + 4) a3 s2.length s2.length]) (fun j hj => by match j, hj with | 0, _ => rfl | 1, _ => rfl | 2, _ => rfl | 3, _ => rfl | j + 4, hj => exact absurd hj (by show ¬ j + 4 < 4; omega))).trans WS⟩, nM1⟩
end Go.Proofs.Ytpncjgiojoehkaa
namespace Go.Proofs.Ytpncjgiojoehkaa
open Go.Ab
attribute [local irreducible] aggOk drwOK
set_option maxRecDepth 100000
set_option maxHeartbeats 4000000
set_option linter.unusedVariables false
set_option linter.unusedSimpArgs false
/-- a call over memory that stays -/
theorem callV {call : CallT} {g : FuncId} {args0 : List SV} {M : Mem} {N nn : Nat} {v : SV} (h : ∀ R, callS call (.fn g [] []) args0 M (addL R N) nn fun w m' R' _ => R ≤ R' ∧ den w = den v ∧ WkM m' M) (R2 : Nat) {args : List SV} {m : Mem} {R ni : Nat} {K : SV → Mem → Nat → Nat → Prop} (ha : dens args = dens args0) (hw : WkM m M) (hN : R2 + N ≤ R) (hK : K v M R2 ni) : callS call (.fn g [] []) args m R ni K := by
  refine callS.cast (fv' := .fn g [] []) rfl ha ?_
  refine callS.wk hw ?_
  have h1 := h (R - N)
  rw [addL_eq, Nat.sub_add_cancel (by omega)] at h1
  refine callS.ni nn ?_
  exact call_post h1 fun w m' R' n' ⟨hR, e, hw1⟩ => ⟨v, _, R2, ni, e, hw1, by omega, hK⟩
theorem call43_2 {call : CallT} {g : FuncId} {args args0 : List SV} {m0 : Mem} {N : Nat} {n0 n1 : Nat} {l0 l1 : List Int} (h : ∀ R, callS call (.fn g [] []) args0 m0 (addL R N) 0 fun w m' R' _ => (∃ w0 mf, QC2 900 l0 l1 n0 n1 w0 mf ∧ den w = den w0 ∧ WkM m' mf) ∧ R ≤ R') (R2 : Nat) {m : Mem} {R ni : Nat} {K : SV → Mem → Nat → Nat → Prop} (ha : dens args = dens args0) (hs : SeesM m m0) (hN : R2 + N ≤ R)
    (hK : ∀ ac ad0 ad1, K (.sl 900 ac 2 2) ((900, .gr ac 2 71 1 (elS [.sl 901 ad0 n0 n0, .sl 902 ad1 n1 n1])) :: (901, .gr ad0 n0 3 1 (pf l0)) :: (902, .gr ad1 n1 3 1 (pf l1)) :: m) R2 ni) : callS call (.fn g [] []) args m R ni K := by
  refine call_freshL (QC2 900 l0 l1 n0 n1) h ?_ R2 ha hs hN ?_
  · rintro _ _ ⟨a, b0, b1, rfl, rfl⟩ x hx
    rcases List.mem_cons.1 hx with rfl | hx
    · exact ⟨_, _, _, _, _, rfl⟩
    rcases List.mem_cons.1 hx with rfl | hx
    · exact ⟨_, _, _, _, _, rfl⟩
    rw [List.mem_singleton.1 hx]; exact ⟨_, _, _, _, _, rfl⟩
  · rintro _ _ ⟨a, b0, b1, rfl, rfl⟩
    exact hK a b0 b1
theorem call43_3 {call : CallT} {g : FuncId} {args args0 : List SV} {m0 : Mem} {N : Nat} {n0 n1 n2 : Nat} {l0 l1 l2 : List Int} (h : ∀ R, callS call (.fn g [] []) args0 m0 (addL R N) 0 fun w m' R' _ => (∃ w0 mf, QC3 900 l0 l1 l2 n0 n1 n2 w0 mf ∧ den w = den w0 ∧ WkM m' mf) ∧ R ≤ R') (R2 : Nat) {m : Mem} {R ni : Nat} {K : SV → Mem → Nat → Nat → Prop} (ha : dens args = dens args0) (hs : SeesM m m0) (hN : R2 + N ≤ R)
    (hK : ∀ ac ad0 ad1 ad2, K (.sl 900 ac 3 3) ((900, .gr ac 3 71 1 (elS [.sl 901 ad0 n0 n0, .sl 902 ad1 n1 n1, .sl 903 ad2 n2 n2])) :: (901, .gr ad0 n0 3 1 (pf l0)) :: (902, .gr ad1 n1 3 1 (pf l1)) :: (903, .gr ad2 n2 3 1 (pf l2)) :: m) R2 ni) : callS call (.fn g [] []) args m R ni K := by
  refine call_freshL (QC3 900 l0 l1 l2 n0 n1 n2) h ?_ R2 ha hs hN ?_
  · rintro _ _ ⟨a, b0, b1, b2, rfl, rfl⟩ x hx
    rcases List.mem_cons.1 hx with rfl | hx
    · exact ⟨_, _, _, _, _, rfl⟩
    rcases List.mem_cons.1 hx with rfl | hx
    · exact ⟨_, _, _, _, _, rfl⟩
    rcases List.mem_cons.1 hx with rfl | hx
    · exact ⟨_, _, _, _, _, rfl⟩
    rw [List.mem_singleton.1 hx]; exact ⟨_, _, _, _, _, rfl⟩
  · rintro _ _ ⟨a, b0, b1, b2, rfl, rfl⟩
    exact hK a b0 b1 b2
theorem call43_4 {call : CallT} {g : FuncId} {args args0 : List SV} {m0 : Mem} {N : Nat} {n0 n1 n2 n3 : Nat} {l0 l1 l2 l3 : List Int} (h : ∀ R, callS call (.fn g [] []) args0 m0 (addL R N) 0 fun w m' R' _ => (∃ w0 mf, QC4 900 l0 l1 l2 l3 n0 n1 n2 n3 w0 mf ∧ den w = den w0 ∧ WkM m' mf) ∧ R ≤ R') (R2 : Nat) {m : Mem} {R ni : Nat} {K : SV → Mem → Nat → Nat → Prop} (ha : dens args = dens args0) (hs : SeesM m m0) (hN : R2 + N ≤ R)
    (hK : ∀ ac ad0 ad1 ad2 ad3, K (.sl 900 ac 4 4) ((900, .gr ac 4 71 1 (elS [.sl 901 ad0 n0 n0, .sl 902 ad1 n1 n1, .sl 903 ad2 n2 n2, .sl 904 ad3 n3 n3])) :: (901, .gr ad0 n0 3 1 (pf l0)) :: (902, .gr ad1 n1 3 1 (pf l1)) :: (903, .gr ad2 n2 3 1 (pf l2)) :: (904, .gr ad3 n3 3 1 (pf l3)) :: m) R2 ni) : callS call (.fn g [] []) args m R ni K := by
  refine call_freshL (QC4 900 l0 l1 l2 l3 n0 n1 n2 n3) h ?_ R2 ha hs hN ?_
  · rintro _ _ ⟨a, b0, b1, b2, b3, rfl, rfl⟩ x hx
    rcases List.mem_cons.1 hx with rfl | hx
    · exact ⟨_, _, _, _, _, rfl⟩
    rcases List.mem_cons.1 hx with rfl | hx
    · exact ⟨_, _, _, _, _, rfl⟩
    rcases List.mem_cons.1 hx with rfl | hx
    · exact ⟨_, _, _, _, _, rfl⟩
    rcases List.mem_cons.1 hx with rfl | hx
    · exact ⟨_, _, _, _, _, rfl⟩
    rw [List.mem_singleton.1 hx]; exact ⟨_, _, _, _, _, rfl⟩
  · rintro _ _ ⟨a, b0, b1, b2, b3, rfl, rfl⟩
    exact hK a b0 b1 b2 b3
theorem c51_2 (F d : Nat) (a : Option Addr) (n c : Nat) (l : List Int) (hV : Val l n) (hF : 200 < F) (co : List Int) (hco : coO l = some co) (hcl : co.length ≤ 4) (hle : leB (drL co) = true) (d1 : List Int) (hd1 : leL (drL co) = d1) (s1 r1 : List Int) (hs1 : dvR co d1 = s1) (hr1 : tmL s1 (-1) = r1) (hc0 : ¬ co.length < 2) (hc1 : d1.length < 2) (hv0 : dvB co d1 = true) (x1 y1 x2 y2 : Int) : ReadC (CL F (d + 10)) 51 [.sl 1000 a n c, .agg [.int .i64 x1, .int .i64 y1], .agg [.int .i64 x2, .int .i64 y2]] [(1000, .ro a n 4 1 (pf l))] (410000 + 400) (.int .i64 (((chN (fun k => (sgP ([co, d1].getD k []) x1 y1)) 2).2 : Int) - ((chN (fun k => (sgP ([co, d1].getD k []) x2 y2)) 2).2 : Int))) := by
  have hi : ∀ j, j < n → inI (l.getD j 0) := fun j hj => by have := hV.bd j hj; unfold inI; omega
  have k43 := fun R => c43_2 F (d + 2) 900 a n c l hV.len hV.h4 hF hi co hco hcl hle d1 hd1 s1 r1 hs1 hr1 hc0 hc1 hv0 R
  have hdl := drL_len co
  have hl1 : d1.length = co.length - 1 := by rw [← hd1, leL_len, hdl]
  have v0 := dvB_le hv0
  have w0 := dvR_le co d1
  rw [hs1] at w0
  have hl2 : r1.length = s1.length := by rw [← hr1, tmL_len]
  have k53 := fun ac ad0 ad1 bc rest R => c53_2 F d hF ac ad0 ad1 co.length d1.length co d1 rfl (by omega) rfl (by omega) x1 y1 x2 y2 bc rest R
  intro R
  rw [show 410000 + 400 = (410000) + 400 from rfl, addL_eq, ← Nat.add_assoc, ← addL_eq _ 400, Nat.add_comm R (410000)]
  refine call_in (n := 13) Try.func51 rfl rfl rfl rfl rfl rfl rfl ?_
  repeat' ((conv => whnf); first | refine eqS_rfl ?_ | refine eqA_rfl ?_ | refine eqA_of (by assumption) ?_ | refine eqS_of (by rfl) ?_ | refine eqL_rfl ?_ | refine eqJ_rfl ?_ | refine gE ?_ | refine seS_rfl ?_ | refine lsS_of hup ?_ | refine lsS_rfl ?_ | refine brS_tt ?_ | refine brS_ff ?_ | refine brS_not ?_ | refine gI ?_ | refine gT ?_ | refine gF ?_ | refine brS_intro (fun _ => ?_) (fun _ => ?_) | refine gL ?_ | refine gX ?_ | refine gO ?_ | refine gN ?_ | refine gM ?_ | refine gY ?_ | refine call43_2 k43 (addL (25000 + R) 90) (by rfl) (by exact SeesM.cons 1000 (sees_ro (i := 1000) (by rfl)) (SeesM.nil _) (fun _ _ _ _ _ _ x hx => by cases hx)) (nM1) ?_ | refine call_in (n := 4) Try.func48 rfl rfl rfl rfl rfl rfl rfl ?_ | intro _)
  rename_i ba bb ac ad0 ad1 bc
  refine callV (M := [(924, .own bc 77 [.sl 900 ac 2 2]), (900, .gr ac 2 71 1 (elS [.sl 901 ad0 co.length co.length, .sl 902 ad1 d1.length d1.length])), (901, .gr ad0 co.length 3 1 (pf co)), (902, .gr ad1 d1.length 3 1 (pf d1))] ++ [(1, .own bb 24 [.int .i64 x2, .int .i64 y2]), (0, .own ba 24 [.int .i64 x1, .int .i64 y1]), (1000, .ro a n 4 1 (pf l))]) (v := .int .i64 (((chN (fun k => (sgP ([co, d1].getD k []) x1 y1)) 2).2 : Int) - ((chN (fun k => (sgP ([co, d1].getD k []) x2 y2)) 2).2 : Int))) (k53 ac ad0 ad1 bc [(1, .own bb 24 [.int .i64 x2, .int .i64 y2]), (0, .own ba 24 [.int .i64 x1, .int .i64 y1]), (1000, .ro a n 4 1 (pf l))]) (addL R 100) (by rfl) WS (nM1) ?_
  repeat' ((conv => whnf); first | refine eqS_rfl ?_ | refine eqA_rfl ?_ | refine eqA_of (by assumption) ?_ | refine eqS_of (by rfl) ?_ | refine eqL_rfl ?_ | refine eqJ_rfl ?_ | refine gE ?_ | refine seS_rfl ?_ | refine lsS_of hup ?_ | refine lsS_rfl ?_ | refine brS_tt ?_ | refine brS_ff ?_ | refine brS_not ?_ | refine gI ?_ | refine gT ?_ | refine gF ?_ | refine brS_intro (fun _ => ?_) (fun _ => ?_) | refine gL ?_ | refine gX ?_ | refine gO ?_ | refine gN ?_ | refine gM ?_ | refine gY ?_ | intro _)
  conv => whnf
  exact ⟨rfl, nM1⟩
end Go.Proofs.Ytpncjgiojoehkaa
namespace Go.Proofs.Ytpncjgiojoehkaa
open Go.Ab
attribute [local irreducible] aggOk drwOK
set_option maxRecDepth 100000
set_option maxHeartbeats 4000000
set_option linter.unusedVariables false
set_option linter.unusedSimpArgs false
/-- the chain -/
def chO (p : List Int) : Option (List (List Int)) := match coO p with
  | none => none
  | some co => if (leB (drL co) && decide (co.length ≤ 4) && decide (¬ co.length < 2) && dvB co (leL (drL co))) = true then
      if (leL (drL co)).length < 2 then some [co, leL (drL co)]
      else if dvB (leL (drL co)) (tmL (dvR co (leL (drL co))) (-1)) = true then
        if (tmL (dvR co (leL (drL co))) (-1)).length < 2 then some [co, leL (drL co), tmL (dvR co (leL (drL co))) (-1)]
        else if (dvB (tmL (dvR co (leL (drL co))) (-1)) (tmL (dvR (leL (drL co)) (tmL (dvR co (leL (drL co))) (-1))) (-1)) && decide ((tmL (dvR (leL (drL co)) (tmL (dvR co (leL (drL co))) (-1))) (-1)).length < 2)) = true then
          some [co, leL (drL co), tmL (dvR co (leL (drL co))) (-1), tmL (dvR (leL (drL co)) (tmL (dvR co (leL (drL co))) (-1))) (-1)]
        else none
      else none
    else none
/-- changes of a chain at an argument -/
def cnV (C : List (List Int)) (x y : Int) : Nat := (chN (fun k => sgP (C.getD k []) x y) C.length).2
theorem c51_3 (F d : Nat) (a : Option Addr) (n c : Nat) (l : List Int) (hV : Val l n) (hF : 200 < F) (co : List Int) (hco : coO l = some co) (hcl : co.length ≤ 4) (hle : leB (drL co) = true) (d1 : List Int) (hd1 : leL (drL co) = d1) (s1 r1 : List Int) (hs1 : dvR co d1 = s1) (hr1 : tmL s1 (-1) = r1) (s2 r2 : List Int) (hs2 : dvR d1 r1 = s2) (hr2 : tmL s2 (-1) = r2) (hc0 : ¬ co.length < 2) (hc1 : ¬ d1.length < 2) (hc2 : s1.length < 2) (hv0 : dvB co d1 = true) (hv1 : dvB d1 r1 = true) (x1 y1 x2 y2 : Int) : ReadC (CL F (d + 10)) 51 [.sl 1000 a n c, .agg [.int .i64 x1, .int .i64 y1], .agg [.int .i64 x2, .int .i64 y2]] [(1000, .ro a n 4 1 (pf l))] (410000 + 400) (.int .i64 (((chN (fun k => (sgP ([co, d1, r1].getD k []) x1 y1)) 3).2 : Int) - ((chN (fun k => (sgP ([co, d1, r1].getD k []) x2 y2)) 3).2 : Int))) := by
  have hi : ∀ j, j < n → inI (l.getD j 0) := fun j hj => by have := hV.bd j hj; unfold inI; omega
  have k43 := fun R => c43_3 F (d + 2) 900 a n c l hV.len hV.h4 hF hi co hco hcl hle d1 hd1 s1 r1 hs1 hr1 s2 r2 hs2 hr2 hc0 hc1 hc2 hv0 hv1 R
  have hdl := drL_len co
  have hl1 : d1.length = co.length - 1 := by rw [← hd1, leL_len, hdl]
  have v0 := dvB_le hv0
  have w0 := dvR_le co d1
  rw [hs1] at w0
  have hl2 : r1.length = s1.length := by rw [← hr1, tmL_len]
  have v1 := dvB_le hv1
  have w1 := dvR_le d1 r1
  rw [hs2] at w1
  have hl3 : r2.length = s2.length := by rw [← hr2, tmL_len]
  have k53 := fun ac ad0 ad1 ad2 bc rest R => c53_3 F d hF ac ad0 ad1 ad2 co.length d1.length s1.length co d1 r1 rfl (by omega) rfl (by omega) hl2 (by omega) x1 y1 x2 y2 bc rest R
  intro R
  rw [show 410000 + 400 = (410000) + 400 from rfl, addL_eq, ← Nat.add_assoc, ← addL_eq _ 400, Nat.add_comm R (410000)]
  refine call_in (n := 13) Try.func51 rfl rfl rfl rfl rfl rfl rfl ?_
  repeat' ((conv => whnf); first | refine eqS_rfl ?_ | refine eqA_rfl ?_ | refine eqA_of (by assumption) ?_ | refine eqS_of (by rfl) ?_ | refine eqL_rfl ?_ | refine eqJ_rfl ?_ | refine gE ?_ | refine seS_rfl ?_ | refine lsS_of hup ?_ | refine lsS_rfl ?_ | refine brS_tt ?_ | refine brS_ff ?_ | refine brS_not ?_ | refine gI ?_ | refine gT ?_ | refine gF ?_ | refine brS_intro (fun _ => ?_) (fun _ => ?_) | refine gL ?_ | refine gX ?_ | refine gO ?_ | refine gN ?_ | refine gM ?_ | refine gY ?_ | refine call43_3 k43 (addL (25000 + R) 90) (by rfl) (by exact SeesM.cons 1000 (sees_ro (i := 1000) (by rfl)) (SeesM.nil _) (fun _ _ _ _ _ _ x hx => by cases hx)) (nM1) ?_ | refine call_in (n := 4) Try.func48 rfl rfl rfl rfl rfl rfl rfl ?_ | intro _)
  rename_i ba bb ac ad0 ad1 ad2 bc
  refine callV (M := [(924, .own bc 77 [.sl 900 ac 3 3]), (900, .gr ac 3 71 1 (elS [.sl 901 ad0 co.length co.length, .sl 902 ad1 d1.length d1.length, .sl 903 ad2 s1.length s1.length])), (901, .gr ad0 co.length 3 1 (pf co)), (902, .gr ad1 d1.length 3 1 (pf d1)), (903, .gr ad2 s1.length 3 1 (pf r1))] ++ [(1, .own bb 24 [.int .i64 x2, .int .i64 y2]), (0, .own ba 24 [.int .i64 x1, .int .i64 y1]), (1000, .ro a n 4 1 (pf l))]) (v := .int .i64 (((chN (fun k => (sgP ([co, d1, r1].getD k []) x1 y1)) 3).2 : Int) - ((chN (fun k => (sgP ([co, d1, r1].getD k []) x2 y2)) 3).2 : Int))) (k53 ac ad0 ad1 ad2 bc [(1, .own bb 24 [.int .i64 x2, .int .i64 y2]), (0, .own ba 24 [.int .i64 x1, .int .i64 y1]), (1000, .ro a n 4 1 (pf l))]) (addL R 100) (by rfl) WS (nM1) ?_
  repeat' ((conv => whnf); first | refine eqS_rfl ?_ | refine eqA_rfl ?_ | refine eqA_of (by assumption) ?_ | refine eqS_of (by rfl) ?_ | refine eqL_rfl ?_ | refine eqJ_rfl ?_ | refine gE ?_ | refine seS_rfl ?_ | refine lsS_of hup ?_ | refine lsS_rfl ?_ | refine brS_tt ?_ | refine brS_ff ?_ | refine brS_not ?_ | refine gI ?_ | refine gT ?_ | refine gF ?_ | refine brS_intro (fun _ => ?_) (fun _ => ?_) | refine gL ?_ | refine gX ?_ | refine gO ?_ | refine gN ?_ | refine gM ?_ | refine gY ?_ | intro _)
  conv => whnf
  exact ⟨rfl, nM1⟩
theorem c51_4 (F d : Nat) (a : Option Addr) (n c : Nat) (l : List Int) (hV : Val l n) (hF : 200 < F) (co : List Int) (hco : coO l = some co) (hcl : co.length ≤ 4) (hle : leB (drL co) = true) (d1 : List Int) (hd1 : leL (drL co) = d1) (s1 r1 : List Int) (hs1 : dvR co d1 = s1) (hr1 : tmL s1 (-1) = r1) (s2 r2 : List Int) (hs2 : dvR d1 r1 = s2) (hr2 : tmL s2 (-1) = r2) (s3 r3 : List Int) (hs3 : dvR r1 r2 = s3) (hr3 : tmL s3 (-1) = r3) (hc0 : ¬ co.length < 2) (hc1 : ¬ d1.length < 2) (hc2 : ¬ s1.length < 2) (hc3 : s2.length < 2) (hv0 : dvB co d1 = true) (hv1 : dvB d1 r1 = true) (hv2 : dvB r1 r2 = true) (x1 y1 x2 y2 : Int) : ReadC (CL F (d + 10)) 51 [.sl 1000 a n c, .agg [.int .i64 x1, .int .i64 y1], .agg [.int .i64 x2, .int .i64 y2]] [(1000, .ro a n 4 1 (pf l))] (410000 + 400) (.int .i64 (((chN (fun k => (sgP ([co, d1, r1, r2].getD k []) x1 y1)) 4).2 : Int) - ((chN (fun k => (sgP ([co, d1, r1, r2].getD k []) x2 y2)) 4).2 : Int))) := by
  have hi : ∀ j, j < n → inI (l.getD j 0) := fun j hj => by have := hV.bd j hj; unfold inI; omega
  have k43 := fun R => c43_4 F (d + 2) 900 a n c l hV.len hV.h4 hF hi co hco hcl hle d1 hd1 s1 r1 hs1 hr1 s2 r2 hs2 hr2 s3 r3 hs3 hr3 hc0 hc1 hc2 hc3 hv0 hv1 hv2 R
  have hdl := drL_len co
  have hl1 : d1.length = co.length - 1 := by rw [← hd1, leL_len, hdl]
  have v0 := dvB_le hv0
  have w0 := dvR_le co d1
  rw [hs1] at w0
  have hl2 : r1.length = s1.length := by rw [← hr1, tmL_len]
  have v1 := dvB_le hv1
  have w1 := dvR_le d1 r1
  rw [hs2] at w1
  have hl3 : r2.length = s2.length := by rw [← hr2, tmL_len]
  have v2 := dvB_le hv2
  have w2 := dvR_le r1 r2
  rw [hs3] at w2
  have hl4 : r3.length = s3.length := by rw [← hr3, tmL_len]
  have k53 := fun ac ad0 ad1 ad2 ad3 bc rest R => c53_4 F d hF ac ad0 ad1 ad2 ad3 co.length d1.length s1.length s2.length co d1 r1 r2 rfl (by omega) rfl (by omega) hl2 (by omega) hl3 (by omega) x1 y1 x2 y2 bc rest R
  intro R
  rw [show 410000 + 400 = (410000) + 400 from rfl, addL_eq, ← Nat.add_assoc, ← addL_eq _ 400, Nat.add_comm R (410000)]
  refine call_in (n := 13) Try.func51 rfl rfl rfl rfl rfl rfl rfl ?_
  repeat' ((conv => whnf); first | refine eqS_rfl ?_ | refine eqA_rfl ?_ | refine eqA_of (by assumption) ?_ | refine eqS_of (by rfl) ?_ | refine eqL_rfl ?_ | refine eqJ_rfl ?_ | refine gE ?_ | refine seS_rfl ?_ | refine lsS_of hup ?_ | refine lsS_rfl ?_ | refine brS_tt ?_ | refine brS_ff ?_ | refine brS_not ?_ | refine gI ?_ | refine gT ?_ | refine gF ?_ | refine brS_intro (fun _ => ?_) (fun _ => ?_) | refine gL ?_ | refine gX ?_ | refine gO ?_ | refine gN ?_ | refine gM ?_ | refine gY ?_ | refine call43_4 k43 (addL (25000 + R) 90) (by rfl) (by exact SeesM.cons 1000 (sees_ro (i := 1000) (by rfl)) (SeesM.nil _) (fun _ _ _ _ _ _ x hx => by cases hx)) (nM1) ?_ | refine call_in (n := 4) Try.func48 rfl rfl rfl rfl rfl rfl rfl ?_ | intro _)
  rename_i ba bb ac ad0 ad1 ad2 ad3 bc
  refine callV (M := [(924, .own bc 77 [.sl 900 ac 4 4]), (900, .gr ac 4 71 1 (elS [.sl 901 ad0 co.length co.length, .sl 902 ad1 d1.length d1.length, .sl 903 ad2 s1.length s1.length, .sl 904 ad3 s2.length s2.length])), (901, .gr ad0 co.length 3 1 (pf co)), (902, .gr ad1 d1.length 3 1 (pf d1)), (903, .gr ad2 s1.length 3 1 (pf r1)), (904, .gr ad3 s2.length 3 1 (pf r2))] ++ [(1, .own bb 24 [.int .i64 x2, .int .i64 y2]), (0, .own ba 24 [.int .i64 x1, .int .i64 y1]), (1000, .ro a n 4 1 (pf l))]) (v := .int .i64 (((chN (fun k => (sgP ([co, d1, r1, r2].getD k []) x1 y1)) 4).2 : Int) - ((chN (fun k => (sgP ([co, d1, r1, r2].getD k []) x2 y2)) 4).2 : Int))) (k53 ac ad0 ad1 ad2 ad3 bc [(1, .own bb 24 [.int .i64 x2, .int .i64 y2]), (0, .own ba 24 [.int .i64 x1, .int .i64 y1]), (1000, .ro a n 4 1 (pf l))]) (addL R 100) (by rfl) WS (nM1) ?_
  repeat' ((conv => whnf); first | refine eqS_rfl ?_ | refine eqA_rfl ?_ | refine eqA_of (by assumption) ?_ | refine eqS_of (by rfl) ?_ | refine eqL_rfl ?_ | refine eqJ_rfl ?_ | refine gE ?_ | refine seS_rfl ?_ | refine lsS_of hup ?_ | refine lsS_rfl ?_ | refine brS_tt ?_ | refine brS_ff ?_ | refine brS_not ?_ | refine gI ?_ | refine gT ?_ | refine gF ?_ | refine brS_intro (fun _ => ?_) (fun _ => ?_) | refine gL ?_ | refine gX ?_ | refine gO ?_ | refine gN ?_ | refine gM ?_ | refine gY ?_ | intro _)
  conv => whnf
  exact ⟨rfl, nM1⟩
theorem c23_2 (F d : Nat) (a : Option Addr) (n c : Nat) (l : List Int) (hV : Val l n) (hF : 200 < F) (co : List Int) (hco : coO l = some co) (hcl : co.length ≤ 4) (hle : leB (drL co) = true) (d1 : List Int) (hd1 : leL (drL co) = d1) (s1 r1 : List Int) (hs1 : dvR co d1 = s1) (hr1 : tmL s1 (-1) = r1) (hc0 : ¬ co.length < 2) (hc1 : d1.length < 2) (hv0 : dvB co d1 = true) (x y : Int) (hA : Arg x y) : ReadC (CL F (d + 9)) 23 [.sl 1000 a n c, .agg [.int .i64 x, .int .i64 y]] [(1000, .ro a n 4 1 (pf l))] (400000 + 400) (.tup [.int .i64 (Int.ofNat (chN (fun k => (sgP ([co, d1].getD k []) x y)) 2).2), i64 0]) := by
  have hi : ∀ j, j < n → inI (l.getD j 0) := fun j hj => by have := hV.bd j hj; unfold inI; omega
  have k43 := fun R => c43_2 F (d + 1) 900 a n c l hV.len hV.h4 hF hi co hco hcl hle d1 hd1 s1 r1 hs1 hr1 hc0 hc1 hv0 R
  have hdl := drL_len co
  have hl1 : d1.length = co.length - 1 := by rw [← hd1, leL_len, hdl]
  have v0 := dvB_le hv0
  have w0 := dvR_le co d1
  rw [hs1] at w0
  have hl2 : r1.length = s1.length := by rw [← hr1, tmL_len]
  have k47 := fun ac ad0 ad1 bc rest R => c47_2 F d hF ac ad0 ad1 co.length d1.length co d1 rfl (by omega) rfl (by omega) x y bc rest R
  have k37 := fun a2 => c37 F (d + 5) (by omega) a n c l hV a2 1 0 1 (by omega) (fun _ => x) (fun _ => y) (fun _ _ => hA)
  intro R
  rw [show 400000 + 400 = (400000) + 400 from rfl, addL_eq, ← Nat.add_assoc, ← addL_eq _ 400, Nat.add_comm R (400000)]
  refine call_in (n := 19) Try.func23 rfl rfl rfl rfl rfl rfl rfl ?_
  repeat' ((conv => whnf); first | refine eqS_rfl ?_ | refine eqA_rfl ?_ | refine eqA_of (by assumption) ?_ | refine eqS_of (by rfl) ?_ | refine eqL_rfl ?_ | refine eqJ_rfl ?_ | refine gE ?_ | refine seS_rfl ?_ | refine lsS_of hup ?_ | refine lsS_rfl ?_ | refine brS_tt ?_ | refine brS_ff ?_ | refine brS_not ?_ | refine gI ?_ | refine gT ?_ | refine gF ?_ | refine brS_intro (fun _ => ?_) (fun _ => ?_) | refine gL ?_ | refine gX ?_ | refine gO ?_ | refine gN ?_ | refine gM ?_ | refine gY ?_ | refine call_readL (k37 _) (addL (397000 + R) 55) (by rfl) (by exact SeesM.cons 1000 (sees_ro (i := 1000) (by rfl)) (SeesM.cons 1001 (SeesE.ro_congr (g := fun j => [.int .i64 (x), .int .i64 (y)]) (sees_own (i := 1) (n := 1) (o := 0) (sz := 2) (c := 0) (by rfl) (by exact Nat.le_refl 2)) (fun j hj => by match j, hj with | 0, _ => rfl | j + 1, hj => exact absurd hj (by omega))) (SeesM.nil _) (fun _ _ _ _ _ _ x hx => by cases hx)) (fun _ _ _ _ _ _ x hx => by rcases List.mem_singleton.1 hx with rfl; exact fun _ h => h)) (nM1) ?_ | refine call43_2 k43 (addL (15000 + R) 90) (by rfl) (by exact SeesM.cons 1000 (sees_ro (i := 1000) (by rfl)) (SeesM.nil _) (fun _ _ _ _ _ _ x hx => by cases hx)) (nM1) ?_ | refine call_in (n := 4) Try.func48 rfl rfl rfl rfl rfl rfl rfl ?_ | intro _)
  rename_i ba bb ac ad0 ad1 bc
  refine callV (M := [(924, .own bc 77 [.sl 900 ac 2 2]), (900, .gr ac 2 71 1 (elS [.sl 901 ad0 co.length co.length, .sl 902 ad1 d1.length d1.length])), (901, .gr ad0 co.length 3 1 (pf co)), (902, .gr ad1 d1.length 3 1 (pf d1))] ++ [(1, .own bb 24 [.int .i64 x, .int .i64 y]), (0, .own ba 24 [.int .i64 x, .int .i64 y]), (1000, .ro a n 4 1 (pf l))]) (v := .int .i64 (Int.ofNat (chN (fun k => (sgP ([co, d1].getD k []) x y)) 2).2)) (k47 ac ad0 ad1 bc [(1, .own bb 24 [.int .i64 x, .int .i64 y]), (0, .own ba 24 [.int .i64 x, .int .i64 y]), (1000, .ro a n 4 1 (pf l))]) (addL R 100) (by rfl) WS (nM1) ?_
  repeat' ((conv => whnf); first | refine eqS_rfl ?_ | refine eqA_rfl ?_ | refine eqA_of (by assumption) ?_ | refine eqS_of (by rfl) ?_ | refine eqL_rfl ?_ | refine eqJ_rfl ?_ | refine gE ?_ | refine seS_rfl ?_ | refine lsS_of hup ?_ | refine lsS_rfl ?_ | refine brS_tt ?_ | refine brS_ff ?_ | refine brS_not ?_ | refine gI ?_ | refine gT ?_ | refine gF ?_ | refine brS_intro (fun _ => ?_) (fun _ => ?_) | refine gL ?_ | refine gX ?_ | refine gO ?_ | refine gN ?_ | refine gM ?_ | refine gY ?_ | intro _)
  conv => whnf
  exact ⟨rfl, nM1⟩
theorem c23_3 (F d : Nat) (a : Option Addr) (n c : Nat) (l : List Int) (hV : Val l n) (hF : 200 < F) (co : List Int) (hco : coO l = some co) (hcl : co.length ≤ 4) (hle : leB (drL co) = true) (d1 : List Int) (hd1 : leL (drL co) = d1) (s1 r1 : List Int) (hs1 : dvR co d1 = s1) (hr1 : tmL s1 (-1) = r1) (s2 r2 : List Int) (hs2 : dvR d1 r1 = s2) (hr2 : tmL s2 (-1) = r2) (hc0 : ¬ co.length < 2) (hc1 : ¬ d1.length < 2) (hc2 : s1.length < 2) (hv0 : dvB co d1 = true) (hv1 : dvB d1 r1 = true) (x y : Int) (hA : Arg x y) : ReadC (CL F (d + 9)) 23 [.sl 1000 a n c, .agg [.int .i64 x, .int .i64 y]] [(1000, .ro a n 4 1 (pf l))] (400000 + 400) (.tup [.int .i64 (Int.ofNat (chN (fun k => (sgP ([co, d1, r1].getD k []) x y)) 3).2), i64 0]) := by
  have hi : ∀ j, j < n → inI (l.getD j 0) := fun j hj => by have := hV.bd j hj; unfold inI; omega
  have k43 := fun R => c43_3 F (d + 1) 900 a n c l hV.len hV.h4 hF hi co hco hcl hle d1 hd1 s1 r1 hs1 hr1 s2 r2 hs2 hr2 hc0 hc1 hc2 hv0 hv1 R
  have hdl := drL_len co
  have hl1 : d1.length = co.length - 1 := by rw [← hd1, leL_len, hdl]
  have v0 := dvB_le hv0
  have w0 := dvR_le co d1
  rw [hs1] at w0
  have hl2 : r1.length = s1.length := by rw [← hr1, tmL_len]
  have v1 := dvB_le hv1
  have w1 := dvR_le d1 r1
  rw [hs2] at w1
  have hl3 : r2.length = s2.length := by rw [← hr2, tmL_len]
  have k47 := fun ac ad0 ad1 ad2 bc rest R => c47_3 F d hF ac ad0 ad1 ad2 co.length d1.length s1.length co d1 r1 rfl (by omega) rfl (by omega) hl2 (by omega) x y bc rest R
  have k37 := fun a2 => c37 F (d + 5) (by omega) a n c l hV a2 1 0 1 (by omega) (fun _ => x) (fun _ => y) (fun _ _ => hA)
  intro R
  rw [show 400000 + 400 = (400000) + 400 from rfl, addL_eq, ← Nat.add_assoc, ← addL_eq _ 400, Nat.add_comm R (400000)]
  refine call_in (n := 19) Try.func23 rfl rfl rfl rfl rfl rfl rfl ?_
  repeat' ((conv => whnf); first | refine eqS_rfl ?_ | refine eqA_rfl ?_ | refine eqA_of (by assumption) ?_ | refine eqS_of (by rfl) ?_ | refine eqL_rfl ?_ | refine eqJ_rfl ?_ | refine gE ?_ | refine seS_rfl ?_ | refine lsS_of hup ?_ | refine lsS_rfl ?_ | refine brS_tt ?_ | refine brS_ff ?_ | refine brS_not ?_ | refine gI ?_ | refine gT ?_ | refine gF ?_ | refine brS_intro (fun _ => ?_) (fun _ => ?_) | refine gL ?_ | refine gX ?_ | refine gO ?_ | refine gN ?_ | refine gM ?_ | refine gY ?_ | refine call_readL (k37 _) (addL (397000 + R) 55) (by rfl) (by exact SeesM.cons 1000 (sees_ro (i := 1000) (by rfl)) (SeesM.cons 1001 (SeesE.ro_congr (g := fun j => [.int .i64 (x), .int .i64 (y)]) (sees_own (i := 1) (n := 1) (o := 0) (sz := 2) (c := 0) (by rfl) (by exact Nat.le_refl 2)) (fun j hj => by match j, hj with | 0, _ => rfl | j + 1, hj => exact absurd hj (by omega))) (SeesM.nil _) (fun _ _ _ _ _ _ x hx => by cases hx)) (fun _ _ _ _ _ _ x hx => by rcases List.mem_singleton.1 hx with rfl; exact fun _ h => h)) (nM1) ?_ | refine call43_3 k43 (addL (15000 + R) 90) (by rfl) (by exact SeesM.cons 1000 (sees_ro (i := 1000) (by rfl)) (SeesM.nil _) (fun _ _ _ _ _ _ x hx => by cases hx)) (nM1) ?_ | refine call_in (n := 4) Try.func48 rfl rfl rfl rfl rfl rfl rfl ?_ | intro _)
  rename_i ba bb ac ad0 ad1 ad2 bc
  refine callV (M := [(924, .own bc 77 [.sl 900 ac 3 3]), (900, .gr ac 3 71 1 (elS [.sl 901 ad0 co.length co.length, .sl 902 ad1 d1.length d1.length, .sl 903 ad2 s1.length s1.length])), (901, .gr ad0 co.length 3 1 (pf co)), (902, .gr ad1 d1.length 3 1 (pf d1)), (903, .gr ad2 s1.length 3 1 (pf r1))] ++ [(1, .own bb 24 [.int .i64 x, .int .i64 y]), (0, .own ba 24 [.int .i64 x, .int .i64 y]), (1000, .ro a n 4 1 (pf l))]) (v := .int .i64 (Int.ofNat (chN (fun k => (sgP ([co, d1, r1].getD k []) x y)) 3).2)) (k47 ac ad0 ad1 ad2 bc [(1, .own bb 24 [.int .i64 x, .int .i64 y]), (0, .own ba 24 [.int .i64 x, .int .i64 y]), (1000, .ro a n 4 1 (pf l))]) (addL R 100) (by rfl) WS (nM1) ?_
  repeat' ((conv => whnf); first | refine eqS_rfl ?_ | refine eqA_rfl ?_ | refine eqA_of (by assumption) ?_ | refine eqS_of (by rfl) ?_ | refine eqL_rfl ?_ | refine eqJ_rfl ?_ | refine gE ?_ | refine seS_rfl ?_ | refine lsS_of hup ?_ | refine lsS_rfl ?_ | refine brS_tt ?_ | refine brS_ff ?_ | refine brS_not ?_ | refine gI ?_ | refine gT ?_ | refine gF ?_ | refine brS_intro (fun _ => ?_) (fun _ => ?_) | refine gL ?_ | refine gX ?_ | refine gO ?_ | refine gN ?_ | refine gM ?_ | refine gY ?_ | intro _)
  conv => whnf
  exact ⟨rfl, nM1⟩
theorem c23_4 (F d : Nat) (a : Option Addr) (n c : Nat) (l : List Int) (hV : Val l n) (hF : 200 < F) (co : List Int) (hco : coO l = some co) (hcl : co.length ≤ 4) (hle : leB (drL co) = true) (d1 : List Int) (hd1 : leL (drL co) = d1) (s1 r1 : List Int) (hs1 : dvR co d1 = s1) (hr1 : tmL s1 (-1) = r1) (s2 r2 : List Int) (hs2 : dvR d1 r1 = s2) (hr2 : tmL s2 (-1) = r2) (s3 r3 : List Int) (hs3 : dvR r1 r2 = s3) (hr3 : tmL s3 (-1) = r3) (hc0 : ¬ co.length < 2) (hc1 : ¬ d1.length < 2) (hc2 : ¬ s1.length < 2) (hc3 : s2.length < 2) (hv0 : dvB co d1 = true) (hv1 : dvB d1 r1 = true) (hv2 : dvB r1 r2 = true) (x y : Int) (hA : Arg x y) : ReadC (CL F (d + 9)) 23 [.sl 1000 a n c, .agg [.int .i64 x, .int .i64 y]] [(1000, .ro a n 4 1 (pf l))] (400000 + 400) (.tup [.int .i64 (Int.ofNat (chN (fun k => (sgP ([co, d1, r1, r2].getD k []) x y)) 4).2), i64 0]) := by
  have hi : ∀ j, j < n → inI (l.getD j 0) := fun j hj => by have := hV.bd j hj; unfold inI; omega
  have k43 := fun R => c43_4 F (d + 1) 900 a n c l hV.len hV.h4 hF hi co hco hcl hle d1 hd1 s1 r1 hs1 hr1 s2 r2 hs2 hr2 s3 r3 hs3 hr3 hc0 hc1 hc2 hc3 hv0 hv1 hv2 R
  have hdl := drL_len co
  have hl1 : d1.length = co.length - 1 := by rw [← hd1, leL_len, hdl]
  have v0 := dvB_le hv0
  have w0 := dvR_le co d1
  rw [hs1] at w0
  have hl2 : r1.length = s1.length := by rw [← hr1, tmL_len]
  have v1 := dvB_le hv1
  have w1 := dvR_le d1 r1
  rw [hs2] at w1
  have hl3 : r2.length = s2.length := by rw [← hr2, tmL_len]
  have v2 := dvB_le hv2
  have w2 := dvR_le r1 r2
  rw [hs3] at w2
  have hl4 : r3.length = s3.length := by rw [← hr3, tmL_len]
  have k47 := fun ac ad0 ad1 ad2 ad3 bc rest R => c47_4 F d hF ac ad0 ad1 ad2 ad3 co.length d1.length s1.length s2.length co d1 r1 r2 rfl (by omega) rfl (by omega) hl2 (by omega) hl3 (by omega) x y bc rest R
  have k37 := fun a2 => c37 F (d + 5) (by omega) a n c l hV a2 1 0 1 (by omega) (fun _ => x) (fun _ => y) (fun _ _ => hA)
  intro R
  rw [show 400000 + 400 = (400000) + 400 from rfl, addL_eq, ← Nat.add_assoc, ← addL_eq _ 400, Nat.add_comm R (400000)]
  refine call_in (n := 19) Try.func23 rfl rfl rfl rfl rfl rfl rfl ?_
  repeat' ((conv => whnf); first | refine eqS_rfl ?_ | refine eqA_rfl ?_ | refine eqA_of (by assumption) ?_ | refine eqS_of (by rfl) ?_ | refine eqL_rfl ?_ | refine eqJ_rfl ?_ | refine gE ?_ | refine seS_rfl ?_ | refine lsS_of hup ?_ | refine lsS_rfl ?_ | refine brS_tt ?_ | refine brS_ff ?_ | refine brS_not ?_ | refine gI ?_ | refine gT ?_ | refine gF ?_ | refine brS_intro (fun _ => ?_) (fun _ => ?_) | refine gL ?_ | refine gX ?_ | refine gO ?_ | refine gN ?_ | refine gM ?_ | refine gY ?_ | refine call_readL (k37 _) (addL (397000 + R) 55) (by rfl) (by exact SeesM.cons 1000 (sees_ro (i := 1000) (by rfl)) (SeesM.cons 1001 (SeesE.ro_congr (g := fun j => [.int .i64 (x), .int .i64 (y)]) (sees_own (i := 1) (n := 1) (o := 0) (sz := 2) (c := 0) (by rfl) (by exact Nat.le_refl 2)) (fun j hj => by match j, hj with | 0, _ => rfl | j + 1, hj => exact absurd hj (by omega))) (SeesM.nil _) (fun _ _ _ _ _ _ x hx => by cases hx)) (fun _ _ _ _ _ _ x hx => by rcases List.mem_singleton.1 hx with rfl; exact fun _ h => h)) (nM1) ?_ | refine call43_4 k43 (addL (15000 + R) 90) (by rfl) (by exact SeesM.cons 1000 (sees_ro (i := 1000) (by rfl)) (SeesM.nil _) (fun _ _ _ _ _ _ x hx => by cases hx)) (nM1) ?_ | refine call_in (n := 4) Try.func48 rfl rfl rfl rfl rfl rfl rfl ?_ | intro _)
  rename_i ba bb ac ad0 ad1 ad2 ad3 bc
  refine callV (M := [(924, .own bc 77 [.sl 900 ac 4 4]), (900, .gr ac 4 71 1 (elS [.sl 901 ad0 co.length co.length, .sl 902 ad1 d1.length d1.length, .sl 903 ad2 s1.length s1.length, .sl 904 ad3 s2.length s2.length])), (901, .gr ad0 co.length 3 1 (pf co)), (902, .gr ad1 d1.length 3 1 (pf d1)), (903, .gr ad2 s1.length 3 1 (pf r1)), (904, .gr ad3 s2.length 3 1 (pf r2))] ++ [(1, .own bb 24 [.int .i64 x, .int .i64 y]), (0, .own ba 24 [.int .i64 x, .int .i64 y]), (1000, .ro a n 4 1 (pf l))]) (v := .int .i64 (Int.ofNat (chN (fun k => (sgP ([co, d1, r1, r2].getD k []) x y)) 4).2)) (k47 ac ad0 ad1 ad2 ad3 bc [(1, .own bb 24 [.int .i64 x, .int .i64 y]), (0, .own ba 24 [.int .i64 x, .int .i64 y]), (1000, .ro a n 4 1 (pf l))]) (addL R 100) (by rfl) WS (nM1) ?_
  repeat' ((conv => whnf); first | refine eqS_rfl ?_ | refine eqA_rfl ?_ | refine eqA_of (by assumption) ?_ | refine eqS_of (by rfl) ?_ | refine eqL_rfl ?_ | refine eqJ_rfl ?_ | refine gE ?_ | refine seS_rfl ?_ | refine lsS_of hup ?_ | refine lsS_rfl ?_ | refine brS_tt ?_ | refine brS_ff ?_ | refine brS_not ?_ | refine gI ?_ | refine gT ?_ | refine gF ?_ | refine brS_intro (fun _ => ?_) (fun _ => ?_) | refine gL ?_ | refine gX ?_ | refine gO ?_ | refine gN ?_ | refine gM ?_ | refine gY ?_ | intro _)
  conv => whnf
  exact ⟨rfl, nM1⟩
theorem c51 (F d : Nat) (a : Option Addr) (n c : Nat) (l : List Int) (hV : Val l n) (hF : 200 < F) (C : List (List Int)) (hC : chO l = some C) (x1 y1 x2 y2 : Int) : ReadC (CL F (d + 10)) 51 [.sl 1000 a n c, .agg [.int .i64 x1, .int .i64 y1], .agg [.int .i64 x2, .int .i64 y2]] [(1000, .ro a n 4 1 (pf l))] (410000 + 400) (.int .i64 ((cnV C x1 y1 : Int) - (cnV C x2 y2 : Int))) := by
  unfold chO at hC
  cases hco : coO l with
  | none => rw [hco] at hC; cases hC
  | some co =>
    rw [hco] at hC
    simp only at hC
    by_cases h1 : (leB (drL co) && decide (co.length ≤ 4) && decide (¬ co.length < 2) && dvB co (leL (drL co))) = true
    rotate_left
    · rw [if_neg h1] at hC; cases hC
    rw [if_pos h1] at hC
    simp only [Bool.and_eq_true, decide_eq_true_eq] at h1
    obtain ⟨⟨⟨g1, g2⟩, g3⟩, g4⟩ := h1
    by_cases h2 : (leL (drL co)).length < 2
    · rw [if_pos h2] at hC
      injection hC with hC
      subst hC
      exact c51_2 F d a n c l hV hF co hco g2 g1 _ rfl _ _ rfl rfl g3 h2 g4 x1 y1 x2 y2
    · rw [if_neg h2] at hC
      by_cases h3 : dvB (leL (drL co)) (tmL (dvR co (leL (drL co))) (-1)) = true
      rotate_left
      · rw [if_neg h3] at hC; cases hC
      rw [if_pos h3] at hC
      have e1 := tmL_len (dvR co (leL (drL co))) (-1)
      by_cases h4 : (tmL (dvR co (leL (drL co))) (-1)).length < 2
      · rw [if_pos h4] at hC
        injection hC with hC
        subst hC
        exact c51_3 F d a n c l hV hF co hco g2 g1 _ rfl _ _ rfl rfl _ _ rfl rfl g3 h2 (by rw [← e1]; exact h4) g4 h3 x1 y1 x2 y2
      · rw [if_neg h4] at hC
        by_cases h5 : (dvB (tmL (dvR co (leL (drL co))) (-1)) (tmL (dvR (leL (drL co)) (tmL (dvR co (leL (drL co))) (-1))) (-1)) && decide ((tmL (dvR (leL (drL co)) (tmL (dvR co (leL (drL co))) (-1))) (-1)).length < 2)) = true
        rotate_left
        · rw [if_neg h5] at hC; cases hC
        rw [if_pos h5] at hC
        injection hC with hC
        subst hC
        rw [Bool.and_eq_true, decide_eq_true_eq] at h5
        have e2 := tmL_len (dvR (leL (drL co)) (tmL (dvR co (leL (drL co))) (-1))) (-1)
        exact c51_4 F d a n c l hV hF co hco g2 g1 _ rfl _ _ rfl rfl _ _ rfl rfl _ _ rfl rfl g3 h2 (by rw [← e1]; exact h4) (by rw [← e2]; exact h5.2) g4 h3 h5.1 x1 y1 x2 y2
theorem c23 (F d : Nat) (a : Option Addr) (n c : Nat) (l : List Int) (hV : Val l n) (hF : 200 < F) (C : List (List Int)) (hC : chO l = some C) (x y : Int) (hA : Arg x y) : ReadC (CL F (d + 9)) 23 [.sl 1000 a n c, .agg [.int .i64 x, .int .i64 y]] [(1000, .ro a n 4 1 (pf l))] (400000 + 400) (.tup [.int .i64 (Int.ofNat (cnV C x y)), i64 0]) := by
  unfold chO at hC
  cases hco : coO l with
  | none => rw [hco] at hC; cases hC
  | some co =>
    rw [hco] at hC
    simp only at hC
    by_cases h1 : (leB (drL co) && decide (co.length ≤ 4) && decide (¬ co.length < 2) && dvB co (leL (drL co))) = true
    rotate_left
    · rw [if_neg h1] at hC; cases hC
    rw [if_pos h1] at hC
    simp only [Bool.and_eq_true, decide_eq_true_eq] at h1
    obtain ⟨⟨⟨g1, g2⟩, g3⟩, g4⟩ := h1
    by_cases h2 : (leL (drL co)).length < 2
    · rw [if_pos h2] at hC
      injection hC with hC
      subst hC
      exact c23_2 F d a n c l hV hF co hco g2 g1 _ rfl _ _ rfl rfl g3 h2 g4 x y hA
    · rw [if_neg h2] at hC
      by_cases h3 : dvB (leL (drL co)) (tmL (dvR co (leL (drL co))) (-1)) = true
      rotate_left
      · rw [if_neg h3] at hC; cases hC
      rw [if_pos h3] at hC
      have e1 := tmL_len (dvR co (leL (drL co))) (-1)
      by_cases h4 : (tmL (dvR co (leL (drL co))) (-1)).length < 2
      · rw [if_pos h4] at hC
        injection hC with hC
        subst hC
        exact c23_3 F d a n c l hV hF co hco g2 g1 _ rfl _ _ rfl rfl _ _ rfl rfl g3 h2 (by rw [← e1]; exact h4) g4 h3 x y hA
      · rw [if_neg h4] at hC
        by_cases h5 : (dvB (tmL (dvR co (leL (drL co))) (-1)) (tmL (dvR (leL (drL co)) (tmL (dvR co (leL (drL co))) (-1))) (-1)) && decide ((tmL (dvR (leL (drL co)) (tmL (dvR co (leL (drL co))) (-1))) (-1)).length < 2)) = true
        rotate_left
        · rw [if_neg h5] at hC; cases hC
        rw [if_pos h5] at hC
        injection hC with hC
        subst hC
        rw [Bool.and_eq_true, decide_eq_true_eq] at h5
        have e2 := tmL_len (dvR (leL (drL co)) (tmL (dvR co (leL (drL co))) (-1))) (-1)
        exact c23_4 F d a n c l hV hF co hco g2 g1 _ rfl _ _ rfl rfl _ _ rfl rfl _ _ rfl rfl g3 h2 (by rw [← e1]; exact h4) (by rw [← e2]; exact h5.2) g4 h3 h5.1 x y hA
theorem c25 (F d : Nat) (a : Option Addr) (n c : Nat) (l : List Int) (hV : Val l n) (hF : 200 < F) (C : List (List Int)) (hC : chO l = some C) (x1 y1 x2 y2 : Int) (h1 : Arg x1 y1) (h2 : Arg x2 y2) (hle : x1 * y2 ≤ x2 * y1) : ReadC (CL F (d + 11)) 25 [.sl 1000 a n c, .agg [.int .i64 x1, .int .i64 y1], .agg [.int .i64 x2, .int .i64 y2]] [(1000, .ro a n 4 1 (pf l))] (412000 + 400) (.tup [.int .i64 ((cnV C x1 y1 : Int) - (cnV C x2 y2 : Int)), i64 0]) := by
  have k50 := c50 F (d + 6) (by omega) a n c l hV x1 y1 x2 y2 h1 h2 hle
  have k51 := c51 F d a n c l hV hF C hC x1 y1 x2 y2
  intro R
  rw [show 412000 + 400 = (412000) + 400 from rfl, addL_eq, ← Nat.add_assoc, ← addL_eq _ 400, Nat.add_comm R (412000)]
  refine call_in (n := 20) Try.func25 rfl rfl rfl rfl rfl rfl rfl ?_
  repeat' ((conv => whnf); first | refine eqS_rfl ?_ | refine eqA_rfl ?_ | refine eqA_of (by assumption) ?_ | refine eqS_of (by rfl) ?_ | refine eqL_rfl ?_ | refine eqJ_rfl ?_ | refine gE ?_ | refine seS_rfl ?_ | refine lsS_of hup ?_ | refine lsS_rfl ?_ | refine brS_tt ?_ | refine brS_ff ?_ | refine brS_not ?_ | refine gI ?_ | refine gT ?_ | refine gF ?_ | refine brS_intro (fun _ => ?_) (fun _ => ?_) | refine gL ?_ | refine gX ?_ | refine gO ?_ | refine gN ?_ | refine gM ?_ | refine gY ?_ | refine call_readL k50 (addL (411200 + R) 90) (by rfl) (by exact SeesM.cons 1000 (sees_ro (i := 1000) (by rfl)) (SeesM.nil _) (fun _ _ _ _ _ _ x hx => by cases hx)) (nM1) ?_ | refine call_readL k51 (addL R 90) (by rfl) (by exact SeesM.cons 1000 (sees_ro (i := 1000) (by rfl)) (SeesM.nil _) (fun _ _ _ _ _ _ x hx => by cases hx)) (nM1) ?_ | intro _)
  conv => whnf
  exact ⟨rfl, nM1⟩
end Go.Proofs.Ytpncjgiojoehkaa
namespace Go.Proofs.Ytpncjgiojoehkaa
open Go.Ab
attribute [local irreducible] aggOk drwOK
set_option maxRecDepth 100000
set_option maxHeartbeats 4000000
set_option linter.unusedVariables false
set_option linter.unusedSimpArgs false
theorem c75d_2 (F d c2 : Nat) (hF : 200 < F) (a : Option Addr) (c : Nat) (l : List Int) (hl : l.length = 2) (x y : Int) (bp bx bq bs : Nat) : IterC (CL F (d + 3)) (CL F (d + 6)) (.fn 75 [] [.ptr 925 bp 0, .ptr 926 bx 0]) [(925, .own bp 84 [.fn 78 [] [.ptr 927 bq 0, .ptr 928 bs 0]]), (926, .own bx 24 [.int .i64 x, .int .i64 y]), (927, .own bq 71 [.sl 900 a 2 c]), (928, .own bs 91 [.fn 55 [] []]), (900, .ro a 2 4 1 (pf l))] ((c2 + 3300) * 2 + 200) c2 2 (fun k => [.int .i64 (sgP ([l, (drL l)].getD k []) x y)]) := by
  intro i b I Q hr m hI R
  rw [addL_eq, ← Nat.add_assoc, ← addL_eq _ 200, Nat.add_comm R]
  have h0 : l.length = 2 := hl
  have h1 : (drL l).length = 1 := by rw [drL_len, h0]
  have k38_0 := fun a c => c38 F d hF a 2 c (by omega) l h0 x y
  have k38_1 := fun a c => c38 F d hF a 1 c (by omega) (drL l) h1 x y
  have k55_0 := fun a c R => c55 F (d + 3) 911 a 2 c l h0 (by omega) (by omega) R
  refine call_in (n := 13) Try.func75 rfl rfl rfl rfl rfl rfl rfl ?_
  repeat' ((conv => whnf); first | refine eqS_rfl ?_ | refine eqA_rfl ?_ | refine eqA_of (by assumption) ?_ | refine eqS_of (by rfl) ?_ | refine eqL_rfl ?_ | refine eqJ_rfl ?_ | refine gE ?_ | refine seS_rfl ?_ | refine lsS_of hup ?_ | refine lsS_rfl ?_ | refine brS_tt ?_ | refine brS_ff ?_ | refine brS_not ?_ | refine gI ?_ | refine gT ?_ | refine gF ?_ | refine brS_intro (fun _ => ?_) (fun _ => ?_) | refine gL ?_ | refine gX ?_ | refine gO ?_ | refine gN ?_ | refine gM ?_ | refine gY ?_ | refine loS_u 3 (by omega) ?_ | refine call_readL (k38_0 _ _) (addL (((c2 + 3300) * 1 + R) + c2 + 1000) 60) (by rfl) (by exact SeesM.cons 900 (sees_ro (i := 900) (by rfl)) (SeesM.nil _) (fun _ _ _ _ _ _ x hx => by cases hx)) (nM1) ?_ | refine call_round (k := 0) (by assumption) (hr 0 (by omega)) [_, _, _, _, _, _, _, _] (addL (((c2 + 3300) * 1 + R) + 800) 60) (by rfl) (by exact WkM.refl _) (nM1) ?_ ?_ | refine call67 911 (k55_0 _ _) (addL (((c2 + 3300) * 1 + R) + 60) 60) (by rfl) (by exact SeesM.cons 1000 (sees_ro (i := 900) (by rfl)) (SeesM.nil _) (fun _ _ _ _ _ _ x hx => by cases hx)) (nM1) ?_ | refine call_readL (k38_1 _ _) (addL (((c2 + 3300) * 0 + R) + c2 + 1000) 60) (by rfl) (by exact SeesM.cons 900 (sees_gr (i := 911) (by rfl)) (SeesM.nil _) (fun _ _ _ _ _ _ x hx => by cases hx)) (nM1) ?_ | refine call_round (k := 1) (by assumption) (hr 1 (by omega)) [_, _, _, _, _, _, _, _, _] (addL (((c2 + 3300) * 0 + R) + 800) 60) (by rfl) (by exact WkM.refl _) (nM1) ?_ ?_ | refine call_yield ?_ | refine call_pure (c79 F _ _ _ _ _) ?_ | refine call_in (n := 17) Try.func78 rfl rfl rfl rfl rfl rfl rfl ?_ | intro _)
  all_goals conv => whnf
  all_goals exact ⟨nM1, _, by repeat' (first | exact WkM.comm [(925, _), (926, _), (927, _), (928, _), (900, _)] _ | refine WkM.drop ?_), by first | exact .inl (by assumption) | exact .inr (by assumption)⟩
theorem c75d_3 (F d c2 : Nat) (hF : 200 < F) (a : Option Addr) (c : Nat) (l : List Int) (hl : l.length = 3) (x y : Int) (bp bx bq bs : Nat) : IterC (CL F (d + 3)) (CL F (d + 6)) (.fn 75 [] [.ptr 925 bp 0, .ptr 926 bx 0]) [(925, .own bp 84 [.fn 78 [] [.ptr 927 bq 0, .ptr 928 bs 0]]), (926, .own bx 24 [.int .i64 x, .int .i64 y]), (927, .own bq 71 [.sl 900 a 3 c]), (928, .own bs 91 [.fn 55 [] []]), (900, .ro a 3 4 1 (pf l))] ((c2 + 3300) * 3 + 200) c2 3 (fun k => [.int .i64 (sgP ([l, (drL l), (drL (drL l))].getD k []) x y)]) := by
  intro i b I Q hr m hI R
  rw [addL_eq, ← Nat.add_assoc, ← addL_eq _ 200, Nat.add_comm R]
  have h0 : l.length = 3 := hl
  have h1 : (drL l).length = 2 := by rw [drL_len, h0]
  have h2 : (drL (drL l)).length = 1 := by rw [drL_len, h1]
  have k38_0 := fun a c => c38 F d hF a 3 c (by omega) l h0 x y
  have k38_1 := fun a c => c38 F d hF a 2 c (by omega) (drL l) h1 x y
  have k38_2 := fun a c => c38 F d hF a 1 c (by omega) (drL (drL l)) h2 x y
  have k55_0 := fun a c R => c55 F (d + 3) 911 a 3 c l h0 (by omega) (by omega) R
  have k55_1 := fun a c R => c55 F (d + 3) 912 a 2 c (drL l) h1 (by omega) (by omega) R
  refine call_in (n := 13) Try.func75 rfl rfl rfl rfl rfl rfl rfl ?_
  repeat' ((conv => whnf); first | refine eqS_rfl ?_ | refine eqA_rfl ?_ | refine eqA_of (by assumption) ?_ | refine eqS_of (by rfl) ?_ | refine eqL_rfl ?_ | refine eqJ_rfl ?_ | refine gE ?_ | refine seS_rfl ?_ | refine lsS_of hup ?_ | refine lsS_rfl ?_ | refine brS_tt ?_ | refine brS_ff ?_ | refine brS_not ?_ | refine gI ?_ | refine gT ?_ | refine gF ?_ | refine brS_intro (fun _ => ?_) (fun _ => ?_) | refine gL ?_ | refine gX ?_ | refine gO ?_ | refine gN ?_ | refine gM ?_ | refine gY ?_ | refine loS_u 4 (by omega) ?_ | refine call_readL (k38_0 _ _) (addL (((c2 + 3300) * 2 + R) + c2 + 1000) 60) (by rfl) (by exact SeesM.cons 900 (sees_ro (i := 900) (by rfl)) (SeesM.nil _) (fun _ _ _ _ _ _ x hx => by cases hx)) (nM1) ?_ | refine call_round (k := 0) (by assumption) (hr 0 (by omega)) [_, _, _, _, _, _, _, _] (addL (((c2 + 3300) * 2 + R) + 800) 60) (by rfl) (by exact WkM.refl _) (nM1) ?_ ?_ | refine call67 911 (k55_0 _ _) (addL (((c2 + 3300) * 2 + R) + 60) 60) (by rfl) (by exact SeesM.cons 1000 (sees_ro (i := 900) (by rfl)) (SeesM.nil _) (fun _ _ _ _ _ _ x hx => by cases hx)) (nM1) ?_ | refine call_readL (k38_1 _ _) (addL (((c2 + 3300) * 1 + R) + c2 + 1000) 60) (by rfl) (by exact SeesM.cons 900 (sees_gr (i := 911) (by rfl)) (SeesM.nil _) (fun _ _ _ _ _ _ x hx => by cases hx)) (nM1) ?_ | refine call_round (k := 1) (by assumption) (hr 1 (by omega)) [_, _, _, _, _, _, _, _, _] (addL (((c2 + 3300) * 1 + R) + 800) 60) (by rfl) (by exact WkM.refl _) (nM1) ?_ ?_ | refine call67 912 (k55_1 _ _) (addL (((c2 + 3300) * 1 + R) + 60) 60) (by rfl) (by exact SeesM.cons 1000 (sees_gr (i := 911) (by rfl)) (SeesM.nil _) (fun _ _ _ _ _ _ x hx => by cases hx)) (nM1) ?_ | refine call_readL (k38_2 _ _) (addL (((c2 + 3300) * 0 + R) + c2 + 1000) 60) (by rfl) (by exact SeesM.cons 900 (sees_gr (i := 912) (by rfl)) (SeesM.nil _) (fun _ _ _ _ _ _ x hx => by cases hx)) (nM1) ?_ | refine call_round (k := 2) (by assumption) (hr 2 (by omega)) [_, _, _, _, _, _, _, _, _, _] (addL (((c2 + 3300) * 0 + R) + 800) 60) (by rfl) (by exact WkM.refl _) (nM1) ?_ ?_ | refine call_yield ?_ | refine call_pure (c79 F _ _ _ _ _) ?_ | refine call_in (n := 17) Try.func78 rfl rfl rfl rfl rfl rfl rfl ?_ | intro _)
  all_goals conv => whnf
  all_goals exact ⟨nM1, _, by repeat' (first | exact WkM.comm [(925, _), (926, _), (927, _), (928, _), (900, _)] _ | refine WkM.drop ?_), by first | exact .inl (by assumption) | exact .inr (by assumption)⟩
theorem c75d_4 (F d c2 : Nat) (hF : 200 < F) (a : Option Addr) (c : Nat) (l : List Int) (hl : l.length = 4) (x y : Int) (bp bx bq bs : Nat) : IterC (CL F (d + 3)) (CL F (d + 6)) (.fn 75 [] [.ptr 925 bp 0, .ptr 926 bx 0]) [(925, .own bp 84 [.fn 78 [] [.ptr 927 bq 0, .ptr 928 bs 0]]), (926, .own bx 24 [.int .i64 x, .int .i64 y]), (927, .own bq 71 [.sl 900 a 4 c]), (928, .own bs 91 [.fn 55 [] []]), (900, .ro a 4 4 1 (pf l))] ((c2 + 3300) * 4 + 200) c2 4 (fun k => [.int .i64 (sgP ([l, (drL l), (drL (drL l)), (drL (drL (drL l)))].getD k []) x y)]) := by
  intro i b I Q hr m hI R
  rw [addL_eq, ← Nat.add_assoc, ← addL_eq _ 200, Nat.add_comm R]
  have h0 : l.length = 4 := hl
  have h1 : (drL l).length = 3 := by rw [drL_len, h0]
  have h2 : (drL (drL l)).length = 2 := by rw [drL_len, h1]
  have h3 : (drL (drL (drL l))).length = 1 := by rw [drL_len, h2]
  have k38_0 := fun a c => c38 F d hF a 4 c (by omega) l h0 x y
  have k38_1 := fun a c => c38 F d hF a 3 c (by omega) (drL l) h1 x y
  have k38_2 := fun a c => c38 F d hF a 2 c (by omega) (drL (drL l)) h2 x y
  have k38_3 := fun a c => c38 F d hF a 1 c (by omega) (drL (drL (drL l))) h3 x y
  have k55_0 := fun a c R => c55 F (d + 3) 911 a 4 c l h0 (by omega) (by omega) R
  have k55_1 := fun a c R => c55 F (d + 3) 912 a 3 c (drL l) h1 (by omega) (by omega) R
  have k55_2 := fun a c R => c55 F (d + 3) 913 a 2 c (drL (drL l)) h2 (by omega) (by omega) R
  refine call_in (n := 13) Try.func75 rfl rfl rfl rfl rfl rfl rfl ?_
  repeat' ((conv => whnf); first | refine eqS_rfl ?_ | refine eqA_rfl ?_ | refine eqA_of (by assumption) ?_ | refine eqS_of (by rfl) ?_ | refine eqL_rfl ?_ | refine eqJ_rfl ?_ | refine gE ?_ | refine seS_rfl ?_ | refine lsS_of hup ?_ | refine lsS_rfl ?_ | refine brS_tt ?_ | refine brS_ff ?_ | refine brS_not ?_ | refine gI ?_ | refine gT ?_ | refine gF ?_ | refine brS_intro (fun _ => ?_) (fun _ => ?_) | refine gL ?_ | refine gX ?_ | refine gO ?_ | refine gN ?_ | refine gM ?_ | refine gY ?_ | refine loS_u 5 (by omega) ?_ | refine call_readL (k38_0 _ _) (addL (((c2 + 3300) * 3 + R) + c2 + 1000) 60) (by rfl) (by exact SeesM.cons 900 (sees_ro (i := 900) (by rfl)) (SeesM.nil _) (fun _ _ _ _ _ _ x hx => by cases hx)) (nM1) ?_ | refine call_round (k := 0) (by assumption) (hr 0 (by omega)) [_, _, _, _, _, _, _, _] (addL (((c2 + 3300) * 3 + R) + 800) 60) (by rfl) (by exact WkM.refl _) (nM1) ?_ ?_ | refine call67 911 (k55_0 _ _) (addL (((c2 + 3300) * 3 + R) + 60) 60) (by rfl) (by exact SeesM.cons 1000 (sees_ro (i := 900) (by rfl)) (SeesM.nil _) (fun _ _ _ _ _ _ x hx => by cases hx)) (nM1) ?_ | refine call_readL (k38_1 _ _) (addL (((c2 + 3300) * 2 + R) + c2 + 1000) 60) (by rfl) (by exact SeesM.cons 900 (sees_gr (i := 911) (by rfl)) (SeesM.nil _) (fun _ _ _ _ _ _ x hx => by cases hx)) (nM1) ?_ | refine call_round (k := 1) (by assumption) (hr 1 (by omega)) [_, _, _, _, _, _, _, _, _] (addL (((c2 + 3300) * 2 + R) + 800) 60) (by rfl) (by exact WkM.refl _) (nM1) ?_ ?_ | refine call67 912 (k55_1 _ _) (addL (((c2 + 3300) * 2 + R) + 60) 60) (by rfl) (by exact SeesM.cons 1000 (sees_gr (i := 911) (by rfl)) (SeesM.nil _) (fun _ _ _ _ _ _ x hx => by cases hx)) (nM1) ?_ | refine call_readL (k38_2 _ _) (addL (((c2 + 3300) * 1 + R) + c2 + 1000) 60) (by rfl) (by exact SeesM.cons 900 (sees_gr (i := 912) (by rfl)) (SeesM.nil _) (fun _ _ _ _ _ _ x hx => by cases hx)) (nM1) ?_ | refine call_round (k := 2) (by assumption) (hr 2 (by omega)) [_, _, _, _, _, _, _, _, _, _] (addL (((c2 + 3300) * 1 + R) + 800) 60) (by rfl) (by exact WkM.refl _) (nM1) ?_ ?_ | refine call67 913 (k55_2 _ _) (addL (((c2 + 3300) * 1 + R) + 60) 60) (by rfl) (by exact SeesM.cons 1000 (sees_gr (i := 912) (by rfl)) (SeesM.nil _) (fun _ _ _ _ _ _ x hx => by cases hx)) (nM1) ?_ | refine call_readL (k38_3 _ _) (addL (((c2 + 3300) * 0 + R) + c2 + 1000) 60) (by rfl) (by exact SeesM.cons 900 (sees_gr (i := 913) (by rfl)) (SeesM.nil _) (fun _ _ _ _ _ _ x hx => by cases hx)) (nM1) ?_ | refine call_round (k := 3) (by assumption) (hr 3 (by omega)) [_, _, _, _, _, _, _, _, _, _, _] (addL (((c2 + 3300) * 0 + R) + 800) 60) (by rfl) (by exact WkM.refl _) (nM1) ?_ ?_ | refine call_yield ?_ | refine call_pure (c79 F _ _ _ _ _) ?_ | refine call_in (n := 17) Try.func78 rfl rfl rfl rfl rfl rfl rfl ?_ | intro _)
  all_goals conv => whnf
  all_goals exact ⟨nM1, _, by repeat' (first | exact WkM.comm [(925, _), (926, _), (927, _), (928, _), (900, _)] _ | refine WkM.drop ?_), by first | exact .inl (by assumption) | exact .inr (by assumption)⟩
end Go.Proofs.Ytpncjgiojoehkaa
namespace Go.Proofs.Ytpncjgiojoehkaa
open Go.Ab
attribute [local irreducible] aggOk drwOK
set_option maxRecDepth 100000
set_option maxHeartbeats 4000000
set_option linter.unusedVariables false
set_option linter.unusedSimpArgs false
theorem c47d_2 (F d : Nat) (hF : 200 < F) (a : Option Addr) (c : Nat) (l : List Int) (hl : l.length = 2) (x y : Int) (bq bs : Nat) (rest : Mem) (R : Nat) :
    callS (CL F (d + 8)) (.fn 47 [] []) [.fn 78 [] [.ptr 927 bq 0, .ptr 928 bs 0], .agg [.int .i64 x, .int .i64 y]] ([(927, .own bq 71 [.sl 900 a 2 c]), (928, .own bs 91 [.fn 55 [] []]), (900, .ro a 2 4 1 (pf l))] ++ rest) (addL R (3500 * 2 + 400 + 100)) 1000 fun w m' R' _ => R ≤ R' ∧ den w = .int .i64 (Int.ofNat (chN (fun k => (sgP ([l, (drL l)].getD k []) x y)) 2).2) ∧ WkM m' ([(927, .own bq 71 [.sl 900 a 2 c]), (928, .own bs 91 [.fn 55 [] []]), (900, .ro a 2 4 1 (pf l))] ++ rest) := by
  rw [addL_eq, show R + (3500 * 2 + 400 + 100) = (3500 * 2 + 400) + R + 100 by omega, ← addL_eq _ 100]
  refine callS.ni 3000 ?_
  refine call_in (n := 7) Try.func47 rfl rfl rfl rfl rfl rfl rfl ?_
  repeat' ((conv => whnf); first | refine eqS_rfl ?_ | refine eqA_rfl ?_ | refine eqA_of (by assumption) ?_ | refine eqS_of (by rfl) ?_ | refine eqL_rfl ?_ | refine eqJ_rfl ?_ | refine gE ?_ | refine seS_rfl ?_ | refine lsS_of hup ?_ | refine lsS_rfl ?_ | refine brS_tt ?_ | refine brS_ff ?_ | refine brS_not ?_ | refine gI ?_ | refine gT ?_ | refine gF ?_ | refine brS_intro (fun _ => ?_) (fun _ => ?_) | refine gL ?_ | refine gX ?_ | refine gO ?_ | refine gN ?_ | refine call_in (n := 24) Try.func74 rfl rfl rfl rfl rfl rfl rfl ?_ | intro _)
  rename_i bp bx b3 b4 b5 b1 b2
  have hcl : ∀ k, k ≤ 2 → (chN (fun k => (sgP ([l, (drL l)].getD k []) x y)) k).2 ≤ k := fun k _ => chN_le _ k
  refine call_iter2 (c75d_2 F d 100 hF a c l hl x y bp bx bq bs) (fun k m => m = [(3005, lopF Try.f74 0 b2 .ready none 24 [(3, .ptr 3002 b3 0), (4, .ptr 3003 b4 0), (5, .ptr 3004 b5 0)] b1), (dfN, .dfr [b1]), (3002, .own b3 3 [.int .i64 0]), (3003, .own b4 3 [.int .i64 (chN (fun k => (sgP ([l, (drL l)].getD k []) x y)) k).1]), (3004, .own b5 3 [.int .i64 (Int.ofNat (chN (fun k => (sgP ([l, (drL l)].getD k []) x y)) k).2)])] ++ rest) (fun _ => False) ([(3005, lopF Try.f74 0 b2 .ready none 24 [(3, .ptr 3002 b3 0), (4, .ptr 3003 b4 0), (5, .ptr 3004 b5 0)] b1), (dfN, .dfr [b1]), (3002, .own b3 3 [.int .i64 0]), (3003, .own b4 3 [.int .i64 (chN (fun k => (sgP ([l, (drL l)].getD k []) x y)) 0).1]), (3004, .own b5 3 [.int .i64 (Int.ofNat (chN (fun k => (sgP ([l, (drL l)].getD k []) x y)) 0).2)])] ++ rest) (addL R 60) (by rfl) (by exact (WkM.lop (i := 3005) (j := 3005) (f' := [(3, .ptr 3002 b3 0), (4, .ptr 3003 b4 0), (5, .ptr 3004 b5 0)]) ⟨eqF_rfl _, eqF_rfl _, eqF_rfl _, trivial⟩ (WkM.refl _)).trans WS) rfl ?_ (nM1) ?_
  · rintro k hk _ rfl me' R
    have hck := hcl k (by omega)
    refine call_yield ?_
    obtain ⟨sv, hsv⟩ : ∃ z, z = (sgP ([l, (drL l)].getD k []) x y) := ⟨_, rfl⟩
    obtain ⟨bv, hbv⟩ : ∃ z, z = (chN (fun k => (sgP ([l, (drL l)].getD k []) x y)) k).1 := ⟨_, rfl⟩
    obtain ⟨cn, hcn⟩ : ∃ z, z = (chN (fun k => (sgP ([l, (drL l)].getD k []) x y)) k).2 := ⟨_, rfl⟩
    have hst : chN (fun k => (sgP ([l, (drL l)].getD k []) x y)) (k + 1) = if sv = 0 then (bv, cn) else (sv, if bv ≠ 0 ∧ sv ≠ bv then cn + 1 else cn) := by rw [hsv, hbv, hcn]; rfl
    rw [← hcn] at hck
    rw [← hsv, ← hbv, ← hcn]
    by_cases h0 : sv = 0
    · have d1 : iEq sv 0 = true := by rw [iEq_eq]; exact decide_eq_true h0
      rw [if_pos h0] at hst
      repeat' ((conv => whnf); first | refine eqS_rfl ?_ | refine eqA_rfl ?_ | refine eqA_of (by assumption) ?_ | refine eqS_of (by rfl) ?_ | refine eqL_rfl ?_ | refine eqJ_rfl ?_ | refine gE ?_ | refine seS_rfl ?_ | refine lsS_of hup ?_ | refine lsS_rfl ?_ | refine brS_tt ?_ | refine brS_ff ?_ | refine brS_not ?_ | refine gI ?_ | refine gT ?_ | refine gF ?_ | refine brS_intro (fun _ => ?_) (fun _ => ?_) | refine gL ?_ | refine gX ?_ | refine gO ?_ | refine gN ?_ | intro _)
      conv => whnf
      exact ⟨nM1, [(3005, lopF Try.f74 0 b2 .ready none 24 [(3, .ptr 3002 b3 0), (4, .ptr 3003 b4 0), (5, .ptr 3004 b5 0)] b1), (dfN, .dfr [b1]), (3002, .own b3 3 [.int .i64 0]), (3003, .own b4 3 [.int .i64 (chN (fun k => (sgP ([l, (drL l)].getD k []) x y)) (k + 1)).1]), (3004, .own b5 3 [.int .i64 (Int.ofNat (chN (fun k => (sgP ([l, (drL l)].getD k []) x y)) (k + 1)).2)])] ++ rest, (by rw [hst]; exact WS), .inl ⟨rfl, rfl⟩⟩
    · have d1 : iEq sv 0 = false := by rw [iEq_eq]; exact decide_eq_false h0
      rw [if_neg h0] at hst
      by_cases h1 : bv = 0
      · have d2 : iEq bv 0 = true := by rw [iEq_eq]; exact decide_eq_true h1
        rw [if_neg (fun h => h.1 h1)] at hst
        repeat' ((conv => whnf); first | refine eqS_rfl ?_ | refine eqA_rfl ?_ | refine eqA_of (by assumption) ?_ | refine eqS_of (by rfl) ?_ | refine eqL_rfl ?_ | refine eqJ_rfl ?_ | refine gE ?_ | refine seS_rfl ?_ | refine lsS_of hup ?_ | refine lsS_rfl ?_ | refine brS_tt ?_ | refine brS_ff ?_ | refine brS_not ?_ | refine gI ?_ | refine gT ?_ | refine gF ?_ | refine brS_intro (fun _ => ?_) (fun _ => ?_) | refine gL ?_ | refine gX ?_ | refine gO ?_ | refine gN ?_ | intro _)
        conv => whnf
        exact ⟨nM1, [(3005, lopF Try.f74 0 b2 .ready none 24 [(3, .ptr 3002 b3 0), (4, .ptr 3003 b4 0), (5, .ptr 3004 b5 0)] b1), (dfN, .dfr [b1]), (3002, .own b3 3 [.int .i64 0]), (3003, .own b4 3 [.int .i64 (chN (fun k => (sgP ([l, (drL l)].getD k []) x y)) (k + 1)).1]), (3004, .own b5 3 [.int .i64 (Int.ofNat (chN (fun k => (sgP ([l, (drL l)].getD k []) x y)) (k + 1)).2)])] ++ rest, (by rw [hst]; exact WS), .inl ⟨rfl, rfl⟩⟩
      · have d2 : iEq bv 0 = false := by rw [iEq_eq]; exact decide_eq_false h1
        by_cases h2 : sv = bv
        · have d3 : iEq sv bv = true := by rw [iEq_eq]; exact decide_eq_true h2
          rw [if_neg (fun h => h.2 h2)] at hst
          repeat' ((conv => whnf); first | refine eqS_rfl ?_ | refine eqA_rfl ?_ | refine eqA_of (by assumption) ?_ | refine eqS_of (by rfl) ?_ | refine eqL_rfl ?_ | refine eqJ_rfl ?_ | refine gE ?_ | refine seS_rfl ?_ | refine lsS_of hup ?_ | refine lsS_rfl ?_ | refine brS_tt ?_ | refine brS_ff ?_ | refine brS_not ?_ | refine gI ?_ | refine gT ?_ | refine gF ?_ | refine brS_intro (fun _ => ?_) (fun _ => ?_) | refine gL ?_ | refine gX ?_ | refine gO ?_ | refine gN ?_ | intro _)
          conv => whnf
          exact ⟨nM1, [(3005, lopF Try.f74 0 b2 .ready none 24 [(3, .ptr 3002 b3 0), (4, .ptr 3003 b4 0), (5, .ptr 3004 b5 0)] b1), (dfN, .dfr [b1]), (3002, .own b3 3 [.int .i64 0]), (3003, .own b4 3 [.int .i64 (chN (fun k => (sgP ([l, (drL l)].getD k []) x y)) (k + 1)).1]), (3004, .own b5 3 [.int .i64 (Int.ofNat (chN (fun k => (sgP ([l, (drL l)].getD k []) x y)) (k + 1)).2)])] ++ rest, (by rw [hst]; exact WS), .inl ⟨rfl, rfl⟩⟩
        · have d3 : iEq sv bv = false := by rw [iEq_eq]; exact decide_eq_false h2
          rw [if_pos ⟨h1, h2⟩] at hst
          have hc1 : wr .i64 (Int.add (Int.ofNat cn) 1) = Int.ofNat (cn + 1) := smn (i := cn + 1) (by omega)
          repeat' ((conv => whnf); first | refine eqS_rfl ?_ | refine eqA_rfl ?_ | refine eqA_of (by assumption) ?_ | refine eqS_of (by rfl) ?_ | refine eqL_rfl ?_ | refine eqJ_rfl ?_ | refine gE ?_ | refine seS_rfl ?_ | refine lsS_of hup ?_ | refine lsS_rfl ?_ | refine brS_tt ?_ | refine brS_ff ?_ | refine brS_not ?_ | refine gI ?_ | refine gT ?_ | refine gF ?_ | refine brS_intro (fun _ => ?_) (fun _ => ?_) | refine gL ?_ | refine gX ?_ | refine gO ?_ | refine gN ?_ | intro _)
          conv => whnf
          exact ⟨nM1, [(3005, lopF Try.f74 0 b2 .ready none 24 [(3, .ptr 3002 b3 0), (4, .ptr 3003 b4 0), (5, .ptr 3004 b5 0)] b1), (dfN, .dfr [b1]), (3002, .own b3 3 [.int .i64 0]), (3003, .own b4 3 [.int .i64 (chN (fun k => (sgP ([l, (drL l)].getD k []) x y)) (k + 1)).1]), (3004, .own b5 3 [.int .i64 (Int.ofNat (chN (fun k => (sgP ([l, (drL l)].getD k []) x y)) (k + 1)).2)])] ++ rest, (by rw [hst, ← hc1]; exact WS), .inl ⟨rfl, rfl⟩⟩
  · rintro _ _ (rfl | h)
    · skip
      repeat' ((conv => whnf); first | refine eqS_rfl ?_ | refine eqA_rfl ?_ | refine eqA_of (by assumption) ?_ | refine eqS_of (by rfl) ?_ | refine eqL_rfl ?_ | refine eqJ_rfl ?_ | refine gE ?_ | refine seS_rfl ?_ | refine lsS_of hup ?_ | refine lsS_rfl ?_ | refine brS_tt ?_ | refine brS_ff ?_ | refine brS_not ?_ | refine gI ?_ | refine gT ?_ | refine gF ?_ | refine brS_intro (fun _ => ?_) (fun _ => ?_) | refine gL ?_ | refine gX ?_ | refine gO ?_ | refine gN ?_ | intro _)
      conv => whnf
      exact ⟨nM1, rfl, WS⟩
    · exact h.elim
theorem call47d_2 {F d N : Nat} {a : Option Addr} {c : Nat} {l : List Int} {x y : Int} {bq bs : Nat} {rest : Mem} {v : Nat}
    (h : ∀ R, callS (CL F (d + 8)) (.fn 47 [] []) [.fn 78 [] [.ptr 927 bq 0, .ptr 928 bs 0], .agg [.int .i64 x, .int .i64 y]] ([(927, .own bq 71 [.sl 900 a 2 c]), (928, .own bs 91 [.fn 55 [] []]), (900, .ro a 2 4 1 (pf l))] ++ rest) (addL R N) 1000 fun w m' R' _ => R ≤ R' ∧ den w = .int .i64 (Int.ofNat v) ∧ WkM m' ([(927, .own bq 71 [.sl 900 a 2 c]), (928, .own bs 91 [.fn 55 [] []]), (900, .ro a 2 4 1 (pf l))] ++ rest))
    (R2 : Nat) {args : List SV} {m : Mem} {R ni : Nat} {K : SV → Mem → Nat → Nat → Prop} (ha : dens args = dens [.fn 78 [] [.ptr 927 bq 0, .ptr 928 bs 0], .agg [.int .i64 x, .int .i64 y]]) (hw : WkM m ([(927, .own bq 71 [.sl 900 a 2 c]), (928, .own bs 91 [.fn 55 [] []]), (900, .ro a 2 4 1 (pf l))] ++ rest)) (hN : R2 + N ≤ R)
    (hK : K (.int .i64 (Int.ofNat v)) ([(927, .own bq 71 [.sl 900 a 2 c]), (928, .own bs 91 [.fn 55 [] []]), (900, .ro a 2 4 1 (pf l))] ++ rest) R2 ni) : callS (CL F (d + 8)) (.fn 47 [] []) args m R ni K := by
  refine callS.cast (fv' := .fn 47 [] []) rfl ha ?_
  refine callS.wk hw ?_
  have h1 := h (R - N)
  rw [addL_eq, Nat.sub_add_cancel (by omega)] at h1
  exact call_post h1 fun w m' R' n' ⟨hR, e, hw1⟩ => ⟨.int .i64 (Int.ofNat v), _, R2, ni, e, hw1, by omega, hK⟩
theorem c53d_2 (F d : Nat) (hF : 200 < F) (a : Option Addr) (c : Nat) (l : List Int) (hl : l.length = 2) (x1 y1 x2 y2 : Int) (bq bs : Nat) (rest : Mem) (R : Nat) :
    callS (CL F (d + 9)) (.fn 53 [] []) [.fn 78 [] [.ptr 927 bq 0, .ptr 928 bs 0], .agg [.int .i64 x1, .int .i64 y1], .agg [.int .i64 x2, .int .i64 y2]] ([(927, .own bq 71 [.sl 900 a 2 c]), (928, .own bs 91 [.fn 55 [] []]), (900, .ro a 2 4 1 (pf l))] ++ rest) (addL R (30000 + 200)) 2000 fun w m' R' _ => R ≤ R' ∧ den w = .int .i64 (((chN (fun k => (sgP ([l, (drL l)].getD k []) x1 y1)) 2).2 : Int) - ((chN (fun k => (sgP ([l, (drL l)].getD k []) x2 y2)) 2).2 : Int)) ∧ WkM m' ([(927, .own bq 71 [.sl 900 a 2 c]), (928, .own bs 91 [.fn 55 [] []]), (900, .ro a 2 4 1 (pf l))] ++ rest) := by
  rw [addL_eq, show R + (30000 + 200) = 30000 + R + 200 by omega, ← addL_eq _ 200]
  refine callS.ni 2000 ?_
  obtain ⟨v1, hv1⟩ : ∃ v, v = (chN (fun k => (sgP ([l, (drL l)].getD k []) x1 y1)) 2).2 := ⟨_, rfl⟩
  obtain ⟨v2, hv2⟩ : ∃ v, v = (chN (fun k => (sgP ([l, (drL l)].getD k []) x2 y2)) 2).2 := ⟨_, rfl⟩
  have b1 : v1 ≤ 4 := by rw [hv1]; exact Nat.le_trans (chN_le _ _) (by decide)
  have b2 : v2 ≤ 4 := by rw [hv2]; exact Nat.le_trans (chN_le _ _) (by decide)
  have es : wr .i64 (Int.sub (Int.ofNat v1) (Int.ofNat v2)) = (v1 : Int) - (v2 : Int) := sm (by show -1000000000000 ≤ (v1 : Int) - (v2 : Int) ∧ (v1 : Int) - (v2 : Int) ≤ 1000000000000; omega)
  have k1 := fun rest R => c47d_2 F d hF a c l hl x1 y1 bq bs rest R
  have k2 := fun rest R => c47d_2 F d hF a c l hl x2 y2 bq bs rest R
  rw [← hv1] at k1
  rw [← hv2] at k2
  rw [← hv1, ← hv2]
  refine call_in (n := 14) Try.func53 rfl rfl rfl rfl rfl rfl rfl ?_
  repeat' ((conv => whnf); first | refine eqS_rfl ?_ | refine eqA_rfl ?_ | refine eqA_of (by assumption) ?_ | refine eqS_of (by rfl) ?_ | refine eqL_rfl ?_ | refine eqJ_rfl ?_ | refine gE ?_ | refine seS_rfl ?_ | refine lsS_of hup ?_ | refine lsS_rfl ?_ | refine brS_tt ?_ | refine brS_ff ?_ | refine brS_not ?_ | refine gI ?_ | refine gT ?_ | refine gF ?_ | refine brS_intro (fun _ => ?_) (fun _ => ?_) | refine gL ?_ | refine gX ?_ | refine gO ?_ | refine gN ?_ | refine gM ?_ | refine gY ?_ | intro _)
  rename_i ba bb
  refine call47d_2 (v := v1) (rest := [(2001, .own bb 24 [.int .i64 x2, .int .i64 y2]), (2000, .own ba 24 [.int .i64 x1, .int .i64 y1])] ++ rest) (fun R => k1 _ R) (addL (15000 + R) 120) (by rfl) WS (nM1) ?_
  repeat' ((conv => whnf); first | refine eqS_rfl ?_ | refine eqA_rfl ?_ | refine eqA_of (by assumption) ?_ | refine eqS_of (by rfl) ?_ | refine eqL_rfl ?_ | refine eqJ_rfl ?_ | refine gE ?_ | refine seS_rfl ?_ | refine lsS_of hup ?_ | refine lsS_rfl ?_ | refine brS_tt ?_ | refine brS_ff ?_ | refine brS_not ?_ | refine gI ?_ | refine gT ?_ | refine gF ?_ | refine brS_intro (fun _ => ?_) (fun _ => ?_) | refine gL ?_ | refine gX ?_ | refine gO ?_ | refine gN ?_ | refine gM ?_ | refine gY ?_ | intro _)
  refine call47d_2 (v := v2) (rest := [(2001, .own bb 24 [.int .i64 x2, .int .i64 y2]), (2000, .own ba 24 [.int .i64 x1, .int .i64 y1])] ++ rest) (fun R => k2 _ R) (addL R 100) (by rfl) WS (nM1) ?_
  repeat' ((conv => whnf); first | refine eqS_rfl ?_ | refine eqA_rfl ?_ | refine eqA_of (by assumption) ?_ | refine eqS_of (by rfl) ?_ | refine eqL_rfl ?_ | refine eqJ_rfl ?_ | refine gE ?_ | refine seS_rfl ?_ | refine lsS_of hup ?_ | refine lsS_rfl ?_ | refine brS_tt ?_ | refine brS_ff ?_ | refine brS_not ?_ | refine gI ?_ | refine gT ?_ | refine gF ?_ | refine brS_intro (fun _ => ?_) (fun _ => ?_) | refine gL ?_ | refine gX ?_ | refine gO ?_ | refine gN ?_ | refine gM ?_ | refine gY ?_ | intro _)
  conv => whnf
  exact ⟨nM1, congrArg (Value.int .i64) es, WS⟩
theorem c47d_3 (F d : Nat) (hF : 200 < F) (a : Option Addr) (c : Nat) (l : List Int) (hl : l.length = 3) (x y : Int) (bq bs : Nat) (rest : Mem) (R : Nat) :
    callS (CL F (d + 8)) (.fn 47 [] []) [.fn 78 [] [.ptr 927 bq 0, .ptr 928 bs 0], .agg [.int .i64 x, .int .i64 y]] ([(927, .own bq 71 [.sl 900 a 3 c]), (928, .own bs 91 [.fn 55 [] []]), (900, .ro a 3 4 1 (pf l))] ++ rest) (addL R (3500 * 3 + 400 + 100)) 1000 fun w m' R' _ => R ≤ R' ∧ den w = .int .i64 (Int.ofNat (chN (fun k => (sgP ([l, (drL l), (drL (drL l))].getD k []) x y)) 3).2) ∧ WkM m' ([(927, .own bq 71 [.sl 900 a 3 c]), (928, .own bs 91 [.fn 55 [] []]), (900, .ro a 3 4 1 (pf l))] ++ rest) := by
  rw [addL_eq, show R + (3500 * 3 + 400 + 100) = (3500 * 3 + 400) + R + 100 by omega, ← addL_eq _ 100]
  refine callS.ni 3000 ?_
  refine call_in (n := 7) Try.func47 rfl rfl rfl rfl rfl rfl rfl ?_
  repeat' ((conv => whnf); first | refine eqS_rfl ?_ | refine eqA_rfl ?_ | refine eqA_of (by assumption) ?_ | refine eqS_of (by rfl) ?_ | refine eqL_rfl ?_ | refine eqJ_rfl ?_ | refine gE ?_ | refine seS_rfl ?_ | refine lsS_of hup ?_ | refine lsS_rfl ?_ | refine brS_tt ?_ | refine brS_ff ?_ | refine brS_not ?_ | refine gI ?_ | refine gT ?_ | refine gF ?_ | refine brS_intro (fun _ => ?_) (fun _ => ?_) | refine gL ?_ | refine gX ?_ | refine gO ?_ | refine gN ?_ | refine call_in (n := 24) Try.func74 rfl rfl rfl rfl rfl rfl rfl ?_ | intro _)
  rename_i bp bx b3 b4 b5 b1 b2
  have hcl : ∀ k, k ≤ 3 → (chN (fun k => (sgP ([l, (drL l), (drL (drL l))].getD k []) x y)) k).2 ≤ k := fun k _ => chN_le _ k
  refine call_iter2 (c75d_3 F d 100 hF a c l hl x y bp bx bq bs) (fun k m => m = [(3005, lopF Try.f74 0 b2 .ready none 24 [(3, .ptr 3002 b3 0), (4, .ptr 3003 b4 0), (5, .ptr 3004 b5 0)] b1), (dfN, .dfr [b1]), (3002, .own b3 3 [.int .i64 0]), (3003, .own b4 3 [.int .i64 (chN (fun k => (sgP ([l, (drL l), (drL (drL l))].getD k []) x y)) k).1]), (3004, .own b5 3 [.int .i64 (Int.ofNat (chN (fun k => (sgP ([l, (drL l), (drL (drL l))].getD k []) x y)) k).2)])] ++ rest) (fun _ => False) ([(3005, lopF Try.f74 0 b2 .ready none 24 [(3, .ptr 3002 b3 0), (4, .ptr 3003 b4 0), (5, .ptr 3004 b5 0)] b1), (dfN, .dfr [b1]), (3002, .own b3 3 [.int .i64 0]), (3003, .own b4 3 [.int .i64 (chN (fun k => (sgP ([l, (drL l), (drL (drL l))].getD k []) x y)) 0).1]), (3004, .own b5 3 [.int .i64 (Int.ofNat (chN (fun k => (sgP ([l, (drL l), (drL (drL l))].getD k []) x y)) 0).2)])] ++ rest) (addL R 60) (by rfl) (by exact (WkM.lop (i := 3005) (j := 3005) (f' := [(3, .ptr 3002 b3 0), (4, .ptr 3003 b4 0), (5, .ptr 3004 b5 0)]) ⟨eqF_rfl _, eqF_rfl _, eqF_rfl _, trivial⟩ (WkM.refl _)).trans WS) rfl ?_ (nM1) ?_
  · rintro k hk _ rfl me' R
    have hck := hcl k (by omega)
    refine call_yield ?_
    obtain ⟨sv, hsv⟩ : ∃ z, z = (sgP ([l, (drL l), (drL (drL l))].getD k []) x y) := ⟨_, rfl⟩
    obtain ⟨bv, hbv⟩ : ∃ z, z = (chN (fun k => (sgP ([l, (drL l), (drL (drL l))].getD k []) x y)) k).1 := ⟨_, rfl⟩
    obtain ⟨cn, hcn⟩ : ∃ z, z = (chN (fun k => (sgP ([l, (drL l), (drL (drL l))].getD k []) x y)) k).2 := ⟨_, rfl⟩
    have hst : chN (fun k => (sgP ([l, (drL l), (drL (drL l))].getD k []) x y)) (k + 1) = if sv = 0 then (bv, cn) else (sv, if bv ≠ 0 ∧ sv ≠ bv then cn + 1 else cn) := by rw [hsv, hbv, hcn]; rfl
    rw [← hcn] at hck
    rw [← hsv, ← hbv, ← hcn]
    by_cases h0 : sv = 0
    · have d1 : iEq sv 0 = true := by rw [iEq_eq]; exact decide_eq_true h0
      rw [if_pos h0] at hst
      repeat' ((conv => whnf); first | refine eqS_rfl ?_ | refine eqA_rfl ?_ | refine eqA_of (by assumption) ?_ | refine eqS_of (by rfl) ?_ | refine eqL_rfl ?_ | refine eqJ_rfl ?_ | refine gE ?_ | refine seS_rfl ?_ | refine lsS_of hup ?_ | refine lsS_rfl ?_ | refine brS_tt ?_ | refine brS_ff ?_ | refine brS_not ?_ | refine gI ?_ | refine gT ?_ | refine gF ?_ | refine brS_intro (fun _ => ?_) (fun _ => ?_) | refine gL ?_ | refine gX ?_ | refine gO ?_ | refine gN ?_ | intro _)
      conv => whnf
      exact ⟨nM1, [(3005, lopF Try.f74 0 b2 .ready none 24 [(3, .ptr 3002 b3 0), (4, .ptr 3003 b4 0), (5, .ptr 3004 b5 0)] b1), (dfN, .dfr [b1]), (3002, .own b3 3 [.int .i64 0]), (3003, .own b4 3 [.int .i64 (chN (fun k => (sgP ([l, (drL l), (drL (drL l))].getD k []) x y)) (k + 1)).1]), (3004, .own b5 3 [.int .i64 (Int.ofNat (chN (fun k => (sgP ([l, (drL l), (drL (drL l))].getD k []) x y)) (k + 1)).2)])] ++ rest, (by rw [hst]; exact WS), .inl ⟨rfl, rfl⟩⟩
    · have d1 : iEq sv 0 = false := by rw [iEq_eq]; exact decide_eq_false h0
      rw [if_neg h0] at hst
      by_cases h1 : bv = 0
      · have d2 : iEq bv 0 = true := by rw [iEq_eq]; exact decide_eq_true h1
        rw [if_neg (fun h => h.1 h1)] at hst
        repeat' ((conv => whnf); first | refine eqS_rfl ?_ | refine eqA_rfl ?_ | refine eqA_of (by assumption) ?_ | refine eqS_of (by rfl) ?_ | refine eqL_rfl ?_ | refine eqJ_rfl ?_ | refine gE ?_ | refine seS_rfl ?_ | refine lsS_of hup ?_ | refine lsS_rfl ?_ | refine brS_tt ?_ | refine brS_ff ?_ | refine brS_not ?_ | refine gI ?_ | refine gT ?_ | refine gF ?_ | refine brS_intro (fun _ => ?_) (fun _ => ?_) | refine gL ?_ | refine gX ?_ | refine gO ?_ | refine gN ?_ | intro _)
        conv => whnf
        exact ⟨nM1, [(3005, lopF Try.f74 0 b2 .ready none 24 [(3, .ptr 3002 b3 0), (4, .ptr 3003 b4 0), (5, .ptr 3004 b5 0)] b1), (dfN, .dfr [b1]), (3002, .own b3 3 [.int .i64 0]), (3003, .own b4 3 [.int .i64 (chN (fun k => (sgP ([l, (drL l), (drL (drL l))].getD k []) x y)) (k + 1)).1]), (3004, .own b5 3 [.int .i64 (Int.ofNat (chN (fun k => (sgP ([l, (drL l), (drL (drL l))].getD k []) x y)) (k + 1)).2)])] ++ rest, (by rw [hst]; exact WS), .inl ⟨rfl, rfl⟩⟩
      · have d2 : iEq bv 0 = false := by rw [iEq_eq]; exact decide_eq_false h1
        by_cases h2 : sv = bv
        · have d3 : iEq sv bv = true := by rw [iEq_eq]; exact decide_eq_true h2
          rw [if_neg (fun h => h.2 h2)] at hst
          repeat' ((conv => whnf); first | refine eqS_rfl ?_ | refine eqA_rfl ?_ | refine eqA_of (by assumption) ?_ | refine eqS_of (by rfl) ?_ | refine eqL_rfl ?_ | refine eqJ_rfl ?_ | refine gE ?_ | refine seS_rfl ?_ | refine lsS_of hup ?_ | refine lsS_rfl ?_ | refine brS_tt ?_ | refine brS_ff ?_ | refine brS_not ?_ | refine gI ?_ | refine gT ?_ | refine gF ?_ | refine brS_intro (fun _ => ?_) (fun _ => ?_) | refine gL ?_ | refine gX ?_ | refine gO ?_ | refine gN ?_ | intro _)
          conv => whnf
          exact ⟨nM1, [(3005, lopF Try.f74 0 b2 .ready none 24 [(3, .ptr 3002 b3 0), (4, .ptr 3003 b4 0), (5, .ptr 3004 b5 0)] b1), (dfN, .dfr [b1]), (3002, .own b3 3 [.int .i64 0]), (3003, .own b4 3 [.int .i64 (chN (fun k => (sgP ([l, (drL l), (drL (drL l))].getD k []) x y)) (k + 1)).1]), (3004, .own b5 3 [.int .i64 (Int.ofNat (chN (fun k => (sgP ([l, (drL l), (drL (drL l))].getD k []) x y)) (k + 1)).2)])] ++ rest, (by rw [hst]; exact WS), .inl ⟨rfl, rfl⟩⟩
        · have d3 : iEq sv bv = false := by rw [iEq_eq]; exact decide_eq_false h2
          rw [if_pos ⟨h1, h2⟩] at hst
          have hc1 : wr .i64 (Int.add (Int.ofNat cn) 1) = Int.ofNat (cn + 1) := smn (i := cn + 1) (by omega)
          repeat' ((conv => whnf); first | refine eqS_rfl ?_ | refine eqA_rfl ?_ | refine eqA_of (by assumption) ?_ | refine eqS_of (by rfl) ?_ | refine eqL_rfl ?_ | refine eqJ_rfl ?_ | refine gE ?_ | refine seS_rfl ?_ | refine lsS_of hup ?_ | refine lsS_rfl ?_ | refine brS_tt ?_ | refine brS_ff ?_ | refine brS_not ?_ | refine gI ?_ | refine gT ?_ | refine gF ?_ | refine brS_intro (fun _ => ?_) (fun _ => ?_) | refine gL ?_ | refine gX ?_ | refine gO ?_ | refine gN ?_ | intro _)
          conv => whnf
          exact ⟨nM1, [(3005, lopF Try.f74 0 b2 .ready none 24 [(3, .ptr 3002 b3 0), (4, .ptr 3003 b4 0), (5, .ptr 3004 b5 0)] b1), (dfN, .dfr [b1]), (3002, .own b3 3 [.int .i64 0]), (3003, .own b4 3 [.int .i64 (chN (fun k => (sgP ([l, (drL l), (drL (drL l))].getD k []) x y)) (k + 1)).1]), (3004, .own b5 3 [.int .i64 (Int.ofNat (chN (fun k => (sgP ([l, (drL l), (drL (drL l))].getD k []) x y)) (k + 1)).2)])] ++ rest, (by rw [hst, ← hc1]; exact WS), .inl ⟨rfl, rfl⟩⟩
  · rintro _ _ (rfl | h)
    · skip
      repeat' ((conv => whnf); first | refine eqS_rfl ?_ | refine eqA_rfl ?_ | refine eqA_of (by assumption) ?_ | refine eqS_of (by rfl) ?_ | refine eqL_rfl ?_ | refine eqJ_rfl ?_ | refine gE ?_ | refine seS_rfl ?_ | refine lsS_of hup ?_ | refine lsS_rfl ?_ | refine brS_tt ?_ | refine brS_ff ?_ | refine brS_not ?_ | refine gI ?_ | refine gT ?_ | refine gF ?_ | refine brS_intro (fun _ => ?_) (fun _ => ?_) | refine gL ?_ | refine gX ?_ | refine gO ?_ | refine gN ?_ | intro _)
      conv => whnf
      exact ⟨nM1, rfl, WS⟩
    · exact h.elim
theorem call47d_3 {F d N : Nat} {a : Option Addr} {c : Nat} {l : List Int} {x y : Int} {bq bs : Nat} {rest : Mem} {v : Nat}
    (h : ∀ R, callS (CL F (d + 8)) (.fn 47 [] []) [.fn 78 [] [.ptr 927 bq 0, .ptr 928 bs 0], .agg [.int .i64 x, .int .i64 y]] ([(927, .own bq 71 [.sl 900 a 3 c]), (928, .own bs 91 [.fn 55 [] []]), (900, .ro a 3 4 1 (pf l))] ++ rest) (addL R N) 1000 fun w m' R' _ => R ≤ R' ∧ den w = .int .i64 (Int.ofNat v) ∧ WkM m' ([(927, .own bq 71 [.sl 900 a 3 c]), (928, .own bs 91 [.fn 55 [] []]), (900, .ro a 3 4 1 (pf l))] ++ rest))
    (R2 : Nat) {args : List SV} {m : Mem} {R ni : Nat} {K : SV → Mem → Nat → Nat → Prop} (ha : dens args = dens [.fn 78 [] [.ptr 927 bq 0, .ptr 928 bs 0], .agg [.int .i64 x, .int .i64 y]]) (hw : WkM m ([(927, .own bq 71 [.sl 900 a 3 c]), (928, .own bs 91 [.fn 55 [] []]), (900, .ro a 3 4 1 (pf l))] ++ rest)) (hN : R2 + N ≤ R)
    (hK : K (.int .i64 (Int.ofNat v)) ([(927, .own bq 71 [.sl 900 a 3 c]), (928, .own bs 91 [.fn 55 [] []]), (900, .ro a 3 4 1 (pf l))] ++ rest) R2 ni) : callS (CL F (d + 8)) (.fn 47 [] []) args m R ni K := by
  refine callS.cast (fv' := .fn 47 [] []) rfl ha ?_
  refine callS.wk hw ?_
  have h1 := h (R - N)
  rw [addL_eq, Nat.sub_add_cancel (by omega)] at h1
  exact call_post h1 fun w m' R' n' ⟨hR, e, hw1⟩ => ⟨.int .i64 (Int.ofNat v), _, R2, ni, e, hw1, by omega, hK⟩
theorem c53d_3 (F d : Nat) (hF : 200 < F) (a : Option Addr) (c : Nat) (l : List Int) (hl : l.length = 3) (x1 y1 x2 y2 : Int) (bq bs : Nat) (rest : Mem) (R : Nat) :
    callS (CL F (d + 9)) (.fn 53 [] []) [.fn 78 [] [.ptr 927 bq 0, .ptr 928 bs 0], .agg [.int .i64 x1, .int .i64 y1], .agg [.int .i64 x2, .int .i64 y2]] ([(927, .own bq 71 [.sl 900 a 3 c]), (928, .own bs 91 [.fn 55 [] []]), (900, .ro a 3 4 1 (pf l))] ++ rest) (addL R (30000 + 200)) 2000 fun w m' R' _ => R ≤ R' ∧ den w = .int .i64 (((chN (fun k => (sgP ([l, (drL l), (drL (drL l))].getD k []) x1 y1)) 3).2 : Int) - ((chN (fun k => (sgP ([l, (drL l), (drL (drL l))].getD k []) x2 y2)) 3).2 : Int)) ∧ WkM m' ([(927, .own bq 71 [.sl 900 a 3 c]), (928, .own bs 91 [.fn 55 [] []]), (900, .ro a 3 4 1 (pf l))] ++ rest) := by
  rw [addL_eq, show R + (30000 + 200) = 30000 + R + 200 by omega, ← addL_eq _ 200]
  refine callS.ni 2000 ?_
  obtain ⟨v1, hv1⟩ : ∃ v, v = (chN (fun k => (sgP ([l, (drL l), (drL (drL l))].getD k []) x1 y1)) 3).2 := ⟨_, rfl⟩
  obtain ⟨v2, hv2⟩ : ∃ v, v = (chN (fun k => (sgP ([l, (drL l), (drL (drL l))].getD k []) x2 y2)) 3).2 := ⟨_, rfl⟩
  have b1 : v1 ≤ 4 := by rw [hv1]; exact Nat.le_trans (chN_le _ _) (by decide)
  have b2 : v2 ≤ 4 := by rw [hv2]; exact Nat.le_trans (chN_le _ _) (by decide)
  have es : wr .i64 (Int.sub (Int.ofNat v1) (Int.ofNat v2)) = (v1 : Int) - (v2 : Int) := sm (by show -1000000000000 ≤ (v1 : Int) - (v2 : Int) ∧ (v1 : Int) - (v2 : Int) ≤ 1000000000000; omega)
  have k1 := fun rest R => c47d_3 F d hF a c l hl x1 y1 bq bs rest R
  have k2 := fun rest R => c47d_3 F d hF a c l hl x2 y2 bq bs rest R
  rw [← hv1] at k1
  rw [← hv2] at k2
  rw [← hv1, ← hv2]
  refine call_in (n := 14) Try.func53 rfl rfl rfl rfl rfl rfl rfl ?_
  repeat' ((conv => whnf); first | refine eqS_rfl ?_ | refine eqA_rfl ?_ | refine eqA_of (by assumption) ?_ | refine eqS_of (by rfl) ?_ | refine eqL_rfl ?_ | refine eqJ_rfl ?_ | refine gE ?_ | refine seS_rfl ?_ | refine lsS_of hup ?_ | refine lsS_rfl ?_ | refine brS_tt ?_ | refine brS_ff ?_ | refine brS_not ?_ | refine gI ?_ | refine gT ?_ | refine gF ?_ | refine brS_intro (fun _ => ?_) (fun _ => ?_) | refine gL ?_ | refine gX ?_ | refine gO ?_ | refine gN ?_ | refine gM ?_ | refine gY ?_ | intro _)
  rename_i ba bb
  refine call47d_3 (v := v1) (rest := [(2001, .own bb 24 [.int .i64 x2, .int .i64 y2]), (2000, .own ba 24 [.int .i64 x1, .int .i64 y1])] ++ rest) (fun R => k1 _ R) (addL (15000 + R) 120) (by rfl) WS (nM1) ?_
  repeat' ((conv => whnf); first | refine eqS_rfl ?_ | refine eqA_rfl ?_ | refine eqA_of (by assumption) ?_ | refine eqS_of (by rfl) ?_ | refine eqL_rfl ?_ | refine eqJ_rfl ?_ | refine gE ?_ | refine seS_rfl ?_ | refine lsS_of hup ?_ | refine lsS_rfl ?_ | refine brS_tt ?_ | refine brS_ff ?_ | refine brS_not ?_ | refine gI ?_ | refine gT ?_ | refine gF ?_ | refine brS_intro (fun _ => ?_) (fun _ => ?_) | refine gL ?_ | refine gX ?_ | refine gO ?_ | refine gN ?_ | refine gM ?_ | refine gY ?_ | intro _)
  refine call47d_3 (v := v2) (rest := [(2001, .own bb 24 [.int .i64 x2, .int .i64 y2]), (2000, .own ba 24 [.int .i64 x1, .int .i64 y1])] ++ rest) (fun R => k2 _ R) (addL R 100) (by rfl) WS (nM1) ?_
  repeat' ((conv => whnf); first | refine eqS_rfl ?_ | refine eqA_rfl ?_ | refine eqA_of (by assumption) ?_ | refine eqS_of (by rfl) ?_ | refine eqL_rfl ?_ | refine eqJ_rfl ?_ | refine gE ?_ | refine seS_rfl ?_ | refine lsS_of hup ?_ | refine lsS_rfl ?_ | refine brS_tt ?_ | refine brS_ff ?_ | refine brS_not ?_ | refine gI ?_ | refine gT ?_ | refine gF ?_ | refine brS_intro (fun _ => ?_) (fun _ => ?_) | refine gL ?_ | refine gX ?_ | refine gO ?_ | refine gN ?_ | refine gM ?_ | refine gY ?_ | intro _)
  conv => whnf
  exact ⟨nM1, congrArg (Value.int .i64) es, WS⟩
theorem c47d_4 (F d : Nat) (hF : 200 < F) (a : Option Addr) (c : Nat) (l : List Int) (hl : l.length = 4) (x y : Int) (bq bs : Nat) (rest : Mem) (R : Nat) :
    callS (CL F (d + 8)) (.fn 47 [] []) [.fn 78 [] [.ptr 927 bq 0, .ptr 928 bs 0], .agg [.int .i64 x, .int .i64 y]] ([(927, .own bq 71 [.sl 900 a 4 c]), (928, .own bs 91 [.fn 55 [] []]), (900, .ro a 4 4 1 (pf l))] ++ rest) (addL R (3500 * 4 + 400 + 100)) 1000 fun w m' R' _ => R ≤ R' ∧ den w = .int .i64 (Int.ofNat (chN (fun k => (sgP ([l, (drL l), (drL (drL l)), (drL (drL (drL l)))].getD k []) x y)) 4).2) ∧ WkM m' ([(927, .own bq 71 [.sl 900 a 4 c]), (928, .own bs 91 [.fn 55 [] []]), (900, .ro a 4 4 1 (pf l))] ++ rest) := by
  rw [addL_eq, show R + (3500 * 4 + 400 + 100) = (3500 * 4 + 400) + R + 100 by omega, ← addL_eq _ 100]
  refine callS.ni 3000 ?_
  refine call_in (n := 7) Try.func47 rfl rfl rfl rfl rfl rfl rfl ?_
  repeat' ((conv => whnf); first | refine eqS_rfl ?_ | refine eqA_rfl ?_ | refine eqA_of (by assumption) ?_ | refine eqS_of (by rfl) ?_ | refine eqL_rfl ?_ | refine eqJ_rfl ?_ | refine gE ?_ | refine seS_rfl ?_ | refine lsS_of hup ?_ | refine lsS_rfl ?_ | refine brS_tt ?_ | refine brS_ff ?_ | refine brS_not ?_ | refine gI ?_ | refine gT ?_ | refine gF ?_ | refine brS_intro (fun _ => ?_) (fun _ => ?_) | refine gL ?_ | refine gX ?_ | refine gO ?_ | refine gN ?_ | refine call_in (n := 24) Try.func74 rfl rfl rfl rfl rfl rfl rfl ?_ | intro _)
  rename_i bp bx b3 b4 b5 b1 b2
  have hcl : ∀ k, k ≤ 4 → (chN (fun k => (sgP ([l, (drL l), (drL (drL l)), (drL (drL (drL l)))].getD k []) x y)) k).2 ≤ k := fun k _ => chN_le _ k
  refine call_iter2 (c75d_4 F d 100 hF a c l hl x y bp bx bq bs) (fun k m => m = [(3005, lopF Try.f74 0 b2 .ready none 24 [(3, .ptr 3002 b3 0), (4, .ptr 3003 b4 0), (5, .ptr 3004 b5 0)] b1), (dfN, .dfr [b1]), (3002, .own b3 3 [.int .i64 0]), (3003, .own b4 3 [.int .i64 (chN (fun k => (sgP ([l, (drL l), (drL (drL l)), (drL (drL (drL l)))].getD k []) x y)) k).1]), (3004, .own b5 3 [.int .i64 (Int.ofNat (chN (fun k => (sgP ([l, (drL l), (drL (drL l)), (drL (drL (drL l)))].getD k []) x y)) k).2)])] ++ rest) (fun _ => False) ([(3005, lopF Try.f74 0 b2 .ready none 24 [(3, .ptr 3002 b3 0), (4, .ptr 3003 b4 0), (5, .ptr 3004 b5 0)] b1), (dfN, .dfr [b1]), (3002, .own b3 3 [.int .i64 0]), (3003, .own b4 3 [.int .i64 (chN (fun k => (sgP ([l, (drL l), (drL (drL l)), (drL (drL (drL l)))].getD k []) x y)) 0).1]), (3004, .own b5 3 [.int .i64 (Int.ofNat (chN (fun k => (sgP ([l, (drL l), (drL (drL l)), (drL (drL (drL l)))].getD k []) x y)) 0).2)])] ++ rest) (addL R 60) (by rfl) (by exact (WkM.lop (i := 3005) (j := 3005) (f' := [(3, .ptr 3002 b3 0), (4, .ptr 3003 b4 0), (5, .ptr 3004 b5 0)]) ⟨eqF_rfl _, eqF_rfl _, eqF_rfl _, trivial⟩ (WkM.refl _)).trans WS) rfl ?_ (nM1) ?_
  · rintro k hk _ rfl me' R
    have hck := hcl k (by omega)
    refine call_yield ?_
    obtain ⟨sv, hsv⟩ : ∃ z, z = (sgP ([l, (drL l), (drL (drL l)), (drL (drL (drL l)))].getD k []) x y) := ⟨_, rfl⟩
    obtain ⟨bv, hbv⟩ : ∃ z, z = (chN (fun k => (sgP ([l, (drL l), (drL (drL l)), (drL (drL (drL l)))].getD k []) x y)) k).1 := ⟨_, rfl⟩
    obtain ⟨cn, hcn⟩ : ∃ z, z = (chN (fun k => (sgP ([l, (drL l), (drL (drL l)), (drL (drL (drL l)))].getD k []) x y)) k).2 := ⟨_, rfl⟩
    have hst : chN (fun k => (sgP ([l, (drL l), (drL (drL l)), (drL (drL (drL l)))].getD k []) x y)) (k + 1) = if sv = 0 then (bv, cn) else (sv, if bv ≠ 0 ∧ sv ≠ bv then cn + 1 else cn) := by rw [hsv, hbv, hcn]; rfl
    rw [← hcn] at hck
    rw [← hsv, ← hbv, ← hcn]
    by_cases h0 : sv = 0
    · have d1 : iEq sv 0 = true := by rw [iEq_eq]; exact decide_eq_true h0
      rw [if_pos h0] at hst
      repeat' ((conv => whnf); first | refine eqS_rfl ?_ | refine eqA_rfl ?_ | refine eqA_of (by assumption) ?_ | refine eqS_of (by rfl) ?_ | refine eqL_rfl ?_ | refine eqJ_rfl ?_ | refine gE ?_ | refine seS_rfl ?_ | refine lsS_of hup ?_ | refine lsS_rfl ?_ | refine brS_tt ?_ | refine brS_ff ?_ | refine brS_not ?_ | refine gI ?_ | refine gT ?_ | refine gF ?_ | refine brS_intro (fun _ => ?_) (fun _ => ?_) | refine gL ?_ | refine gX ?_ | refine gO ?_ | refine gN ?_ | intro _)
      conv => whnf
      exact ⟨nM1, [(3005, lopF Try.f74 0 b2 .ready none 24 [(3, .ptr 3002 b3 0), (4, .ptr 3003 b4 0), (5, .ptr 3004 b5 0)] b1), (dfN, .dfr [b1]), (3002, .own b3 3 [.int .i64 0]), (3003, .own b4 3 [.int .i64 (chN (fun k => (sgP ([l, (drL l), (drL (drL l)), (drL (drL (drL l)))].getD k []) x y)) (k + 1)).1]), (3004, .own b5 3 [.int .i64 (Int.ofNat (chN (fun k => (sgP ([l, (drL l), (drL (drL l)), (drL (drL (drL l)))].getD k []) x y)) (k + 1)).2)])] ++ rest, (by rw [hst]; exact WS), .inl ⟨rfl, rfl⟩⟩
    · have d1 : iEq sv 0 = false := by rw [iEq_eq]; exact decide_eq_false h0
      rw [if_neg h0] at hst
      by_cases h1 : bv = 0
      · have d2 : iEq bv 0 = true := by rw [iEq_eq]; exact decide_eq_true h1
        rw [if_neg (fun h => h.1 h1)] at hst
        repeat' ((conv => whnf); first | refine eqS_rfl ?_ | refine eqA_rfl ?_ | refine eqA_of (by assumption) ?_ | refine eqS_of (by rfl) ?_ | refine eqL_rfl ?_ | refine eqJ_rfl ?_ | refine gE ?_ | refine seS_rfl ?_ | refine lsS_of hup ?_ | refine lsS_rfl ?_ | refine brS_tt ?_ | refine brS_ff ?_ | refine brS_not ?_ | refine gI ?_ | refine gT ?_ | refine gF ?_ | refine brS_intro (fun _ => ?_) (fun _ => ?_) | refine gL ?_ | refine gX ?_ | refine gO ?_ | refine gN ?_ | intro _)
        conv => whnf
        exact ⟨nM1, [(3005, lopF Try.f74 0 b2 .ready none 24 [(3, .ptr 3002 b3 0), (4, .ptr 3003 b4 0), (5, .ptr 3004 b5 0)] b1), (dfN, .dfr [b1]), (3002, .own b3 3 [.int .i64 0]), (3003, .own b4 3 [.int .i64 (chN (fun k => (sgP ([l, (drL l), (drL (drL l)), (drL (drL (drL l)))].getD k []) x y)) (k + 1)).1]), (3004, .own b5 3 [.int .i64 (Int.ofNat (chN (fun k => (sgP ([l, (drL l), (drL (drL l)), (drL (drL (drL l)))].getD k []) x y)) (k + 1)).2)])] ++ rest, (by rw [hst]; exact WS), .inl ⟨rfl, rfl⟩⟩
      · have d2 : iEq bv 0 = false := by rw [iEq_eq]; exact decide_eq_false h1
        by_cases h2 : sv = bv
        · have d3 : iEq sv bv = true := by rw [iEq_eq]; exact decide_eq_true h2
          rw [if_neg (fun h => h.2 h2)] at hst
          repeat' ((conv => whnf); first | refine eqS_rfl ?_ | refine eqA_rfl ?_ | refine eqA_of (by assumption) ?_ | refine eqS_of (by rfl) ?_ | refine eqL_rfl ?_ | refine eqJ_rfl ?_ | refine gE ?_ | refine seS_rfl ?_ | refine lsS_of hup ?_ | refine lsS_rfl ?_ | refine brS_tt ?_ | refine brS_ff ?_ | refine brS_not ?_ | refine gI ?_ | refine gT ?_ | refine gF ?_ | refine brS_intro (fun _ => ?_) (fun _ => ?_) | refine gL ?_ | refine gX ?_ | refine gO ?_ | refine gN ?_ | intro _)
          conv => whnf
          exact ⟨nM1, [(3005, lopF Try.f74 0 b2 .ready none 24 [(3, .ptr 3002 b3 0), (4, .ptr 3003 b4 0), (5, .ptr 3004 b5 0)] b1), (dfN, .dfr [b1]), (3002, .own b3 3 [.int .i64 0]), (3003, .own b4 3 [.int .i64 (chN (fun k => (sgP ([l, (drL l), (drL (drL l)), (drL (drL (drL l)))].getD k []) x y)) (k + 1)).1]), (3004, .own b5 3 [.int .i64 (Int.ofNat (chN (fun k => (sgP ([l, (drL l), (drL (drL l)), (drL (drL (drL l)))].getD k []) x y)) (k + 1)).2)])] ++ rest, (by rw [hst]; exact WS), .inl ⟨rfl, rfl⟩⟩
        · have d3 : iEq sv bv = false := by rw [iEq_eq]; exact decide_eq_false h2
          rw [if_pos ⟨h1, h2⟩] at hst
          have hc1 : wr .i64 (Int.add (Int.ofNat cn) 1) = Int.ofNat (cn + 1) := smn (i := cn + 1) (by omega)
          repeat' ((conv => whnf); first | refine eqS_rfl ?_ | refine eqA_rfl ?_ | refine eqA_of (by assumption) ?_ | refine eqS_of (by rfl) ?_ | refine eqL_rfl ?_ | refine eqJ_rfl ?_ | refine gE ?_ | refine seS_rfl ?_ | refine lsS_of hup ?_ | refine lsS_rfl ?_ | refine brS_tt ?_ | refine brS_ff ?_ | refine brS_not ?_ | refine gI ?_ | refine gT ?_ | refine gF ?_ | refine brS_intro (fun _ => ?_) (fun _ => ?_) | refine gL ?_ | refine gX ?_ | refine gO ?_ | refine gN ?_ | intro _)
          conv => whnf
          exact ⟨nM1, [(3005, lopF Try.f74 0 b2 .ready none 24 [(3, .ptr 3002 b3 0), (4, .ptr 3003 b4 0), (5, .ptr 3004 b5 0)] b1), (dfN, .dfr [b1]), (3002, .own b3 3 [.int .i64 0]), (3003, .own b4 3 [.int .i64 (chN (fun k => (sgP ([l, (drL l), (drL (drL l)), (drL (drL (drL l)))].getD k []) x y)) (k + 1)).1]), (3004, .own b5 3 [.int .i64 (Int.ofNat (chN (fun k => (sgP ([l, (drL l), (drL (drL l)), (drL (drL (drL l)))].getD k []) x y)) (k + 1)).2)])] ++ rest, (by rw [hst, ← hc1]; exact WS), .inl ⟨rfl, rfl⟩⟩
  · rintro _ _ (rfl | h)
    · skip
      repeat' ((conv => whnf); first | refine eqS_rfl ?_ | refine eqA_rfl ?_ | refine eqA_of (by assumption) ?_ | refine eqS_of (by rfl) ?_ | refine eqL_rfl ?_ | refine eqJ_rfl ?_ | refine gE ?_ | refine seS_rfl ?_ | refine lsS_of hup ?_ | refine lsS_rfl ?_ | refine brS_tt ?_ | refine brS_ff ?_ | refine brS_not ?_ | refine gI ?_ | refine gT ?_ | refine gF ?_ | refine brS_intro (fun _ => ?_) (fun _ => ?_) | refine gL ?_ | refine gX ?_ | refine gO ?_ | refine gN ?_ | intro _)
      conv => whnf
      exact ⟨nM1, rfl, WS⟩
    · exact h.elim
theorem call47d_4 {F d N : Nat} {a : Option Addr} {c : Nat} {l : List Int} {x y : Int} {bq bs : Nat} {rest : Mem} {v : Nat}
    (h : ∀ R, callS (CL F (d + 8)) (.fn 47 [] []) [.fn 78 [] [.ptr 927 bq 0, .ptr 928 bs 0], .agg [.int .i64 x, .int .i64 y]] ([(927, .own bq 71 [.sl 900 a 4 c]), (928, .own bs 91 [.fn 55 [] []]), (900, .ro a 4 4 1 (pf l))] ++ rest) (addL R N) 1000 fun w m' R' _ => R ≤ R' ∧ den w = .int .i64 (Int.ofNat v) ∧ WkM m' ([(927, .own bq 71 [.sl 900 a 4 c]), (928, .own bs 91 [.fn 55 [] []]), (900, .ro a 4 4 1 (pf l))] ++ rest))
    (R2 : Nat) {args : List SV} {m : Mem} {R ni : Nat} {K : SV → Mem → Nat → Nat → Prop} (ha : dens args = dens [.fn 78 [] [.ptr 927 bq 0, .ptr 928 bs 0], .agg [.int .i64 x, .int .i64 y]]) (hw : WkM m ([(927, .own bq 71 [.sl 900 a 4 c]), (928, .own bs 91 [.fn 55 [] []]), (900, .ro a 4 4 1 (pf l))] ++ rest)) (hN : R2 + N ≤ R)
    (hK : K (.int .i64 (Int.ofNat v)) ([(927, .own bq 71 [.sl 900 a 4 c]), (928, .own bs 91 [.fn 55 [] []]), (900, .ro a 4 4 1 (pf l))] ++ rest) R2 ni) : callS (CL F (d + 8)) (.fn 47 [] []) args m R ni K := by
  refine callS.cast (fv' := .fn 47 [] []) rfl ha ?_
  refine callS.wk hw ?_
  have h1 := h (R - N)
  rw [addL_eq, Nat.sub_add_cancel (by omega)] at h1
  exact call_post h1 fun w m' R' n' ⟨hR, e, hw1⟩ => ⟨.int .i64 (Int.ofNat v), _, R2, ni, e, hw1, by omega, hK⟩
theorem c53d_4 (F d : Nat) (hF : 200 < F) (a : Option Addr) (c : Nat) (l : List Int) (hl : l.length = 4) (x1 y1 x2 y2 : Int) (bq bs : Nat) (rest : Mem) (R : Nat) :
    callS (CL F (d + 9)) (.fn 53 [] []) [.fn 78 [] [.ptr 927 bq 0, .ptr 928 bs 0], .agg [.int .i64 x1, .int .i64 y1], .agg [.int .i64 x2, .int .i64 y2]] ([(927, .own bq 71 [.sl 900 a 4 c]), (928, .own bs 91 [.fn 55 [] []]), (900, .ro a 4 4 1 (pf l))] ++ rest) (addL R (30000 + 200)) 2000 fun w m' R' _ => R ≤ R' ∧ den w = .int .i64 (((chN (fun k => (sgP ([l, (drL l), (drL (drL l)), (drL (drL (drL l)))].getD k []) x1 y1)) 4).2 : Int) - ((chN (fun k => (sgP ([l, (drL l), (drL (drL l)), (drL (drL (drL l)))].getD k []) x2 y2)) 4).2 : Int)) ∧ WkM m' ([(927, .own bq 71 [.sl 900 a 4 c]), (928, .own bs 91 [.fn 55 [] []]), (900, .ro a 4 4 1 (pf l))] ++ rest) := by
  rw [addL_eq, show R + (30000 + 200) = 30000 + R + 200 by omega, ← addL_eq _ 200]
  refine callS.ni 2000 ?_
  obtain ⟨v1, hv1⟩ : ∃ v, v = (chN (fun k => (sgP ([l, (drL l), (drL (drL l)), (drL (drL (drL l)))].getD k []) x1 y1)) 4).2 := ⟨_, rfl⟩
  obtain ⟨v2, hv2⟩ : ∃ v, v = (chN (fun k => (sgP ([l, (drL l), (drL (drL l)), (drL (drL (drL l)))].getD k []) x2 y2)) 4).2 := ⟨_, rfl⟩
  have b1 : v1 ≤ 4 := by rw [hv1]; exact Nat.le_trans (chN_le _ _) (by decide)
  have b2 : v2 ≤ 4 := by rw [hv2]; exact Nat.le_trans (chN_le _ _) (by decide)
  have es : wr .i64 (Int.sub (Int.ofNat v1) (Int.ofNat v2)) = (v1 : Int) - (v2 : Int) := sm (by show -1000000000000 ≤ (v1 : Int) - (v2 : Int) ∧ (v1 : Int) - (v2 : Int) ≤ 1000000000000; omega)
  have k1 := fun rest R => c47d_4 F d hF a c l hl x1 y1 bq bs rest R
  have k2 := fun rest R => c47d_4 F d hF a c l hl x2 y2 bq bs rest R
  rw [← hv1] at k1
  rw [← hv2] at k2
  rw [← hv1, ← hv2]
  refine call_in (n := 14) Try.func53 rfl rfl rfl rfl rfl rfl rfl ?_
  repeat' ((conv => whnf); first | refine eqS_rfl ?_ | refine eqA_rfl ?_ | refine eqA_of (by assumption) ?_ | refine eqS_of (by rfl) ?_ | refine eqL_rfl ?_ | refine eqJ_rfl ?_ | refine gE ?_ | refine seS_rfl ?_ | refine lsS_of hup ?_ | refine lsS_rfl ?_ | refine brS_tt ?_ | refine brS_ff ?_ | refine brS_not ?_ | refine gI ?_ | refine gT ?_ | refine gF ?_ | refine brS_intro (fun _ => ?_) (fun _ => ?_) | refine gL ?_ | refine gX ?_ | refine gO ?_ | refine gN ?_ | refine gM ?_ | refine gY ?_ | intro _)
  rename_i ba bb
  refine call47d_4 (v := v1) (rest := [(2001, .own bb 24 [.int .i64 x2, .int .i64 y2]), (2000, .own ba 24 [.int .i64 x1, .int .i64 y1])] ++ rest) (fun R => k1 _ R) (addL (15000 + R) 120) (by rfl) WS (nM1) ?_
  repeat' ((conv => whnf); first | refine eqS_rfl ?_ | refine eqA_rfl ?_ | refine eqA_of (by assumption) ?_ | refine eqS_of (by rfl) ?_ | refine eqL_rfl ?_ | refine eqJ_rfl ?_ | refine gE ?_ | refine seS_rfl ?_ | refine lsS_of hup ?_ | refine lsS_rfl ?_ | refine brS_tt ?_ | refine brS_ff ?_ | refine brS_not ?_ | refine gI ?_ | refine gT ?_ | refine gF ?_ | refine brS_intro (fun _ => ?_) (fun _ => ?_) | refine gL ?_ | refine gX ?_ | refine gO ?_ | refine gN ?_ | refine gM ?_ | refine gY ?_ | intro _)
  refine call47d_4 (v := v2) (rest := [(2001, .own bb 24 [.int .i64 x2, .int .i64 y2]), (2000, .own ba 24 [.int .i64 x1, .int .i64 y1])] ++ rest) (fun R => k2 _ R) (addL R 100) (by rfl) WS (nM1) ?_
  repeat' ((conv => whnf); first | refine eqS_rfl ?_ | refine eqA_rfl ?_ | refine eqA_of (by assumption) ?_ | refine eqS_of (by rfl) ?_ | refine eqL_rfl ?_ | refine eqJ_rfl ?_ | refine gE ?_ | refine seS_rfl ?_ | refine lsS_of hup ?_ | refine lsS_rfl ?_ | refine brS_tt ?_ | refine brS_ff ?_ | refine brS_not ?_ | refine gI ?_ | refine gT ?_ | refine gF ?_ | refine brS_intro (fun _ => ?_) (fun _ => ?_) | refine gL ?_ | refine gX ?_ | refine gO ?_ | refine gN ?_ | refine gM ?_ | refine gY ?_ | intro _)
  conv => whnf
  exact ⟨nM1, congrArg (Value.int .i64) es, WS⟩
end Go.Proofs.Ytpncjgiojoehkaa
namespace Go.Proofs.Ytpncjgiojoehkaa
open Go.Ab
attribute [local irreducible] aggOk drwOK
set_option maxRecDepth 100000
set_option maxHeartbeats 4000000
set_option linter.unusedVariables false
set_option linter.unusedSimpArgs false
theorem c27_2 (F d : Nat) (a : Option Addr) (c : Nat) (l : List Int) (hV : Val l 2) (hF : 200 < F) (x1 y1 x2 y2 : Int) (hA : Arg x1 y1) (hB : Arg x2 y2) (hle : x1 * y2 ≤ x2 * y1) : ReadC (CL F (d + 10)) 27 [.sl 1000 a 2 c, .agg [.int .i64 x1, .int .i64 y1], .agg [.int .i64 x2, .int .i64 y2]] [(1000, .ro a 2 4 1 (pf l))] (32000 + 400) (.tup [.int .i64 (((chN (fun k => (sgP ([l, (drL l)].getD k []) x1 y1)) 2).2 : Int) - ((chN (fun k => (sgP ([l, (drL l)].getD k []) x2 y2)) 2).2 : Int)), i64 0]) := by
  have k50 := c50 F (d + 5) (by omega) a 2 c l hV x1 y1 x2 y2 hA hB hle
  have k53 := fun bq bs rest R => c53d_2 F d hF a c l hV.len x1 y1 x2 y2 bq bs rest R
  intro R
  rw [show 32000 + 400 = (32000) + 400 from rfl, addL_eq, ← Nat.add_assoc, ← addL_eq _ 400, Nat.add_comm R (32000)]
  refine call_in (n := 21) Try.func27 rfl rfl rfl rfl rfl rfl rfl ?_
  repeat' ((conv => whnf); first | refine eqS_rfl ?_ | refine eqA_rfl ?_ | refine eqA_of (by assumption) ?_ | refine eqS_of (by rfl) ?_ | refine eqL_rfl ?_ | refine eqJ_rfl ?_ | refine gE ?_ | refine seS_rfl ?_ | refine lsS_of hup ?_ | refine lsS_rfl ?_ | refine brS_tt ?_ | refine brS_ff ?_ | refine brS_not ?_ | refine gI ?_ | refine gT ?_ | refine gF ?_ | refine brS_intro (fun _ => ?_) (fun _ => ?_) | refine gL ?_ | refine gX ?_ | refine gO ?_ | refine gN ?_ | refine gM ?_ | refine gY ?_ | refine call_readL k50 (addL (31000 + R) 90) (by rfl) (by exact SeesM.cons 1000 (sees_ro (i := 1000) (by rfl)) (SeesM.nil _) (fun _ _ _ _ _ _ x hx => by cases hx)) (nM1) ?_ | refine call_in (n := 6) Try.func54 rfl rfl rfl rfl rfl rfl rfl ?_ | intro _)
  rename_i ba bb bq bs
  refine callV (M := [(927, .own bq 71 [.sl 900 a 2 c]), (928, .own bs 91 [.fn 55 [] []]), (900, .ro a 2 4 1 (pf l))] ++ [(1, .own bb 24 [.int .i64 x2, .int .i64 y2]), (0, .own ba 24 [.int .i64 x1, .int .i64 y1])]) (v := .int .i64 (((chN (fun k => (sgP ([l, (drL l)].getD k []) x1 y1)) 2).2 : Int) - ((chN (fun k => (sgP ([l, (drL l)].getD k []) x2 y2)) 2).2 : Int))) (k53 bq bs [(1, .own bb 24 [.int .i64 x2, .int .i64 y2]), (0, .own ba 24 [.int .i64 x1, .int .i64 y1])]) (addL R 100) (by rfl) WS (nM1) ?_
  repeat' ((conv => whnf); first | refine eqS_rfl ?_ | refine eqA_rfl ?_ | refine eqA_of (by assumption) ?_ | refine eqS_of (by rfl) ?_ | refine eqL_rfl ?_ | refine eqJ_rfl ?_ | refine gE ?_ | refine seS_rfl ?_ | refine lsS_of hup ?_ | refine lsS_rfl ?_ | refine brS_tt ?_ | refine brS_ff ?_ | refine brS_not ?_ | refine gI ?_ | refine gT ?_ | refine gF ?_ | refine brS_intro (fun _ => ?_) (fun _ => ?_) | refine gL ?_ | refine gX ?_ | refine gO ?_ | refine gN ?_ | refine gM ?_ | refine gY ?_ | intro _)
  conv => whnf
  exact ⟨rfl, nM1⟩
theorem c27_3 (F d : Nat) (a : Option Addr) (c : Nat) (l : List Int) (hV : Val l 3) (hF : 200 < F) (x1 y1 x2 y2 : Int) (hA : Arg x1 y1) (hB : Arg x2 y2) (hle : x1 * y2 ≤ x2 * y1) : ReadC (CL F (d + 10)) 27 [.sl 1000 a 3 c, .agg [.int .i64 x1, .int .i64 y1], .agg [.int .i64 x2, .int .i64 y2]] [(1000, .ro a 3 4 1 (pf l))] (32000 + 400) (.tup [.int .i64 (((chN (fun k => (sgP ([l, (drL l), (drL (drL l))].getD k []) x1 y1)) 3).2 : Int) - ((chN (fun k => (sgP ([l, (drL l), (drL (drL l))].getD k []) x2 y2)) 3).2 : Int)), i64 0]) := by
  have k50 := c50 F (d + 5) (by omega) a 3 c l hV x1 y1 x2 y2 hA hB hle
  have k53 := fun bq bs rest R => c53d_3 F d hF a c l hV.len x1 y1 x2 y2 bq bs rest R
  intro R
  rw [show 32000 + 400 = (32000) + 400 from rfl, addL_eq, ← Nat.add_assoc, ← addL_eq _ 400, Nat.add_comm R (32000)]
  refine call_in (n := 21) Try.func27 rfl rfl rfl rfl rfl rfl rfl ?_
  repeat' ((conv => whnf); first | refine eqS_rfl ?_ | refine eqA_rfl ?_ | refine eqA_of (by assumption) ?_ | refine eqS_of (by rfl) ?_ | refine eqL_rfl ?_ | refine eqJ_rfl ?_ | refine gE ?_ | refine seS_rfl ?_ | refine lsS_of hup ?_ | refine lsS_rfl ?_ | refine brS_tt ?_ | refine brS_ff ?_ | refine brS_not ?_ | refine gI ?_ | refine gT ?_ | refine gF ?_ | refine brS_intro (fun _ => ?_) (fun _ => ?_) | refine gL ?_ | refine gX ?_ | refine gO ?_ | refine gN ?_ | refine gM ?_ | refine gY ?_ | refine call_readL k50 (addL (31000 + R) 90) (by rfl) (by exact SeesM.cons 1000 (sees_ro (i := 1000) (by rfl)) (SeesM.nil _) (fun _ _ _ _ _ _ x hx => by cases hx)) (nM1) ?_ | refine call_in (n := 6) Try.func54 rfl rfl rfl rfl rfl rfl rfl ?_ | intro _)
  rename_i ba bb bq bs
  refine callV (M := [(927, .own bq 71 [.sl 900 a 3 c]), (928, .own bs 91 [.fn 55 [] []]), (900, .ro a 3 4 1 (pf l))] ++ [(1, .own bb 24 [.int .i64 x2, .int .i64 y2]), (0, .own ba 24 [.int .i64 x1, .int .i64 y1])]) (v := .int .i64 (((chN (fun k => (sgP ([l, (drL l), (drL (drL l))].getD k []) x1 y1)) 3).2 : Int) - ((chN (fun k => (sgP ([l, (drL l), (drL (drL l))].getD k []) x2 y2)) 3).2 : Int))) (k53 bq bs [(1, .own bb 24 [.int .i64 x2, .int .i64 y2]), (0, .own ba 24 [.int .i64 x1, .int .i64 y1])]) (addL R 100) (by rfl) WS (nM1) ?_
  repeat' ((conv => whnf); first | refine eqS_rfl ?_ | refine eqA_rfl ?_ | refine eqA_of (by assumption) ?_ | refine eqS_of (by rfl) ?_ | refine eqL_rfl ?_ | refine eqJ_rfl ?_ | refine gE ?_ | refine seS_rfl ?_ | refine lsS_of hup ?_ | refine lsS_rfl ?_ | refine brS_tt ?_ | refine brS_ff ?_ | refine brS_not ?_ | refine gI ?_ | refine gT ?_ | refine gF ?_ | refine brS_intro (fun _ => ?_) (fun _ => ?_) | refine gL ?_ | refine gX ?_ | refine gO ?_ | refine gN ?_ | refine gM ?_ | refine gY ?_ | intro _)
  conv => whnf
  exact ⟨rfl, nM1⟩
theorem c27_4 (F d : Nat) (a : Option Addr) (c : Nat) (l : List Int) (hV : Val l 4) (hF : 200 < F) (x1 y1 x2 y2 : Int) (hA : Arg x1 y1) (hB : Arg x2 y2) (hle : x1 * y2 ≤ x2 * y1) : ReadC (CL F (d + 10)) 27 [.sl 1000 a 4 c, .agg [.int .i64 x1, .int .i64 y1], .agg [.int .i64 x2, .int .i64 y2]] [(1000, .ro a 4 4 1 (pf l))] (32000 + 400) (.tup [.int .i64 (((chN (fun k => (sgP ([l, (drL l), (drL (drL l)), (drL (drL (drL l)))].getD k []) x1 y1)) 4).2 : Int) - ((chN (fun k => (sgP ([l, (drL l), (drL (drL l)), (drL (drL (drL l)))].getD k []) x2 y2)) 4).2 : Int)), i64 0]) := by
  have k50 := c50 F (d + 5) (by omega) a 4 c l hV x1 y1 x2 y2 hA hB hle
  have k53 := fun bq bs rest R => c53d_4 F d hF a c l hV.len x1 y1 x2 y2 bq bs rest R
  intro R
  rw [show 32000 + 400 = (32000) + 400 from rfl, addL_eq, ← Nat.add_assoc, ← addL_eq _ 400, Nat.add_comm R (32000)]
  refine call_in (n := 21) Try.func27 rfl rfl rfl rfl rfl rfl rfl ?_
  repeat' ((conv => whnf); first | refine eqS_rfl ?_ | refine eqA_rfl ?_ | refine eqA_of (by assumption) ?_ | refine eqS_of (by rfl) ?_ | refine eqL_rfl ?_ | refine eqJ_rfl ?_ | refine gE ?_ | refine seS_rfl ?_ | refine lsS_of hup ?_ | refine lsS_rfl ?_ | refine brS_tt ?_ | refine brS_ff ?_ | refine brS_not ?_ | refine gI ?_ | refine gT ?_ | refine gF ?_ | refine brS_intro (fun _ => ?_) (fun _ => ?_) | refine gL ?_ | refine gX ?_ | refine gO ?_ | refine gN ?_ | refine gM ?_ | refine gY ?_ | refine call_readL k50 (addL (31000 + R) 90) (by rfl) (by exact SeesM.cons 1000 (sees_ro (i := 1000) (by rfl)) (SeesM.nil _) (fun _ _ _ _ _ _ x hx => by cases hx)) (nM1) ?_ | refine call_in (n := 6) Try.func54 rfl rfl rfl rfl rfl rfl rfl ?_ | intro _)
  rename_i ba bb bq bs
  refine callV (M := [(927, .own bq 71 [.sl 900 a 4 c]), (928, .own bs 91 [.fn 55 [] []]), (900, .ro a 4 4 1 (pf l))] ++ [(1, .own bb 24 [.int .i64 x2, .int .i64 y2]), (0, .own ba 24 [.int .i64 x1, .int .i64 y1])]) (v := .int .i64 (((chN (fun k => (sgP ([l, (drL l), (drL (drL l)), (drL (drL (drL l)))].getD k []) x1 y1)) 4).2 : Int) - ((chN (fun k => (sgP ([l, (drL l), (drL (drL l)), (drL (drL (drL l)))].getD k []) x2 y2)) 4).2 : Int))) (k53 bq bs [(1, .own bb 24 [.int .i64 x2, .int .i64 y2]), (0, .own ba 24 [.int .i64 x1, .int .i64 y1])]) (addL R 100) (by rfl) WS (nM1) ?_
  repeat' ((conv => whnf); first | refine eqS_rfl ?_ | refine eqA_rfl ?_ | refine eqA_of (by assumption) ?_ | refine eqS_of (by rfl) ?_ | refine eqL_rfl ?_ | refine eqJ_rfl ?_ | refine gE ?_ | refine seS_rfl ?_ | refine lsS_of hup ?_ | refine lsS_rfl ?_ | refine brS_tt ?_ | refine brS_ff ?_ | refine brS_not ?_ | refine gI ?_ | refine gT ?_ | refine gF ?_ | refine brS_intro (fun _ => ?_) (fun _ => ?_) | refine gL ?_ | refine gX ?_ | refine gO ?_ | refine gN ?_ | refine gM ?_ | refine gY ?_ | intro _)
  conv => whnf
  exact ⟨rfl, nM1⟩
/-- a polynomial and its derivatives -/
def dsO : Nat → List Int → List (List Int)
  | 0, _ => []
  | k + 1, l => l :: dsO k (drL l)
theorem c27 (F d : Nat) (a : Option Addr) (n c : Nat) (l : List Int) (hV : Val l n) (hF : 200 < F) (x1 y1 x2 y2 : Int) (hA : Arg x1 y1) (hB : Arg x2 y2) (hle : x1 * y2 ≤ x2 * y1) : ReadC (CL F (d + 10)) 27 [.sl 1000 a n c, .agg [.int .i64 x1, .int .i64 y1], .agg [.int .i64 x2, .int .i64 y2]] [(1000, .ro a n 4 1 (pf l))] (32000 + 400) (.tup [.int .i64 ((cnV (dsO n l) x1 y1 : Int) - (cnV (dsO n l) x2 y2 : Int)), i64 0]) := by
  have h2 := hV.h2
  have h4 := hV.h4
  by_cases e2 : n = 2
  · subst e2; exact c27_2 F d a c l hV hF x1 y1 x2 y2 hA hB hle
  · by_cases e3 : n = 3
    · subst e3; exact c27_3 F d a c l hV hF x1 y1 x2 y2 hA hB hle
    · have e4 : n = 4 := by omega
      subst e4; exact c27_4 F d a c l hV hF x1 y1 x2 y2 hA hB hle
end Go.Proofs.Ytpncjgiojoehkaa
