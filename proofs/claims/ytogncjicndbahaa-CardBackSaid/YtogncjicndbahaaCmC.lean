/- Card: the inverse. -/
import Derived.Test.YtogncjicndbahaaCdW
import Derived.KernelRfl
import Derived.Test.YtogncjicndbahaaCdZ
namespace Go.Proofs.Ytogncjicndbahaa
open Go.Ab
attribute [local irreducible] aggOk drwOK
set_option maxRecDepth 100000
set_option maxHeartbeats 4000000
set_option linter.unusedVariables false
set_option linter.unusedSimpArgs false
/-- two neighbours exchanged -/
def swpP : List (Int × Int) → Nat → List (Int × Int)
  | x :: y :: r, 0 => y :: x :: r
  | x :: r, p + 1 => x :: swpP r p
  | l, _ => l
theorem swpP_perm : ∀ (l : List (Int × Int)) (p : Nat), (swpP l p).Perm l
  | [], 0 => .refl _
  | [], _ + 1 => .refl _
  | [_], 0 => .refl _
  | x :: y :: r, 0 => .swap x y r
  | [x], p + 1 => (swpP_perm [] p).cons x
  | x :: y :: r, p + 1 => (swpP_perm (y :: r) p).cons x
theorem swpP_get : ∀ (l : List (Int × Int)) (p q : Nat), p + 1 < l.length → (swpP l p).getD q (0, 0) = if q = p then l.getD (p + 1) (0, 0) else if q = p + 1 then l.getD p (0, 0) else l.getD q (0, 0)
  | [], p, q, h => by simp at h
  | [_], p, q, h => by simp at h
  | x :: y :: r, 0, q, _ => by
    match q with
    | 0 => rfl
    | 1 => rfl
    | q + 2 => rw [if_neg (by omega), if_neg (by omega)]; rfl
  | x :: y :: r, p + 1, q, h => by
    match q with
    | 0 => rw [if_neg (by omega), if_neg (by omega)]; rfl
    | q + 1 =>
      have := swpP_get (y :: r) p q (by simpa using h)
      show (swpP (y :: r) p).getD q (0, 0) = _
      rw [this]
      by_cases h1 : q = p
      · rw [if_pos h1, if_pos (show q + 1 = p + 1 by omega)]; rfl
      · rw [if_neg h1, if_neg (show ¬ q + 1 = p + 1 by omega)]
        by_cases h2 : q = p + 1
        · rw [if_pos h2, if_pos (show q + 1 = p + 1 + 1 by omega)]; rfl
        · rw [if_neg h2, if_neg (show ¬ q + 1 = p + 1 + 1 by omega)]; rfl
/-- sorted so far -/
def SrtP (l : List (Int × Int)) (i : Nat) : Prop := ∀ a b, a < b → b < i → (l.getD a (0, 0)).1 ≤ (l.getD b (0, 0)).1
structure InsP (l : List (Int × Int)) (i j : Nat) : Prop where
  o : ∀ a b, a < b → b ≤ i → a ≠ j → b ≠ j → (l.getD a (0, 0)).1 ≤ (l.getD b (0, 0)).1
  u : ∀ b, j < b → b ≤ i → (l.getD j (0, 0)).1 ≤ (l.getD b (0, 0)).1
theorem InsP.init {l : List (Int × Int)} {i : Nat} (h : SrtP l i) : InsP l i i := ⟨fun a b h1 h2 _ h4 => h a b h1 (by omega), fun b h1 h2 => by omega⟩
theorem InsP.step {l : List (Int × Int)} {i j : Nat} (h : InsP l i (j + 1)) (hj : j + 1 ≤ i) (hi : i < l.length) (hlt : (l.getD (j + 1) (0, 0)).1 < (l.getD j (0, 0)).1) : InsP (swpP l j) i j := by
  have g := fun q => swpP_get l j q (by omega)
  refine ⟨fun a b h1 h2 h3 h4 => ?_, fun b h1 h2 => ?_⟩
  · rw [g a, g b, if_neg h3, if_neg h4]
    by_cases ha : a = j + 1
    · subst ha
      rw [if_pos rfl, if_neg (by omega)]
      exact h.o j b (by omega) h2 (by omega) (by omega)
    · rw [if_neg ha]
      by_cases hb : b = j + 1
      · subst hb
        rw [if_pos rfl]
        exact h.o a j (by omega) (by omega) ha (by omega)
      · rw [if_neg hb]
        exact h.o a b h1 h2 ha hb
  · rw [g b, g j, if_pos rfl, if_neg (by omega)]
    by_cases hb : b = j + 1
    · rw [if_pos hb]; exact Int.le_of_lt hlt
    · rw [if_neg hb]; exact h.u b (by omega) h2
theorem InsP.done {l : List (Int × Int)} {i j : Nat} (h : InsP l i j) (hj : j ≤ i) (he : j = 0 ∨ ¬ (l.getD j (0, 0)).1 < (l.getD (j - 1) (0, 0)).1) : SrtP l (i + 1) := by
  intro a b h1 h2
  by_cases ha : a = j
  · subst ha; exact h.u b h1 (by omega)
  · by_cases hb : b = j
    · subst hb
      rcases he with he | he
      · omega
      · have h3 := Int.not_lt.1 he
        by_cases ha2 : a = b - 1
        · rw [ha2]; exact h3
        · exact Int.le_trans (h.o a (b - 1) (by omega) (by omega) ha (by omega)) h3
    · exact h.o a b h1 (by omega) ha hb

abbrev fPL (l : List (Int × Int)) (j : Nat) : List SV := [.int .i64 (l.getD j (0, 0)).1, .int .i64 (l.getD j (0, 0)).2]
theorem swpPU {l : List (Int × Int)} {p : Nat} (h : p + 1 < l.length) (z : Nat) : updG p (fPL l (p + 1)) (updG (p + 1) (fPL l p) (fPL l)) z = fPL (swpP l p) z := by
  have g := swpP_get l p z h
  unfold fPL at *
  rw [g]
  by_cases h1 : z = p
  · subst h1
    rw [updG_same, if_pos rfl]
  · rw [updG_other h1, if_neg h1]
    by_cases h2 : z = p + 1
    · subst h2
      rw [updG_same, if_pos rfl]
    · rw [updG_other h2, if_neg h2]
theorem growPL {l : List (Int × Int)} {x : Int × Int} {n : Nat} (hn : n = l.length) : ∀ j, j < n + 1 → grow n 2 (fPL l) [.int .i64 x.1, .int .i64 x.2] j = fPL (l ++ [x]) j := by
  subst hn
  intro j hj
  unfold grow
  by_cases h : j < l.length
  · rw [blt_of h, cond_true]
    show fPL l j = fPL (l ++ [x]) j
    unfold fPL
    rw [List.getD_eq_getElem?_getD, List.getD_eq_getElem?_getD, List.getElem?_append_left h]
  · have e : j = l.length := by omega
    subst e
    have hb : Nat.blt l.length l.length = false := by
      cases hh : Nat.blt l.length l.length with
      | false => rfl
      | true => have := blt_true hh; omega
    rw [hb, cond_false]
    show List.take 2 (List.drop ((l.length - l.length) * 2) _) = _
    rw [Nat.sub_self]
    unfold fPL
    have : (l ++ [x]).getD l.length (0, 0) = x := by rw [List.getD_eq_getElem?_getD, List.getElem?_append_right (Nat.le_refl _), Nat.sub_self]; rfl
    rw [this]
    rfl
/-- a point of the inverse, its points in the card's order -/
def ivE (h dv : Nat → Int) (k : Nat) : Int × Int := (bkI (h k + dv k) 3600, -(dv k))
def ivL (h dv : Nat → Int) (k : Nat) : List (Int × Int) := (List.range k).map (ivE h dv)
theorem ivL_len (h dv : Nat → Int) (k : Nat) : (ivL h dv k).length = k := by unfold ivL; rw [List.length_map, List.length_range]
theorem ivL_snoc (h dv : Nat → Int) (k : Nat) : ivL h dv (k + 1) = ivL h dv k ++ [ivE h dv k] := by unfold ivL; rw [List.range_succ, List.map_append]; rfl
theorem c46 (F d : Nat) (x y : Int × Int) : PureC (CL F (d + 3)) 46 [.agg [.int .i64 x.1, .int .i64 x.2], .agg [.int .i64 y.1, .int .i64 y.2]] 300 (.int .i64 (cmI x.1 y.1)) := by
  intro m R
  refine call_in (n := 10) Try.func46 rfl rfl rfl rfl rfl rfl rfl ?_
  repeat' ((conv => whnf); first | refine eqS_rfl ?_ | refine eqA_rfl ?_ | refine eqA_of (by assumption) ?_ | refine eqS_of (by rfl) ?_ | refine eqL_rfl ?_ | refine eqJ_rfl ?_ | refine gE ?_ | refine seS_rfl ?_ | refine lsS_of hup ?_ | refine lsS_rfl ?_ | refine brS_tt ?_ | refine brS_ff ?_ | refine brS_not ?_ | refine gI ?_ | refine gT ?_ | refine gF ?_ | refine brS_intro (fun _ => ?_) (fun _ => ?_) | refine gL ?_ | refine gX ?_ | refine gO ?_ | refine gN ?_ | refine call_in (n := 20) Try.func47 rfl rfl rfl rfl rfl rfl rfl ?_ | refine call_in (n := 6) Try.func68 rfl rfl rfl rfl rfl rfl rfl ?_ | intro _)
  all_goals (conv => whnf)
  all_goals refine ⟨?_, by repeat' (first | exact WkM.refl _ | refine WkM.drop ?_), by repeat' (first | exact Nat.le_refl _ | refine Nat.le_succ_of_le ?_)⟩
  all_goals ((refine congrArg (Value.int .i64) ?_; unfold cmI; simp only [iLt_eq, decide_eq_true_eq, decide_eq_false_iff_not, Bool.not_eq_true', Bool.not_eq_false'] at *; repeat' (first | rw [if_pos (by omega)] | rw [if_neg (by omega)])))

/-- what Inverse gives of a sound card -/
def Q19 (i : Nat) (L : List (Int × Int)) (w0 : SV) (mf : Mem) : Prop := ∃ a1 L2, L2.Perm L ∧ SrtP L2 L2.length ∧ w0 = .tup [.sl i a1 L2.length L2.length, .int .i64 0] ∧ mf = [(i, .gr a1 L2.length 37 2 (fPL L2))]
theorem c19f (F d : Nat) (hF : 300 < F) (a : Option Addr) (n e c : Nat) (h dv : Nat → Int) (hv : VC n h dv) (hs : ¬ ∀ k, k < n → 0 < rs n h dv k) : ReadC (CL F (d + 6)) 19 [.sl 1000 a n c] [(1000, .ro a n e 2 fun j => [.int .i64 (h j), .int .i64 (dv j)])] (3000000 + 900) (.tup [.val (.slice none 0 0), .int .i64 21]) := by
  have hf : 0 < (foL n h dv n).length := Nat.pos_of_ne_zero fun h0 => hs (foL_nil h0)
  have t1 : iLt 0 (Int.ofNat (foL n h dv n).length) = true := iLt_t (a := 0) hf
  intro R
  rw [show 3000000 + 900 = (3000000) + 900 from rfl, addL_eq, ← Nat.add_assoc, ← addL_eq _ 900, Nat.add_comm R (3000000)]
  refine call_in (n := 38) Try.func19 rfl rfl rfl rfl rfl rfl rfl ?_
  repeat' ((conv => whnf); first | refine eqS_rfl ?_ | refine eqA_rfl ?_ | refine eqA_of (by assumption) ?_ | refine eqS_of (by rfl) ?_ | refine eqL_rfl ?_ | refine eqJ_rfl ?_ | refine gE ?_ | refine seS_rfl ?_ | refine lsS_of hup ?_ | refine lsS_rfl ?_ | refine brS_tt ?_ | refine brS_ff ?_ | refine brS_not ?_ | refine gI ?_ | refine gT ?_ | refine gF ?_ | refine brS_intro (fun _ => ?_) (fun _ => ?_) | refine gL ?_ | refine gX ?_ | refine gO ?_ | refine gN ?_ | refine call_readL (c22 F (d + 3) (by omega) a n e c h dv hv) (addL (2900000 + R) 900) (by rfl) (by exact SeesM.cons 1000 (sees_ro (i := 1000) (by rfl)) (SeesM.nil _) (fun _ _ _ _ _ _ x hx => by cases hx)) (nM1) ?_ | refine call39 F d hF 601 a n e c h dv hv (addL (2500000 + R) 900) (by rfl) (by exact SeesM.cons 1000 (sees_ro (i := 1000) (by rfl)) (SeesM.nil _) (fun _ _ _ _ _ _ x hx => by cases hx)) (nM1) ?_ | intro _)
  conv => whnf
  exact ⟨rfl, nM1⟩
theorem c19 (F d : Nat) (hF : 300 < F) (i : Nat) (a : Option Addr) (n e c : Nat) (h dv : Nat → Int) (hv : VC n h dv) (hn : n ≤ 12) (hs : ∀ k, k < n → 0 < rs n h dv k) (R : Nat) :
    callS (CL F (d + 7)) (.fn 19 [] []) [.sl 1000 a n c] [(1000, .ro a n e 2 fun j => [.int .i64 (h j), .int .i64 (dv j)])] (addL R (3000000 + 900)) 0 fun w m' R' _ => (∃ w0 mf, Q19 i (ivL h dv n) w0 mf ∧ den w = den w0 ∧ WkM m' mf) ∧ R ≤ R' := by
  have hf := snd_fo hs
  have t0 : iLt 0 (Int.ofNat (foL n h dv n).length) = false := by rw [hf]; rfl
  rw [show 3000000 + 900 = (3000000) + 900 from rfl, addL_eq, ← Nat.add_assoc, ← addL_eq _ 900, Nat.add_comm R (3000000)]
  refine call_in (n := 38) Try.func19 rfl rfl rfl rfl rfl rfl rfl ?_
  repeat' ((conv => whnf); first | refine eqS_rfl ?_ | refine eqA_rfl ?_ | refine eqA_of (by assumption) ?_ | refine eqS_of (by rfl) ?_ | refine eqL_rfl ?_ | refine eqJ_rfl ?_ | refine gE ?_ | refine seS_rfl ?_ | refine lsS_of hup ?_ | refine lsS_rfl ?_ | refine brS_tt ?_ | refine brS_ff ?_ | refine brS_not ?_ | refine gI ?_ | refine gT ?_ | refine gF ?_ | refine brS_intro (fun _ => ?_) (fun _ => ?_) | refine gL ?_ | refine gX ?_ | refine gO ?_ | refine gN ?_ | refine call_readL (c22 F (d + 4) (by omega) a n e c h dv hv) (addL (2900000 + R) 900) (by rfl) (by exact SeesM.cons 1000 (sees_ro (i := 1000) (by rfl)) (SeesM.nil _) (fun _ _ _ _ _ _ x hx => by cases hx)) (nM1) ?_ | refine call39 F (d + 1) hF 601 a n e c h dv hv (addL (2500000 + R) 900) (by rfl) (by exact SeesM.cons 1000 (sees_ro (i := 1000) (by rfl)) (SeesM.nil _) (fun _ _ _ _ _ _ x hx => by cases hx)) (nM1) ?_ | intro _)
  conv => whnf
  refine loS_i (fun jj f mm R' ni => ∃ (k : Nat) (a2 : Option Addr), k ≤ n ∧ jj = n - k + 1 ∧ f = [(5, .sl 600 a2 k k), (18, .sl 1000 a n c), (19, .int .i64 (Int.ofNat n)), (20, .int .i64 (Int.ofNat k))] ∧ mm = [(600, .gr a2 k 37 2 (fPL (ivL h dv k))), (1000, .ro a n e 2 fun j => [.int .i64 (h j), .int .i64 (dv j)])] ∧ R' = (addL (600 * (n - k) + (1500000 + R)) 500) ∧ ni = 100) (n + 1) (by omega)
    ⟨[(5, .sl 600 none 0 0), (18, .sl 1000 a n c), (19, .int .i64 (Int.ofNat n)), (20, .int .i64 (Int.ofNat 0))], [(600, .gr none 0 37 2 (fPL (ivL h dv 0))), (1000, .ro a n e 2 fun j => [.int .i64 (h j), .int .i64 (dv j)])], (addL (600 * (n - 0) + (1500000 + R)) 500), 100, ⟨⟨rfl, rfl⟩, eqF_rfl _, eqF_rfl _, eqF_rfl _, trivial⟩, by exact (WkM.gr0 (i := 600) (e := 37) (sz := 2) (f := fPL (ivL h dv 0)) (WkM.refl _)).trans WS, nM1, 0, none, by omega, by omega, rfl, rfl, rfl, rfl⟩ ?_
  rintro _ _ _ _ _ ⟨k, al, hk, rfl, rfl, rfl, rfl, rfl⟩
  by_cases hlt : k < n
  · have t1 := iLt_t hlt
    have hB := hv.sg hlt
    have b1 := hB.h
    have b3 := hB.d
    have eA : wr .i64 (Int.add (h k) (dv k)) = h k + dv k := smW (n := h k + dv k) (by omega)
    have eN : wr .i64 (Int.sub 0 (dv k)) = -(dv k) := (smW (n := 0 - dv k) (by omega)).trans (by omega)
    have k43 := c43 F (d + 5) (h k + dv k) 3600 _ 3600 eA rfl (by omega) (by omega)
    have hg : ∀ z, z < k + 1 → grow k 2 (fPL (ivL h dv k)) [.int .i64 (bkI (h k + dv k) 3600), .int .i64 (wr .i64 (Int.sub 0 (dv k)))] z = fPL (ivL h dv (k + 1)) z := by
      rw [eN, ivL_snoc]
      exact growPL (x := ivE h dv k) (ivL_len h dv k).symm
    repeat' ((conv => whnf); first | refine eqS_rfl ?_ | refine eqA_rfl ?_ | refine eqA_of (by assumption) ?_ | refine eqS_of (by rfl) ?_ | refine eqL_rfl ?_ | refine eqJ_rfl ?_ | refine gE ?_ | refine seS_rfl ?_ | refine lsS_of hup ?_ | refine lsS_rfl ?_ | refine brS_tt ?_ | refine brS_ff ?_ | refine brS_not ?_ | refine gI ?_ | refine gT ?_ | refine gF ?_ | refine brS_intro (fun _ => ?_) (fun _ => ?_) | refine gL ?_ | refine gX ?_ | refine gO ?_ | refine gN ?_ | refine gM ?_ | refine gY ?_ | refine call_pure (c44 F _ _ _) ?_ | refine call_pure k43 ?_ | refine ltS_intro (by first | (show k * 2 + 2 < 32769; omega) | (show k * 2 + 2 < _; omega) | (show 0 * 2 + 2 < _; omega)) ?_ | intro _)
    conv => whnf
    exact ⟨n - (k + 1) + 1, [(5, .sl 600 _ (k + 1) (k + 1)), (18, .sl 1000 a n c), (19, .int .i64 (Int.ofNat n)), (20, .int .i64 (Int.ofNat (k + 1)))], [(600, .gr _ (k + 1) 37 2 (fPL (ivL h dv (k + 1)))), (1000, .ro a n e 2 fun j => [.int .i64 (h j), .int .i64 (dv j)])], (addL (600 * (n - (k + 1)) + (1500000 + R)) 500), 100, by omega, ⟨⟨rfl, rfl⟩, eqF_rfl _, eqF_rfl _, ⟨congrArg (Value.int .i64) (smn (i := k + 1) (by omega)), rfl⟩, trivial⟩, by exact WG, nM1, k + 1, _, by omega, rfl, rfl, rfl, rfl, rfl⟩
  · have e2 : k = n := by omega
    subst k
    have t1 := iLt_f (Nat.le_refl n)
    obtain ⟨v67, k67⟩ := c67 F (d + 3) n hn
    have d12 : iLt 12 (wr .i64 (Int.sub (Int.ofNat n) 0)) = false := by
      rw [show wr .i64 (Int.sub (Int.ofNat n) 0) = (n : Int) - 0 from smW (n := (n : Int) - 0) (by omega)]; exact ltF (by omega)
    repeat' ((conv => whnf); first | refine eqS_rfl ?_ | refine eqA_rfl ?_ | refine eqA_of (by assumption) ?_ | refine eqS_of (by rfl) ?_ | refine eqL_rfl ?_ | refine eqJ_rfl ?_ | refine gE ?_ | refine seS_rfl ?_ | refine lsS_of hup ?_ | refine lsS_rfl ?_ | refine brS_tt ?_ | refine brS_ff ?_ | refine brS_not ?_ | refine gI ?_ | refine gT ?_ | refine gF ?_ | refine brS_intro (fun _ => ?_) (fun _ => ?_) | refine gL ?_ | refine gX ?_ | refine gO ?_ | refine gN ?_ | refine gM ?_ | refine gY ?_ | refine call_pure k67 ?_ | refine call_in (n := 14) Try.func45 rfl rfl rfl rfl rfl rfl rfl ?_ | refine call_in (n := 148) Try.func66 rfl rfl rfl rfl rfl rfl rfl ?_ | intro _)
    conv => whnf
    refine loS_u 2 (by omega) ?_
    repeat' ((conv => whnf); first | refine eqS_rfl ?_ | refine eqA_rfl ?_ | refine eqA_of (by assumption) ?_ | refine eqS_of (by rfl) ?_ | refine eqL_rfl ?_ | refine eqJ_rfl ?_ | refine gE ?_ | refine seS_rfl ?_ | refine lsS_of hup ?_ | refine lsS_rfl ?_ | refine brS_tt ?_ | refine brS_ff ?_ | refine brS_not ?_ | refine gI ?_ | refine gT ?_ | refine gF ?_ | refine brS_intro (fun _ => ?_) (fun _ => ?_) | refine gL ?_ | refine gX ?_ | refine gO ?_ | refine gN ?_ | refine gM ?_ | refine gY ?_ | refine call_in (n := 53) Try.func78 rfl rfl rfl rfl rfl rfl rfl ?_ | intro _)
    conv => whnf
    refine loS_i (fun jj f mm R' ni => ∃ (i1 : Nat) (l : List (Int × Int)), 1 ≤ i1 ∧ (i1 ≤ n ∨ i1 = 1) ∧ l.Perm (ivL h dv n) ∧ SrtP l i1 ∧ jj = n + 2 - i1 ∧ f = [(0, .sl 600 al n n), (1, .int .i64 0), (2, .int .i64 (Int.ofNat n)), (3, .fn 46 [] []), (8, .int .i64 (Int.ofNat i1))] ∧ mm = [(600, .gr al n 37 2 (fPL (l)))] ∧ R' = (addL (30000 * (n + 2 - i1) + R) 500) ∧ ni = 100) (n + 1) (by omega)
      ⟨[(0, .sl 600 al n n), (1, .int .i64 0), (2, .int .i64 (Int.ofNat n)), (3, .fn 46 [] []), (8, .int .i64 (Int.ofNat 1))], [(600, .gr al n 37 2 (fPL (ivL h dv n)))], (addL (30000 * (n + 2 - 1) + R) 500), 100, ⟨eqF_rfl _, eqF_rfl _, eqF_rfl _, eqF_rfl _, ⟨rfl, rfl⟩, trivial⟩, by exact WG, nM1, 1, _, by omega, by omega, List.Perm.refl _, fun a b h1 h2 => by omega, by omega, rfl, rfl, rfl, rfl⟩ ?_
    rintro _ _ _ _ _ ⟨i1, l, hi1, hi2, hp, hS, rfl, rfl, rfl, rfl, rfl⟩
    have hlen : l.length = n := by rw [hp.length_eq, ivL_len]
    by_cases hlt : i1 < n
    · have t1 := iLt_t hlt
      repeat' ((conv => whnf); first | refine eqS_rfl ?_ | refine eqA_rfl ?_ | refine eqA_of (by assumption) ?_ | refine eqS_of (by rfl) ?_ | refine eqL_rfl ?_ | refine eqJ_rfl ?_ | refine gE ?_ | refine seS_rfl ?_ | refine lsS_of hup ?_ | refine lsS_rfl ?_ | refine brS_tt ?_ | refine brS_ff ?_ | refine brS_not ?_ | refine gI ?_ | refine gT ?_ | refine gF ?_ | refine brS_intro (fun _ => ?_) (fun _ => ?_) | refine gL ?_ | refine gX ?_ | refine gO ?_ | refine gN ?_ | refine gM ?_ | refine gY ?_ | intro _)
      conv => whnf
      refine loS_i (fun jj f mm R' ni => ∃ (j1 : Nat) (l2 : List (Int × Int)), j1 ≤ i1 ∧ l2.Perm (ivL h dv n) ∧ InsP l2 i1 j1 ∧ jj = j1 + 1 ∧ f = [(0, .sl 600 al n n), (1, .int .i64 0), (2, .int .i64 (Int.ofNat n)), (3, .fn 46 [] []), (8, .int .i64 (Int.ofNat i1)), (9, .int .i64 (Int.ofNat j1))] ∧ mm = [(600, .gr al n 37 2 (fPL (l2)))] ∧ R' = (addL (1500 * j1 + (30000 * (n + 2 - (i1 + 1)) + R)) 900) ∧ ni = 100) (i1 + 1) (by omega)
        ⟨[(0, .sl 600 al n n), (1, .int .i64 0), (2, .int .i64 (Int.ofNat n)), (3, .fn 46 [] []), (8, .int .i64 (Int.ofNat i1)), (9, .int .i64 (Int.ofNat i1))], [(600, .gr al n 37 2 (fPL (l)))], (addL (1500 * i1 + (30000 * (n + 2 - (i1 + 1)) + R)) 900), 100, ⟨eqF_rfl _, eqF_rfl _, eqF_rfl _, eqF_rfl _, eqF_rfl _, eqF_rfl _, trivial⟩, WkM.refl _, nM1, i1, l, by omega, hp, InsP.init hS, rfl, rfl, rfl, rfl, rfl⟩ ?_
      rintro _ _ _ _ _ ⟨j1, l2, hj1, hp2, hI2, rfl, rfl, rfl, rfl, rfl⟩
      have hlen2 : l2.length = n := by rw [hp2.length_eq, ivL_len]
      by_cases hj0 : j1 = 0
      · subst hj0
        have t2 : iLt 0 (Int.ofNat 0) = false := rfl
        have hSn := hI2.done (by omega) (.inl rfl)
        repeat' ((conv => whnf); first | refine eqS_rfl ?_ | refine eqA_rfl ?_ | refine eqA_of (by assumption) ?_ | refine eqS_of (by rfl) ?_ | refine eqL_rfl ?_ | refine eqJ_rfl ?_ | refine gE ?_ | refine seS_rfl ?_ | refine lsS_of hup ?_ | refine lsS_rfl ?_ | refine brS_tt ?_ | refine brS_ff ?_ | refine brS_not ?_ | refine gI ?_ | refine gT ?_ | refine gF ?_ | refine brS_intro (fun _ => ?_) (fun _ => ?_) | refine gL ?_ | refine gX ?_ | refine gO ?_ | refine gN ?_ | refine gM ?_ | refine gY ?_ | intro _)
        conv => whnf
        exact ⟨n + 2 - (i1 + 1), [(0, .sl 600 al n n), (1, .int .i64 0), (2, .int .i64 (Int.ofNat n)), (3, .fn 46 [] []), (8, .int .i64 (Int.ofNat (i1 + 1)))], [(600, .gr al n 37 2 (fPL (l2)))], (addL (30000 * (n + 2 - (i1 + 1)) + R) 500), 100, by omega, ⟨eqF_rfl _, eqF_rfl _, eqF_rfl _, eqF_rfl _, ⟨congrArg (Value.int .i64) (smn (i := i1 + 1) (by omega)), rfl⟩, trivial⟩, by exact WG, nM1, i1 + 1, l2, by omega, by omega, hp2, hSn, by omega, rfl, rfl, rfl, rfl⟩
      · obtain ⟨j2, rfl⟩ : ∃ j2, j1 = j2 + 1 := ⟨j1 - 1, by omega⟩
        have t2 : iLt 0 (Int.ofNat (j2 + 1)) = true := iLt_t (a := 0) (b := j2 + 1) (by omega)
        have eix : wr .i64 (Int.sub (Int.ofNat (j2 + 1)) 1) = Int.ofNat j2 := (smW (n := ((j2 + 1 : Nat) : Int) - 1) (by omega)).trans (by show ((j2 + 1 : Nat) : Int) - 1 = ((j2 : Nat) : Int); omega)
        have hb1 : j2 + 1 < n := by omega
        have k46 := c46 F d (l2.getD (j2 + 1) (0, 0)) (l2.getD j2 (0, 0))
        by_cases hc : (l2.getD (j2 + 1) (0, 0)).1 < (l2.getD j2 (0, 0)).1
        · have ct : iLt (cmI (l2.getD (j2 + 1) (0, 0)).1 (l2.getD j2 (0, 0)).1) 0 = true := by unfold cmI; rw [if_pos hc]; rfl
          have hIn := hI2.step (by omega) (by omega) hc
          have hup : updG (j2 + 1) (fPL l2 j2) (fPL l2) j2 = fPL l2 j2 := updG_other (by omega)
          have hs : ∀ z, z < n → updG j2 (fPL l2 (j2 + 1)) (updG (j2 + 1) (fPL l2 j2) (fPL l2)) z = fPL (swpP l2 j2) z := fun z _ => swpPU (by omega) z
          repeat' ((conv => whnf); first | refine eqS_rfl ?_ | refine eqA_rfl ?_ | refine eqA_of (by assumption) ?_ | refine eqS_of (by rfl) ?_ | refine eqL_rfl ?_ | refine eqJ_rfl ?_ | refine gE ?_ | refine seS_rfl ?_ | refine lsS_of hup ?_ | refine lsS_rfl ?_ | refine brS_tt ?_ | refine brS_ff ?_ | refine brS_not ?_ | refine gI ?_ | refine gT ?_ | refine gF ?_ | refine brS_intro (fun _ => ?_) (fun _ => ?_) | refine gL ?_ | refine gX ?_ | refine gO ?_ | refine gN ?_ | refine gM ?_ | refine gY ?_ | refine call_pureL k46 (addL (1500 * j2 + (30000 * (n + 2 - (i1 + 1)) + R)) 1200) (nM1) ?_ | refine ixS_of eix (by omega) ?_ | intro _)
          conv => whnf
          exact ⟨j2 + 1, [(0, .sl 600 al n n), (1, .int .i64 0), (2, .int .i64 (Int.ofNat n)), (3, .fn 46 [] []), (8, .int .i64 (Int.ofNat i1)), (9, .int .i64 (Int.ofNat j2))], [(600, .gr al n 37 2 (fPL (swpP l2 j2)))], (addL (1500 * j2 + (30000 * (n + 2 - (i1 + 1)) + R)) 900), 100, by omega, ⟨eqF_rfl _, eqF_rfl _, eqF_rfl _, eqF_rfl _, eqF_rfl _, ⟨congrArg (Value.int .i64) eix, rfl⟩, trivial⟩, by exact WG, nM1, j2, swpP l2 j2, by omega, (swpP_perm l2 j2).trans hp2, hIn, rfl, rfl, rfl, rfl, rfl⟩
        · have ct : iLt (cmI (l2.getD (j2 + 1) (0, 0)).1 (l2.getD j2 (0, 0)).1) 0 = false := by unfold cmI; rw [if_neg hc]; split <;> rfl
          have hSn := hI2.done (by omega) (.inr (by rw [Nat.add_sub_cancel]; exact hc))
          repeat' ((conv => whnf); first | refine eqS_rfl ?_ | refine eqA_rfl ?_ | refine eqA_of (by assumption) ?_ | refine eqS_of (by rfl) ?_ | refine eqL_rfl ?_ | refine eqJ_rfl ?_ | refine gE ?_ | refine seS_rfl ?_ | refine lsS_of hup ?_ | refine lsS_rfl ?_ | refine brS_tt ?_ | refine brS_ff ?_ | refine brS_not ?_ | refine gI ?_ | refine gT ?_ | refine gF ?_ | refine brS_intro (fun _ => ?_) (fun _ => ?_) | refine gL ?_ | refine gX ?_ | refine gO ?_ | refine gN ?_ | refine gM ?_ | refine gY ?_ | refine call_pureL k46 (addL (1500 * j2 + (30000 * (n + 2 - (i1 + 1)) + R)) 1200) (nM1) ?_ | refine ixS_of eix (by omega) ?_ | intro _)
          conv => whnf
          exact ⟨n + 2 - (i1 + 1), [(0, .sl 600 al n n), (1, .int .i64 0), (2, .int .i64 (Int.ofNat n)), (3, .fn 46 [] []), (8, .int .i64 (Int.ofNat (i1 + 1)))], [(600, .gr al n 37 2 (fPL (l2)))], (addL (30000 * (n + 2 - (i1 + 1)) + R) 500), 100, by omega, ⟨eqF_rfl _, eqF_rfl _, eqF_rfl _, eqF_rfl _, ⟨congrArg (Value.int .i64) (smn (i := i1 + 1) (by omega)), rfl⟩, trivial⟩, by exact WG, nM1, i1 + 1, l2, by omega, by omega, hp2, hSn, by omega, rfl, rfl, rfl, rfl⟩
    · have t1 := iLt_f (show n ≤ i1 by omega)
      repeat' ((conv => whnf); first | refine eqS_rfl ?_ | refine eqA_rfl ?_ | refine eqA_of (by assumption) ?_ | refine eqS_of (by rfl) ?_ | refine eqL_rfl ?_ | refine eqJ_rfl ?_ | refine gE ?_ | refine seS_rfl ?_ | refine lsS_of hup ?_ | refine lsS_rfl ?_ | refine brS_tt ?_ | refine brS_ff ?_ | refine brS_not ?_ | refine gI ?_ | refine gT ?_ | refine gF ?_ | refine brS_intro (fun _ => ?_) (fun _ => ?_) | refine gL ?_ | refine gX ?_ | refine gO ?_ | refine gN ?_ | refine gM ?_ | refine gY ?_ | intro _)
      conv => whnf
      exact ⟨⟨_, _, ⟨al, l, hp, by rw [hlen]; rcases hi2 with h1 | h1; exact (show i1 = n by omega) ▸ hS; subst h1; exact fun a b h1 h2 => by omega, rfl, rfl⟩, by rw [hlen]; rfl, by rw [hlen]; exact WG⟩, nM1⟩
end Go.Proofs.Ytogncjicndbahaa
namespace Go.Proofs.Ytogncjicndbahaa
open Go.Ab
attribute [local irreducible] aggOk drwOK
set_option maxRecDepth 100000
set_option maxHeartbeats 4000000
set_option linter.unusedVariables false
set_option linter.unusedSimpArgs false
theorem bkI_md {x : Int} (h1 : -3600 ≤ x) (h2 : x < 7200) : bkI x 3600 = x % 3600 := by
  unfold bkI
  split
  · omega
  · split
    · omega
    · split <;> omega
theorem mS_up {n : Nat} {h dv : Nat → Int} (hs : ∀ k, k < n → 0 < rs n h dv k) : ∀ j i, i < j → j ≤ n → mS n h dv i < mS n h dv j := by
  intro j
  induction j with
  | zero => intro i hi; omega
  | succ j ih =>
    intro i hi hj
    have h1 := hs j (by omega)
    rw [rs_mS (by omega)] at h1
    by_cases e : i = j
    · rw [e]; omega
    · have := ih i (by omega) (by omega); omega
theorem mS_n (n : Nat) (h dv : Nat → Int) : mS n h dv n = h 0 + dv 0 + 3600 := if_neg (Nat.lt_irrefl n)
theorem first_of {p : Nat → Prop} : ∀ n, p n → ∃ r, r ≤ n ∧ p r ∧ ∀ k, k < r → ¬ p k := by
  intro n
  induction n using Nat.strongRecOn with
  | _ n ih =>
    intro hp
    by_cases hh : ∃ k, k < n ∧ p k
    · obtain ⟨k, hk, h2⟩ := hh
      obtain ⟨r, h3, h4, h5⟩ := ih k hk h2
      exact ⟨r, by omega, h4, h5⟩
    · exact ⟨n, Nat.le_refl n, hp, fun k hk h2 => hh ⟨k, hk, h2⟩⟩
/-- where the courses of a sound card pass a whole turn -/
theorem turn_of {n : Nat} {h dv : Nat → Int} (hv : VC n h dv) (hs : ∀ k, k < n → 0 < rs n h dv k) : ∃ (r : Nat) (q : Int), 1 ≤ r ∧ r ≤ n ∧ (∀ k, k < r → 3600 * q ≤ mS n h dv k ∧ mS n h dv k < 3600 * q + 3600) ∧ (∀ k, r ≤ k → k ≤ n → 3600 * q + 3600 ≤ mS n h dv k ∧ mS n h dv k < 3600 * q + 7200) := by
  obtain ⟨q, hq⟩ : ∃ q, q = mS n h dv 0 / 3600 := ⟨_, rfl⟩
  have hn := mS_n n h dv
  have h0 := mS_lt (h := h) (dv := dv) hv.n0
  have q1 : 3600 * q ≤ mS n h dv 0 ∧ mS n h dv 0 < 3600 * q + 3600 := by omega
  obtain ⟨r, r1, r2, r3⟩ := first_of (p := fun k => 3600 * q + 3600 ≤ mS n h dv k) n (by show 3600 * q + 3600 ≤ mS n h dv n; omega)
  have hup := mS_up hs
  refine ⟨r, q, ?_, r1, fun k hk => ⟨?_, by have := r3 k hk; omega⟩, fun k hk hkn => ⟨?_, ?_⟩⟩
  · rcases Nat.eq_zero_or_pos r with e | e
    · rw [e] at r2; have r2 : 3600 * q + 3600 ≤ mS n h dv 0 := r2; omega
    · exact e
  · by_cases e : k = 0
    · rw [e]; exact q1.1
    · have := hup k 0 (by omega) (by omega); omega
  · have r2 : 3600 * q + 3600 ≤ mS n h dv r := r2
    by_cases e : k = r
    · rw [e]; exact r2
    · have := hup k r (by omega) hkn; omega
  · by_cases e : k = n
    · rw [e]; omega
    · have := hup n k (by omega) (Nat.le_refl n); omega
/-- the inverse's points in their order -/
def ivI (n r : Nat) : List Nat := (List.range (n - r)).map (r + ·) ++ List.range r
def ivS (n r j : Nat) : Nat := if j < n - r then r + j else j - (n - r)
theorem ivI_perm {n r : Nat} (hr : r ≤ n) : (ivI n r).Perm (List.range n) := by
  have e : n = r + (n - r) := by omega
  have h1 : List.range n = List.range r ++ (List.range (n - r)).map (r + ·) := (congrArg List.range e).trans List.range_add
  rw [h1]
  exact List.perm_append_comm
theorem ivI_get {n r j : Nat} (hr : r ≤ n) (hj : j < n) (f : Nat → Int × Int) : ((ivI n r).map f).getD j (0, 0) = f (ivS n r j) := by
  unfold ivI ivS
  rw [List.getD_eq_getElem?_getD, List.getElem?_map]
  split
  · rename_i h1
    rw [List.getElem?_append_left (by rw [List.length_map, List.length_range]; exact h1), List.getElem?_map, List.getElem?_range h1]
    rfl
  · rename_i h1
    rw [List.getElem?_append_right (by rw [List.length_map, List.length_range]; omega), List.length_map, List.length_range, List.getElem?_range (by omega)]
    rfl
/-- a point of a card and one of its inverse, with their segments -/
def Lk (n : Nat) (h dv hb db : Nat → Int) (k j : Nat) : Prop := ∃ z : Int, hb j = h k + dv k - 3600 * z ∧ nh n hb j = nh n h k + nd n dv k - 3600 * z ∧ db j = -(dv k) ∧ nd n db j = -(nd n dv k)
theorem Lk.symm {n : Nat} {h dv hb db : Nat → Int} {k j : Nat} (l : Lk n h dv hb db k j) : Lk n hb db h dv j k := by
  obtain ⟨z, h1, h2, h3, h4⟩ := l
  exact ⟨-z, by omega, by omega, by omega, by omega⟩
theorem list_eqP {l1 l2 : List (Int × Int)} (hp : l1.Perm l2) (h1 : SrtP l1 l1.length) (h2 : ∀ i j, i < j → j < l2.length → (l2.getD i (0, 0)).1 < (l2.getD j (0, 0)).1) : l1 = l2 := by
  have g1 : l1.Pairwise (fun x y => x.1 ≤ y.1) := by
    rw [List.pairwise_iff_getElem]
    intro i j hi hj hij
    have := h1 i j hij hj
    rw [List.getD_eq_getElem?_getD, List.getD_eq_getElem?_getD, List.getElem?_eq_getElem hi, List.getElem?_eq_getElem hj] at this
    exact this
  have g2 : l2.Pairwise (fun x y => x.1 < y.1) := by
    rw [List.pairwise_iff_getElem]
    intro i j hi hj hij
    have := h2 i j hij hj
    rw [List.getD_eq_getElem?_getD, List.getD_eq_getElem?_getD, List.getElem?_eq_getElem hi, List.getElem?_eq_getElem hj] at this
    exact this
  refine List.Perm.eq_of_pairwise (le := fun x y => x.1 ≤ y.1) (fun a b ha hb h3 h4 => ?_) g1 (g2.imp fun h => Int.le_of_lt h) hp
  have ha2 := hp.mem_iff.1 ha
  obtain ⟨i, hi, rfl⟩ := List.getElem_of_mem ha2
  obtain ⟨j, hj, rfl⟩ := List.getElem_of_mem hb
  have g3 := List.pairwise_iff_getElem.1 g2
  by_cases e1 : i < j
  · have := g3 i j hi hj e1; omega
  · by_cases e2 : j < i
    · have := g3 j i hj hi e2; omega
    · have e : i = j := by omega
      subst e; rfl
structure Inv (n : Nat) (h dv hb db : Nat → Int) : Prop where
  v : VC n hb db
  r : ∀ k, k < n → ∃ j, j < n ∧ Lk n h dv hb db k j
  l : ∀ j, j < n → ∃ k, k < n ∧ Lk n h dv hb db k j
  d : ∀ j, j < n → ∃ k, k < n ∧ db j = -(dv k)
theorem inv_of {n : Nat} {h dv : Nat → Int} (hv : VC n h dv) (hs : ∀ k, k < n → 0 < rs n h dv k) {L2 : List (Int × Int)} (hp : L2.Perm (ivL h dv n)) (hS : SrtP L2 L2.length) : Inv n h dv (fun j => (L2.getD j (0, 0)).1) (fun j => (L2.getD j (0, 0)).2) := by
  obtain ⟨r, q, r1, rn, c1, c2⟩ := turn_of hv hs
  have hup := mS_up hs
  have hn := mS_n n h dv
  have h00 := mS_lt (h := h) (dv := dv) hv.n0
  have b00 := hv.hb 0 hv.n0
  have d00 := hv.db 0 hv.n0
  have key1 : ∀ k, k < r → k < n → bkI (h k + dv k) 3600 = mS n h dv k - 3600 * q := fun k hk hkn => by
    have b1 := hv.hb k hkn
    have b2 := hv.db k hkn
    have := c1 k hk
    rw [bkI_md (by omega) (by omega), ← mS_lt hkn]; omega
  have key2 : ∀ k, r ≤ k → k < n → bkI (h k + dv k) 3600 = mS n h dv k - 3600 * q - 3600 := fun k hk hkn => by
    have b1 := hv.hb k hkn
    have b2 := hv.db k hkn
    have := c2 k hk (by omega)
    rw [bkI_md (by omega) (by omega), ← mS_lt hkn]; omega
  have hlen : ((ivI n r).map (ivE h dv)).length = n := by rw [List.length_map, (ivI_perm rn).length_eq, List.length_range]
  have hsr : ∀ i j, i < j → j < n → (ivE h dv (ivS n r i)).1 < (ivE h dv (ivS n r j)).1 := fun i j hij hj => by
    show bkI (h (ivS n r i) + dv (ivS n r i)) 3600 < bkI (h (ivS n r j) + dv (ivS n r j)) 3600
    unfold ivS
    by_cases e1 : i < n - r
    · rw [if_pos e1, key2 (r + i) (by omega) (by omega)]
      by_cases e2 : j < n - r
      · rw [if_pos e2, key2 (r + j) (by omega) (by omega)]
        have := hup (r + j) (r + i) (by omega) (by omega); omega
      · rw [if_neg e2, key1 (j - (n - r)) (by omega) (by omega)]
        have := hup n (r + i) (by omega) (Nat.le_refl n)
        by_cases e0 : j - (n - r) = 0
        · rw [e0]; omega
        · have := hup (j - (n - r)) 0 (by omega) (by omega); omega
    · rw [if_neg e1, if_neg (by omega), key1 (i - (n - r)) (by omega) (by omega), key1 (j - (n - r)) (by omega) (by omega)]
      have := hup (j - (n - r)) (i - (n - r)) (by omega) (by omega); omega
  have hL : L2 = (ivI n r).map (ivE h dv) := list_eqP (hp.trans ((ivI_perm rn).symm.map _)) hS fun i j hij hj => by
    rw [hlen] at hj
    rw [ivI_get rn (by omega), ivI_get rn hj]
    exact hsr i j hij hj
  have g1 : ∀ j, j < n → (L2.getD j (0, 0)).1 = bkI (h (ivS n r j) + dv (ivS n r j)) 3600 := fun j hj => by rw [hL, ivI_get rn hj]; rfl
  have g2 : ∀ j, j < n → (L2.getD j (0, 0)).2 = -(dv (ivS n r j)) := fun j hj => by rw [hL, ivI_get rn hj]; rfl
  have sn : ∀ j, j < n → ivS n r j < n := fun j hj => by unfold ivS; split <;> omega
  have lk : ∀ j, j < n → Lk n h dv (fun j => (L2.getD j (0, 0)).1) (fun j => (L2.getD j (0, 0)).2) (ivS n r j) j := fun j hj => by
    have x1 := mS_nx (h := h) (dv := dv) (sn j hj)
    have x2 := mS_lt (h := h) (dv := dv) (sn j hj)
    have y1 := g1 j hj
    have y2 := g2 j hj
    have z1 : nd n (fun j => (L2.getD j (0, 0)).2) j = -(nd n dv (ivS n r j)) := by
      unfold nd
      by_cases e : j + 1 < n
      · rw [if_pos e]
        show (L2.getD (j + 1) (0, 0)).2 = _
        rw [g2 (j + 1) e]
        unfold ivS
        by_cases e1 : j + 1 < n - r
        · rw [if_pos e1, if_pos (show j < n - r by omega), if_pos (by omega)]; rfl
        · rw [if_neg e1]
          by_cases e2 : j < n - r
          · rw [if_pos e2, if_neg (show ¬ r + j + 1 < n by omega), show j + 1 - (n - r) = 0 by omega]
          · rw [if_neg e2, if_pos (show j - (n - r) + 1 < n by omega), show j + 1 - (n - r) = j - (n - r) + 1 by omega]
      · rw [if_neg e]
        show (L2.getD 0 (0, 0)).2 = _
        rw [g2 0 hv.n0]
        unfold ivS
        rw [if_neg (show ¬ j < n - r by omega)]
        by_cases e1 : 0 < n - r
        · rw [if_pos e1, if_pos (by omega), show j - (n - r) + 1 = r + 0 by omega]
        · rw [if_neg e1, if_neg (by omega), show 0 - (n - r) = 0 by omega]
    have z2 : nh n (fun j => (L2.getD j (0, 0)).1) j = if j < n - r then mS n h dv (ivS n r j + 1) - 3600 * q - 3600 else mS n h dv (ivS n r j + 1) - 3600 * q := by
      unfold nh
      by_cases e : j + 1 < n
      · rw [if_pos e]
        show (L2.getD (j + 1) (0, 0)).1 = _
        rw [g1 (j + 1) e]
        unfold ivS
        by_cases e1 : j + 1 < n - r
        · rw [if_pos e1, if_pos (show j < n - r by omega), if_pos (show j < n - r by omega), key2 _ (by omega) (by omega)]; rfl
        · rw [if_neg e1]
          by_cases e2 : j < n - r
          · rw [if_pos e2, if_pos e2, show j + 1 - (n - r) = 0 by omega, key1 0 (by omega) (by omega), show r + j + 1 = n by omega]; omega
          · rw [if_neg e2, if_neg e2, key1 _ (by omega) (by omega), show j + 1 - (n - r) = j - (n - r) + 1 by omega]
      · rw [if_neg e, if_neg (show ¬ j < n - r by omega)]
        show (L2.getD 0 (0, 0)).1 + 3600 = _
        rw [g1 0 hv.n0]
        unfold ivS
        rw [if_neg (show ¬ j < n - r by omega)]
        by_cases e1 : 0 < n - r
        · rw [if_pos e1, key2 _ (by omega) (by omega), show j - (n - r) + 1 = r + 0 by omega]; omega
        · rw [if_neg e1, show 0 - (n - r) = 0 by omega, key1 0 (by omega) (by omega), show j - (n - r) + 1 = n by omega]; omega
    by_cases e : j < n - r
    · rw [if_pos e] at z2
      have e2 : r ≤ ivS n r j := by unfold ivS; rw [if_pos e]; omega
      have := key2 _ e2 (sn j hj)
      exact ⟨q + 1, by show (L2.getD j (0, 0)).1 = _; omega, by omega, y2, z1⟩
    · rw [if_neg e] at z2
      have e2 : ivS n r j < r := by unfold ivS; rw [if_neg e]; omega
      have := key1 _ e2 (sn j hj)
      exact ⟨q, by show (L2.getD j (0, 0)).1 = _; omega, by omega, y2, z1⟩
  refine ⟨⟨hv.n0, hv.n1, fun j hj => ?_, fun j hj => ?_, fun i j hij hj => ?_⟩, fun k hk => ?_, fun j hj => ⟨_, sn j hj, lk j hj⟩, fun j hj => ⟨_, sn j hj, g2 j hj⟩⟩
  · have b1 := hv.hb _ (sn j hj)
    have b2 := hv.db _ (sn j hj)
    show 0 ≤ (L2.getD j (0, 0)).1 ∧ (L2.getD j (0, 0)).1 < 3600
    rw [g1 j hj, bkI_md (by omega) (by omega)]; omega
  · have b2 := hv.db _ (sn j hj)
    show -900 ≤ (L2.getD j (0, 0)).2 ∧ (L2.getD j (0, 0)).2 ≤ 900
    rw [g2 j hj]; omega
  · show (L2.getD i (0, 0)).1 < (L2.getD j (0, 0)).1
    rw [g1 i (by omega), g1 j hj]; exact hsr i j hij hj
  · by_cases e : k < r
    · have := lk (k + (n - r)) (by omega)
      rw [show ivS n r (k + (n - r)) = k by unfold ivS; rw [if_neg (by omega)]; omega] at this
      exact ⟨_, by omega, this⟩
    · have := lk (k - r) (by omega)
      rw [show ivS n r (k - r) = k by unfold ivS; rw [if_pos (by omega)]; omega] at this
      exact ⟨_, by omega, this⟩
theorem inv_snd {n : Nat} {h dv hb db : Nat → Int} (hv : VC n h dv) (I : Inv n h dv hb db) : ∀ j, j < n → 0 < rs n hb db j := fun j hj => by
  obtain ⟨k, hk, z, h1, h2, h3, h4⟩ := I.l j hj
  have := nh_gt hv hk
  unfold rs; omega
theorem map_getD {f : Int × Int → Int × Int} (l : List (Int × Int)) : (List.range l.length).map (fun j => f (l.getD j (0, 0))) = l.map f := by
  apply List.ext_getElem?
  intro i
  rw [List.getElem?_map, List.getElem?_map]
  by_cases e : i < l.length
  · rw [List.getElem?_range e, List.getElem?_eq_getElem e]
    show some (f (l.getD i (0, 0))) = some (f l[i])
    rw [List.getD_eq_getElem?_getD, List.getElem?_eq_getElem e]; rfl
  · rw [List.getElem?_eq_none (by rw [List.length_range]; omega), List.getElem?_eq_none (by omega)]; rfl
/-- the inverse's inverse -/
theorem inv_inv {n : Nat} {h dv : Nat → Int} (hv : VC n h dv) {L2 L3 : List (Int × Int)} (hp : L2.Perm (ivL h dv n)) (hp3 : L3.Perm (ivL (fun j => (L2.getD j (0, 0)).1) (fun j => (L2.getD j (0, 0)).2) n)) (hS3 : SrtP L3 L3.length) : ∀ k, k < n → L3.getD k (0, 0) = (h k, dv k) := by
  have hl : L2.length = n := by rw [hp.length_eq, ivL_len]
  have e1 : ivL (fun j => (L2.getD j (0, 0)).1) (fun j => (L2.getD j (0, 0)).2) n = L2.map (fun p => (bkI (p.1 + p.2) 3600, -p.2)) := by rw [← map_getD, hl]; rfl
  have e2 : (ivL h dv n).map (fun p => (bkI (p.1 + p.2) 3600, -p.2)) = (List.range n).map fun k => (h k, dv k) := by
    unfold ivL
    rw [List.map_map]
    refine List.map_congr_left fun k hk => ?_
    have hk := List.mem_range.1 hk
    have b1 := hv.hb k hk
    have b2 := hv.db k hk
    have c1 := bkI_md (x := h k + dv k) (by omega) (by omega)
    have c2 := bkI_md (x := bkI (h k + dv k) 3600 + -(dv k)) (by omega) (by omega)
    show (bkI (bkI (h k + dv k) 3600 + -(dv k)) 3600, -(-(dv k))) = (h k, dv k)
    rw [c2, c1, show (((h k + dv k) % 3600 + -(dv k)) % 3600 : Int) = h k by omega, Int.neg_neg]
  have p3 : L3.Perm ((List.range n).map fun k => (h k, dv k)) := by rw [← e2]; rw [e1] at hp3; exact hp3.trans (hp.map _)
  have gg : ∀ j, j < n → ((List.range n).map fun k => (h k, dv k)).getD j (0, 0) = (h j, dv j) := fun j hj => by
    rw [List.getD_eq_getElem?_getD, List.getElem?_map, List.getElem?_range hj]; rfl
  have := list_eqP p3 hS3 fun i j hij hj => by
    rw [List.length_map, List.length_range] at hj
    rw [gg i (by omega), gg j hj]; exact hv.up i j hij hj
  intro k hk
  rw [this]; exact gg k hk
end Go.Proofs.Ytogncjicndbahaa
namespace Go.Proofs.Ytogncjicndbahaa
open Go.Ab
attribute [local irreducible] aggOk drwOK
set_option maxRecDepth 100000
set_option maxHeartbeats 4000000
set_option linter.unusedVariables false
set_option linter.unusedSimpArgs false
theorem seg_mk {n : Nat} {h dv : Nat → Int} (hv : VC n h dv) {x : Rat} {k : Nat} (hk : k < n) (lo : ((h k : Int) : Rat) ≤ uR h x) (hi : uR h x < ((nh n h k : Int) : Rat)) : Seg n h x k := by
  refine ⟨hk, lo, hi, fun j hj => ?_⟩
  have : nh n h j = h (j + 1) := by unfold nh; rw [if_pos (by omega)]
  rw [this]
  refine Rat.le_trans (Rat.intCast_le_intCast.2 ?_) lo
  by_cases e : j + 1 = k
  · rw [e]; exact Int.le_refl _
  · exact Int.le_of_lt (hv.up (j + 1) k (by omega) hk)
theorem uR_ex (h : Nat → Int) (x : Rat) : ∃ z : Int, uR h x = x + ((3600 * z : Int) : Rat) := by
  unfold uR
  split
  · exact ⟨1, rfl⟩
  · exact ⟨0, by show x = x + ((0 : Int) : Rat); rw [show ((0 : Int) : Rat) = 0 from rfl, Rat.add_zero]⟩
theorem bkR_ex (t : Rat) : ∃ z : Int, bkR t = t + ((3600 * z : Int) : Rat) := by
  unfold bkR
  split
  · exact ⟨2, rfl⟩
  · split
    · exact ⟨1, rfl⟩
    · split
      · exact ⟨-1, rfl⟩
      · exact ⟨0, by show t = t + ((0 : Int) : Rat); rw [show ((0 : Int) : Rat) = 0 from rfl, Rat.add_zero]⟩
theorem uR_bd {n : Nat} {h dv : Nat → Int} (hv : VC n h dv) {x : Rat} (h0 : 0 ≤ x) (h1 : x < 3600) : ((h 0 : Int) : Rat) ≤ uR h x ∧ uR h x < ((h 0 + 3600 : Int) : Rat) := by
  have b0 := hv.hb 0 hv.n0
  have e0 : ((0 : Int) : Rat) = 0 := rfl
  have e3 : ((3600 : Int) : Rat) = 3600 := rfl
  have g0 := Rat.intCast_le_intCast.2 b0.1
  have g1 := Rat.intCast_lt_intCast.2 b0.2
  rw [e0] at g0
  rw [e3] at g1
  constructor
  · unfold uR; split <;> grind
  · unfold uR; split <;> (push_cast; grind)
theorem near_eq {a b c : Rat} {z : Int} (h : a = b + ((3600 * z : Int) : Rat)) (h1 : c ≤ a) (h2 : a < c + 3600) (h3 : c ≤ b) (h4 : b < c + 3600) : a = b := by
  have g1 : ((3600 * z : Int) : Rat) < ((3600 : Int) : Rat) := by rw [show ((3600 : Int) : Rat) = 3600 from rfl]; grind
  have g2 : ((-3600 : Int) : Rat) < ((3600 * z : Int) : Rat) := by rw [show ((-3600 : Int) : Rat) = -3600 from rfl]; grind
  have g1 := Rat.intCast_lt_intCast.1 g1
  have g2 := Rat.intCast_lt_intCast.1 g2
  have : z = 0 := by omega
  rw [h, this]
  show b + ((0 : Int) : Rat) = b
  rw [show ((0 : Int) : Rat) = 0 from rfl, Rat.add_zero]
theorem inv_alg {H L M D N u : Rat} (hL : 0 < L) (hM : M = L + N - D) (hM0 : 0 < M) (h1 : H ≤ u) (h2 : u < H + L) : H + D ≤ u + (D + (u - H) * ((N - D) / L)) ∧ u + (D + (u - H) * ((N - D) / L)) < H + D + M ∧ -D + (u + (D + (u - H) * ((N - D) / L)) - (H + D)) * ((-N - -D) / M) = -(D + (u - H) * ((N - D) / L)) := by
  obtain ⟨w, hw⟩ : ∃ w, w = (u - H) / L := ⟨_, rfl⟩
  have e1 : u - H = w * L := by rw [hw, Rat.div_mul_cancel (by grind)]
  have w0 : 0 ≤ w := by
    rw [hw, Rat.div_def]
    exact Rat.mul_nonneg (by grind) (Rat.le_of_lt (Rat.inv_pos.2 hL))
  have w1 : w < 1 := by
    have : w * L < 1 * L := by rw [← e1]; grind
    exact Rat.lt_of_mul_lt_mul_right this (Rat.le_of_lt hL)
  have e2 : (u - H) * ((N - D) / L) = w * (N - D) := by rw [e1]; grind
  have e3 : u + (D + w * (N - D)) = H + D + w * M := by grind
  have m0 : 0 ≤ w * M := Rat.mul_nonneg w0 (Rat.le_of_lt hM0)
  have m1 : w * M < M := by
    have := Rat.mul_lt_mul_of_pos_right w1 hM0
    grind
  rw [e2, e3]
  refine ⟨by grind, by grind, ?_⟩
  rw [show H + D + w * M - (H + D) = w * M by grind]
  grind
theorem inv_seg {n : Nat} {h dv hb db : Nat → Int} (hv : VC n h dv) (hvb : VC n hb db) {k j : Nat} (hr : 0 < rs n h dv k) (l : Lk n h dv hb db k j) (hj : j < n) {x : Rat} (sg : Seg n h x k) {y : Rat} (y0 : 0 ≤ y) (y1 : y < 3600) {z : Int} (hy : y = x + dvU n h dv x k + ((3600 * z : Int) : Rat)) : Seg n hb y j ∧ dvU n hb db y j = -(dvU n h dv x k) := by
  obtain ⟨zz, l1, l2, l3, l4⟩ := l
  obtain ⟨zu, hu⟩ := uR_ex h x
  obtain ⟨zv, hvv⟩ := uR_ex hb y
  obtain ⟨bd1, bd2⟩ := uR_bd hvb y0 y1
  have hl := nh_gt hv sg.kn
  have hlb := nh_gt hvb hj
  have lo := sg.lo
  have hi := sg.hi
  have hL : (0 : Rat) < ((nh n h k - h k : Int) : Rat) := Rat.intCast_lt_intCast.2 (show (0 : Int) < nh n h k - h k by omega)
  have hM0 : (0 : Rat) < ((rs n h dv k : Int) : Rat) := Rat.intCast_lt_intCast.2 hr
  have hM : ((rs n h dv k : Int) : Rat) = ((nh n h k - h k : Int) : Rat) + ((nd n dv k : Int) : Rat) - ((dv k : Int) : Rat) := by
    rw [show rs n h dv k = nh n h k - h k + nd n dv k - dv k by unfold rs; omega]; push_cast; rfl
  obtain ⟨A1, A2, A3⟩ := inv_alg (H := ((h k : Int) : Rat)) (D := ((dv k : Int) : Rat)) (N := ((nd n dv k : Int) : Rat)) (u := uR h x) hL hM hM0 lo (by rw [Rat.intCast_sub]; grind)
  have eq : dvU n h dv x k = ((dv k : Int) : Rat) + (uR h x - ((h k : Int) : Rat)) * ((((nd n dv k : Int) : Rat) - ((dv k : Int) : Rat)) / ((nh n h k - h k : Int) : Rat)) := by unfold dvU; rw [Rat.intCast_sub (nd n dv k)]
  rw [← eq] at A1 A2 A3
  generalize dvU n h dv x k = q at *
  have hh0 : hb 0 ≤ hb j := by
    by_cases e : j = 0
    · rw [e]; exact Int.le_refl _
    · exact Int.le_of_lt (hvb.up 0 j (by omega) hj)
  have hhn : nh n hb j ≤ hb 0 + 3600 := by
    unfold nh
    split
    · rename_i h9
      have := hvb.hb (j + 1) h9
      have := hvb.hb 0 hvb.n0
      omega
    · omega
  have g0 := Rat.intCast_le_intCast.2 hh0
  have gn := Rat.intCast_le_intCast.2 hhn
  have f1 : ((hb j : Int) : Rat) = ((h k : Int) : Rat) + ((dv k : Int) : Rat) - ((3600 * zz : Int) : Rat) := by rw [l1, Rat.intCast_sub, Rat.intCast_add]
  have f2 : ((nh n hb j : Int) : Rat) = ((h k : Int) : Rat) + ((dv k : Int) : Rat) + ((rs n h dv k : Int) : Rat) - ((3600 * zz : Int) : Rat) := by
    rw [show nh n hb j = h k + dv k + rs n h dv k - 3600 * zz by unfold rs; omega, Rat.intCast_sub, Rat.intCast_add, Rat.intCast_add]
  have f3 : ((hb 0 + 3600 : Int) : Rat) = ((hb 0 : Int) : Rat) + 3600 := by rw [Rat.intCast_add]; rfl
  rw [f3] at bd2 gn
  have hv9 : uR hb y = uR h x + q - ((3600 * zz : Int) : Rat) := by
    refine near_eq (c := ((hb 0 : Int) : Rat)) (z := zv + z - zu + zz) ?_ bd1 bd2 (by grind) (by grind)
    rw [show (3600 * (zv + z - zu + zz) : Int) = 3600 * zv + 3600 * z - 3600 * zu + 3600 * zz by omega, Rat.intCast_add, Rat.intCast_sub, Rat.intCast_add]
    grind
  refine ⟨seg_mk hvb hj (by rw [hv9, f1]; grind) (by rw [hv9, f2]; grind), ?_⟩
  unfold dvU
  rw [hv9, f1, l3, l4, show nh n hb j - hb j = rs n h dv k by unfold rs; omega, Rat.intCast_sub, Rat.intCast_neg, Rat.intCast_neg]
  rw [show uR h x + q - ((3600 * zz : Int) : Rat) - (((h k : Int) : Rat) + ((dv k : Int) : Rat) - ((3600 * zz : Int) : Rat)) = uR h x + q - (((h k : Int) : Rat) + ((dv k : Int) : Rat)) by grind]
  exact A3
end Go.Proofs.Ytogncjicndbahaa
namespace Go.Proofs.Ytogncjicndbahaa
open Go.Ab
attribute [local irreducible] aggOk drwOK
set_option maxRecDepth 100000
set_option maxHeartbeats 4000000
set_option linter.unusedVariables false
set_option linter.unusedSimpArgs false
def IvQ (n : Nat) (h dv hb db : Nat → Int) : Prop := ∃ L2 : List (Int × Int), L2.Perm (ivL h dv n) ∧ SrtP L2 L2.length ∧ hb = (fun j => (L2.getD j (0, 0)).1) ∧ db = (fun j => (L2.getD j (0, 0)).2)
theorem ivQ_inv {n : Nat} {h dv hb db : Nat → Int} (hv : VC n h dv) (hs : ∀ k, k < n → 0 < rs n h dv k) (q : IvQ n h dv hb db) : Inv n h dv hb db := by
  obtain ⟨L2, h1, h2, rfl, rfl⟩ := q
  exact inv_of hv hs h1 h2
theorem ivQ_back {n : Nat} {h dv hb db ha da : Nat → Int} (hv : VC n h dv) (q : IvQ n h dv hb db) (q2 : IvQ n hb db ha da) : ∀ k, k < n → h k = ha k ∧ dv k = da k := by
  obtain ⟨L2, h1, h2, rfl, rfl⟩ := q
  obtain ⟨L3, h3, h4, rfl, rfl⟩ := q2
  intro k hk
  have := inv_inv hv h1 h3 h4 k hk
  show h k = (L3.getD k (0, 0)).1 ∧ dv k = (L3.getD k (0, 0)).2
  rw [this]; exact ⟨rfl, rfl⟩
theorem call19 (F d : Nat) (hF : 300 < F) (i : Nat) (a : Option Addr) (n e c : Nat) (h dv : Nat → Int) (hv : VC n h dv) (hn : n ≤ 12) (hs : ∀ k, k < n → 0 < rs n h dv k) (R2 : Nat) {args : List SV} {mm : Mem} {R ni : Nat} {K : SV → Mem → Nat → Nat → Prop} (ha : dens args = dens [.sl 1000 a n c]) (hm : SeesM mm [(1000, .ro a n e 2 fun j => [.int .i64 (h j), .int .i64 (dv j)])]) (hN : R2 + (3000000 + 900) ≤ R)
    (hK : ∀ a1 hb db, IvQ n h dv hb db → K (.tup [.sl i a1 n n, .int .i64 0]) ((i, .gr a1 n 37 2 (fun j => [.int .i64 (hb j), .int .i64 (db j)])) :: mm) R2 ni) : callS (CL F (d + 7)) (.fn 19 [] []) args mm R ni K :=
  call_freshL (Q19 i (ivL h dv n)) (c19 F d hF i a n e c h dv hv hn hs) (fun w0 mf hq x hx => by
    obtain ⟨a1, L2, _, _, _, rfl⟩ := hq
    rw [List.mem_singleton.1 hx]
    exact ⟨_, _, _, _, _, rfl⟩) R2 ha hm hN fun w0 mf hq => by
    obtain ⟨a1, L2, h1, h2, rfl, rfl⟩ := hq
    have hl : L2.length = n := by rw [h1.length_eq, ivL_len]
    have := hK a1 (fun j => (L2.getD j (0, 0)).1) (fun j => (L2.getD j (0, 0)).2) ⟨L2, h1, h2, rfl, rfl⟩
    rw [hl]
    exact this
theorem eq37 (a b x y : Int) : eqV Try.prog 40 37 (.agg ⟨[.int .i64 a, .int .i64 b]⟩) (.agg ⟨[.int .i64 x, .int .i64 y]⟩) = some (iEq a x && (iEq b y && true)) := by kernel_rfl
theorem eq37t {a b x y : Int} (h1 : a = x) (h2 : b = y) : eqV Try.prog 40 37 (.agg ⟨[.int .i64 a, .int .i64 b]⟩) (.agg ⟨[.int .i64 x, .int .i64 y]⟩) = some true := by rw [eq37, h1, h2, iEq_self, iEq_self]; rfl
theorem c26 (F d : Nat) (a a2 : Option Addr) (n e e2 c c2 : Nat) (h dv h2 d2 : Nat → Int) (hF : 200 < F) (hn : n ≤ 36) (he : ∀ j, j < n → h j = h2 j ∧ dv j = d2 j) : ReadC (CL F (d + 1)) 26 [.sl 1000 a n c, .sl 1001 a2 n c2] [(1000, .ro a n e 2 fun j => [.int .i64 (h j), .int .i64 (dv j)]), (1001, .ro a2 n e2 2 fun j => [.int .i64 (h2 j), .int .i64 (d2 j)])] (20000 + 900) (.bool true) := by
  intro R
  rw [show 20000 + 900 = (20000) + 900 from rfl, addL_eq, ← Nat.add_assoc, ← addL_eq _ 900, Nat.add_comm R (20000)]
  refine call_in (n := 26) Try.func26 rfl rfl rfl rfl rfl rfl rfl ?_
  have t0 : iEq (Int.ofNat n) (Int.ofNat n) = true := iEq_self _
  repeat' ((conv => whnf); first | refine eqS_rfl ?_ | refine eqA_rfl ?_ | refine eqA_of (by assumption) ?_ | refine eqS_of (by rfl) ?_ | refine eqL_rfl ?_ | refine eqJ_rfl ?_ | refine gE ?_ | refine seS_rfl ?_ | refine lsS_of hup ?_ | refine lsS_rfl ?_ | refine brS_tt ?_ | refine brS_ff ?_ | refine brS_not ?_ | refine gI ?_ | refine gT ?_ | refine gF ?_ | refine brS_intro (fun _ => ?_) (fun _ => ?_) | refine gL ?_ | refine gX ?_ | refine gO ?_ | refine gN ?_ | intro _)
  conv => whnf
  refine loS_i (fun jj f mm R' ni => ∃ j : Nat, j ≤ n ∧ jj = n - j + 1 ∧ f = [(0, .sl 1000 a n c), (1, .sl 1001 a2 n c2), (5, .int .i64 (Int.ofNat j))] ∧ mm = [(1000, .ro a n e 2 fun j => [.int .i64 (h j), .int .i64 (dv j)]), (1001, .ro a2 n e2 2 fun j => [.int .i64 (h2 j), .int .i64 (d2 j)])] ∧ R' = (addL (200 * (n - j) + R) 500) ∧ ni = 10) (n + 1) (by omega)
    ⟨[(0, .sl 1000 a n c), (1, .sl 1001 a2 n c2), (5, .int .i64 (Int.ofNat 0))], [(1000, .ro a n e 2 fun j => [.int .i64 (h j), .int .i64 (dv j)]), (1001, .ro a2 n e2 2 fun j => [.int .i64 (h2 j), .int .i64 (d2 j)])], (addL (200 * (n - 0) + R) 500), 10, ⟨⟨rfl, rfl⟩, ⟨rfl, rfl⟩, eqF_rfl _, trivial⟩, by exact WS, nM1, 0, by omega, by omega, rfl, rfl, rfl, rfl⟩ ?_
  rintro _ _ _ _ _ ⟨j, hj, rfl, rfl, rfl, rfl, rfl⟩
  by_cases hlt : j < n
  · have t1 := iLt_t hlt
    obtain ⟨e1, e3⟩ := he j hlt
    repeat' ((conv => whnf); first | refine eqS_rfl ?_ | refine eqA_rfl ?_ | refine eqA_of (by assumption) ?_ | refine eqS_of (by rfl) ?_ | refine eqL_rfl ?_ | refine eqJ_rfl ?_ | refine gE ?_ | refine seS_rfl ?_ | refine lsS_of hup ?_ | refine lsS_rfl ?_ | refine brS_tt ?_ | refine brS_ff ?_ | refine brS_not ?_ | refine gI ?_ | refine gT ?_ | refine gF ?_ | refine brS_intro (fun _ => ?_) (fun _ => ?_) | refine gL ?_ | refine gX ?_ | refine gO ?_ | refine gN ?_ | refine gM ?_ | refine gY ?_ | refine agS.mk (by kernel_rfl) ?_ | refine eqvS_of (eq37t e1 e3) ?_ | intro _)
    conv => whnf
    exact ⟨n - (j + 1) + 1, [(0, .sl 1000 a n c), (1, .sl 1001 a2 n c2), (5, .int .i64 (Int.ofNat (j + 1)))], _, (addL (200 * (n - (j + 1)) + R) 500), 10, by omega, ⟨⟨rfl, rfl⟩, ⟨rfl, rfl⟩, ⟨congrArg (Value.int .i64) (smn (i := j + 1) (by omega)), rfl⟩, trivial⟩, by exact WS, nM1, j + 1, by omega, rfl, rfl, rfl, rfl, rfl⟩
  · have e9 : j = n := by omega
    subst e9
    have t1 := iLt_f (Nat.le_refl j)
    repeat' ((conv => whnf); first | refine eqS_rfl ?_ | refine eqA_rfl ?_ | refine eqA_of (by assumption) ?_ | refine eqS_of (by rfl) ?_ | refine eqL_rfl ?_ | refine eqJ_rfl ?_ | refine gE ?_ | refine seS_rfl ?_ | refine lsS_of hup ?_ | refine lsS_rfl ?_ | refine brS_tt ?_ | refine brS_ff ?_ | refine brS_not ?_ | refine gI ?_ | refine gT ?_ | refine gF ?_ | refine brS_intro (fun _ => ?_) (fun _ => ?_) | refine gL ?_ | refine gX ?_ | refine gO ?_ | refine gN ?_ | refine gM ?_ | refine gY ?_ | intro _)
    conv => whnf
    exact ⟨rfl, nM1⟩
end Go.Proofs.Ytogncjicndbahaa
namespace Go.Proofs.Ytogncjicndbahaa
open Go.Ab
attribute [local irreducible] aggOk drwOK
set_option maxRecDepth 100000
set_option maxHeartbeats 4000000
set_option linter.unusedVariables false
set_option linter.unusedSimpArgs false
theorem Vb.neg {q : Rat} {V D : Nat} (h : Vb q V D) : Vb (-q) V D := by
  have h1 := h.d; have h2 := h.lo; have h3 := h.hi
  refine ⟨by rw [Rat.neg_den]; exact h1, ?_, ?_⟩ <;> (rw [Rat.neg_num, Rat.neg_den]; have := Int.neg_mul (V : Int) q.den; omega)
/-- one card after the other, its inverse -/
structure Fw (n : Nat) (h dv hb db : Nat → Int) (m : Int) (k j : Nat) (q t a r s b : Rat) : Prop where
  v : Vb (m : Rat) 3600 6000
  m0 : (0 : Rat) ≤ (m : Rat)
  m1 : (m : Rat) < (3600 : Rat)
  v1 : Vb (m : Rat) 3600 1
  sg : Seg n h (m : Rat) k
  hq : q = dvU n h dv (m : Rat) k
  vq : Vb q 785 3600
  ht : t = (m : Rat) + q
  ha : a = bkR t
  vt : Vb t 7200 3600
  a0 : 0 ≤ a
  a1 : a < 3600
  va : Vb a 3600 3600
  sg2 : Seg n hb a j
  hr : r = dvU n hb db a j
  e : r = -q
  vr : Vb r 785 3600
  hs : s = a + r
  vs : Vb s 7200 12960000
  hb : b = bkR s
  s0 : S22 ((0 : Int) : Rat) q 0 (0 + 1) = S22 ((0 : Int) : Rat) q 0 0 + g22 q r 0
  s1 : S22 ((0 : Int) : Rat) q 0 (1 + 1) = S22 ((0 : Int) : Rat) q 0 1 + g22 q r 1
theorem fw_ex {n : Nat} {h dv hb db : Nat → Int} (hv : VC n h dv) (hvb : VC n hb db) (hs : ∀ k, k < n → 0 < rs n h dv k) (hb1 : ∀ j, j < n → -((785 : Nat) : Int) ≤ dv j ∧ dv j ≤ ((785 : Nat) : Int)) (I : ∀ k, k < n → ∃ j, j < n ∧ Lk n h dv hb db k j) {m : Int} (hm : 0 ≤ m ∧ m < 3600) : ∃ k j q t a r s b, Fw n h dv hb db m k j q t a r s b := by
  have v1 : Vb (m : Rat) 3600 1 := Vb.int (V := 3600) (by omega)
  have vm := v1.mono (Nat.le_refl 3600) (show 1 ≤ 6000 by decide)
  have g1 : (0 : Rat) ≤ (m : Rat) := Rat.intCast_le_intCast.2 hm.1
  have g2 : (m : Rat) < (3600 : Rat) := Rat.intCast_lt_intCast.2 hm.2
  obtain ⟨k, hs1⟩ := seg_ex hv g1 g2
  obtain ⟨q1, hq1⟩ : ∃ q, q = dvU n h dv (m : Rat) k := ⟨_, rfl⟩
  have D1 := dvB_of hv hs1 hb1
  rw [← hq1] at D1
  have vq1 : Vb q1 785 3600 := D1.v 1 (Nat.le_refl 1)
  obtain ⟨t1, ht1⟩ : ∃ t, t = (m : Rat) + q1 := ⟨_, rfl⟩
  obtain ⟨at1, hat⟩ : ∃ t, t = bkR t1 := ⟨_, rfl⟩
  have vt1 : Vb t1 7200 3600 := by rw [ht1]; exact (v1.add vq1).mono (by decide) (by decide)
  have hat2 : 0 ≤ at1 ∧ at1 < 3600 := by
    have r1 := vq1.r1
    have r2 := vq1.r2
    have e0 : ((785 : Nat) : Rat) = 785 := rfl
    rw [e0] at r1 r2
    have e1 : ((-3600 : Int) : Rat) = -3600 := rfl
    have e2 : ((7200 : Int) : Rat) = 7200 := rfl
    have e3 : ((3600 : Int) : Rat) = 3600 := rfl
    have e4 : ((0 : Int) : Rat) = 0 := rfl
    have i1 : -785 ≤ t1 := by rw [ht1]; grind
    have i2 : t1 < 4385 := by rw [ht1]; grind
    rw [hat]
    unfold bkR; rw [e1, e2, e3, e4]
    clear hat ht1 g1 g2 r1 r2
    split
    · grind
    · split
      · grind
      · split <;> grind
  have td : t1.den = q1.den := by rw [ht1, Rat.add_comm]; exact addI_den q1 m
  obtain ⟨bn, bd⟩ := bkR_eq t1
  rw [← hat] at bn bd
  have vat : Vb at1 3600 3600 := by
    have e5 : ((3600 : Nat) : Rat) = 3600 := rfl
    refine Vb.of (by rw [bd, td]; exact vq1.d) ?_ ?_ <;> (rw [e5]; obtain ⟨x1, x2⟩ := hat2; grind)
  obtain ⟨z, hz⟩ := bkR_ex t1
  obtain ⟨j, hj, l⟩ := I k hs1.kn
  obtain ⟨s2, e2⟩ := inv_seg hv hvb (hs k hs1.kn) l hj hs1 hat2.1 hat2.2 (z := z) (by rw [hat, hz, ht1, hq1])
  rw [← hq1] at e2
  have vr := vq1.neg
  refine ⟨k, j, q1, t1, at1, -q1, at1 + -q1, bkR (at1 + -q1), vm, g1, g2, v1, hs1, hq1, vq1, ht1, hat, vt1, hat2.1, hat2.2, vat, s2, e2.symm, rfl, vr, rfl, (vat.add vr).mono (by decide) (by decide), rfl, ?_, ?_⟩
  · show q1 = ((0 : Int) : Rat) + q1
    rw [show ((0 : Int) : Rat) = 0 from rfl, Rat.zero_add]
  · show (0 : Rat) = q1 + -q1
    rw [Rat.add_neg_cancel]
theorem seg_same {n : Nat} {h : Nat → Int} {x : Rat} {k j : Nat} (h1 : Seg n h x k) (h2 : Seg n h x j) : k = j := by
  by_cases e1 : k < j
  · exact absurd h1.hi (Rat.not_lt.2 (h2.be k e1))
  · by_cases e2 : j < k
    · exact absurd h2.hi (Rat.not_lt.2 (h1.be j e2))
    · omega
/-- the allowance is the inverse's deviation, with the other sign -/
theorem alw_inv {n : Nat} {h dv hb db : Nat → Int} (hv : VC n h dv) (hvb : VC n hb db) (hs : ∀ k, k < n → 0 < rs n h dv k) (I : ∀ k, k < n → ∃ j, j < n ∧ Lk n h dv hb db k j) {m : Int} (hm : 0 ≤ m ∧ m < 3600) {x q : Rat} {k k2 : Nat} (A : Alw n h dv m x q k) (sb : Seg n hb (m : Rat) k2) : q = -(dvU n hb db (m : Rat) k2) := by
  have g1 : (0 : Rat) ≤ (m : Rat) := Rat.intCast_le_intCast.2 hm.1
  have g2 : (m : Rat) < (3600 : Rat) := Rat.intCast_lt_intCast.2 hm.2
  obtain ⟨j, hj, l⟩ := I k A.sg.kn
  obtain ⟨z, hz⟩ := A.e
  obtain ⟨s2, e2⟩ := inv_seg hv hvb (hs k A.sg.kn) l hj A.sg g1 g2 (z := -z) (by
    rw [← A.hq, hz, show (3600 * -z : Int) = -(3600 * z) by omega, Rat.intCast_add, Rat.intCast_neg]; grind)
  rw [seg_same sb s2, e2, ← A.hq, Rat.neg_neg]
end Go.Proofs.Ytogncjicndbahaa
