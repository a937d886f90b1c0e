/- Ore: the reference: Check. -/
import Derived.Test.YtbpdmbgkoijfbaaOrH
import Derived.KernelRfl
namespace Go.Proofs.Ytbpdmbgkoijfbaa
open Go.Ab
attribute [local irreducible] aggOk drwOK
set_option maxRecDepth 100000
set_option maxHeartbeats 4000000
theorem okE_symm (o a b : Int) : okE o a b = okE o b a := by
  unfold okE
  by_cases h : T a b = -1800
  · rw [h, T_neg' h]
  · rw [T_neg h]; refine decide_eq_decide.2 ?_; omega
theorem okB_0 (g : Grid) (o : Int) (x y : Nat) : okB g o x y 0 = okE o (g x y) (g (x + 1) y) := rfl
theorem okB_1 (g : Grid) (o : Int) (x y : Nat) : okB g o x y 1 = okE o (g (x + 1) y) (g (x + 1) (y + 1)) := rfl
theorem okB_2 (g : Grid) (o : Int) (x y : Nat) : okB g o x y 2 = okE o (g (x + 1) (y + 1)) (g x (y + 1)) := rfl
theorem okB_3 (g : Grid) (o : Int) (x y : Nat) : okB g o x y 3 = okE o (g x (y + 1)) (g x y) := rfl
/-- all turns of a field are certain -/
def Cert (g : Grid) (o : Int) (W H : Nat) : Prop := (∀ x y, x + 1 < W → y < H → okE o (g x y) (g (x + 1) y) = true) ∧ ∀ x y, x < W → y + 1 < H → okE o (g x y) (g x (y + 1)) = true
theorem certB_iff {g : Grid} {o : Int} {W H : Nat} (hW : 2 ≤ W) (hH : 2 ≤ H) : certB g o (W - 1) (H - 1) = true ↔ Cert g o W H := by
  unfold certB
  constructor
  · intro h
    have key : ∀ x y j, x + 1 < W → y + 1 < H → j < 4 → okB g o x y j = true := fun x y j hx hy hj => by
      obtain ⟨q1, q2, q3⟩ := cell_at (w := W - 1) (h := H - 1) (u := x) (v := y) (by omega) (by omega)
      have h1 := List.all_eq_true.1 (List.all_eq_true.1 h _ (List.mem_range.2 q1)) j (List.mem_range.2 hj)
      rw [q2, q3, Nat.zero_add, Nat.zero_add] at h1
      exact h1
    refine ⟨fun x y hx hy => ?_, fun x y hx hy => ?_⟩
    · by_cases e : y + 1 < H
      · rw [← okB_0]; exact key x y 0 hx e (by omega)
      · have h1 := key x (y - 1) 2 hx (by omega) (by omega)
        rw [okB_2, show y - 1 + 1 = y by omega, okE_symm] at h1
        exact h1
    · by_cases e : x + 1 < W
      · rw [okE_symm, ← okB_3]; exact key x y 3 e hy (by omega)
      · have h1 := key (x - 1) y 1 (by omega) hy (by omega)
        rw [okB_1, show x - 1 + 1 = x by omega] at h1
        exact h1
  · intro ⟨h1, h2⟩
    refine all_t fun k hk => all_t fun j hj => ?_
    have hW1 : 0 < W - 1 := by omega
    have hkx : k % (W - 1) < W - 1 := Nat.mod_lt _ hW1
    have hky : k / (W - 1) < H - 1 := by rw [Nat.div_lt_iff_lt_mul hW1, Nat.mul_comm]; exact hk
    rcases (by omega : j = 0 ∨ j = 1 ∨ j = 2 ∨ j = 3) with rfl | rfl | rfl | rfl
    · exact h1 (0 + k % (W - 1)) (0 + k / (W - 1)) (by omega) (by omega)
    · exact h2 (0 + k % (W - 1) + 1) (0 + k / (W - 1)) (by omega) (by omega)
    · rw [okB_2, okE_symm]; exact h1 (0 + k % (W - 1)) (0 + k / (W - 1) + 1) (by omega) (by omega)
    · rw [okB_3, okE_symm]; exact h2 (0 + k % (W - 1)) (0 + k / (W - 1)) (by omega) (by omega)
/-- a point, as the reference asks -/
def rok (g : Grid) (o : Int) (x y : Nat) : Bool := !((decide (0 < x) && !okE o (g (x - 1) y) (g x y)) || (decide (0 < y) && !okE o (g x (y - 1)) (g x y)))
def certR (g : Grid) (o : Int) (W H : Nat) : Bool := (List.range H).all fun y => (List.range W).all fun x => rok g o x y
theorem certR_iff {g : Grid} {o : Int} {W H : Nat} : certR g o W H = true ↔ Cert g o W H := by
  unfold certR
  constructor
  · intro h
    have key : ∀ x y, x < W → y < H → rok g o x y = true := fun x y hx hy => List.all_eq_true.1 (List.all_eq_true.1 h _ (List.mem_range.2 hy)) _ (List.mem_range.2 hx)
    refine ⟨fun x y hx hy => ?_, fun x y hx hy => ?_⟩
    · have h1 := key (x + 1) y hx hy
      unfold rok at h1
      cases e : okE o (g x y) (g (x + 1) y) with
      | true => rfl
      | false => rw [show x + 1 - 1 = x from rfl, e] at h1; simp at h1
    · have h1 := key x (y + 1) hx hy
      unfold rok at h1
      cases e : okE o (g x y) (g x (y + 1)) with
      | true => rfl
      | false => rw [show y + 1 - 1 = y from rfl, e] at h1; simp at h1
  · intro ⟨h1, h2⟩
    refine all_t fun y hy => all_t fun x hx => ?_
    unfold rok
    have e1 : (decide (0 < x) && !okE o (g (x - 1) y) (g x y)) = false := by
      by_cases h : 0 < x
      · have := h1 (x - 1) y (by omega) hy
        rw [show x - 1 + 1 = x by omega] at this
        rw [this]; simp
      · rw [decide_eq_false h]; rfl
    have e2 : (decide (0 < y) && !okE o (g x (y - 1)) (g x y)) = false := by
      by_cases h : 0 < y
      · have := h2 x (y - 1) hx (by omega)
        rw [show y - 1 + 1 = y by omega] at this
        rw [this]; simp
      · rw [decide_eq_false h]; rfl
    rw [e1, e2]; rfl
theorem cert_same {g : Grid} {o : Int} {W H : Nat} (hW : 2 ≤ W) (hH : 2 ≤ H) : certR g o W H = certB g o (W - 1) (H - 1) := Bool.eq_iff_iff.2 (certR_iff.trans (certB_iff hW hH).symm)
theorem Cert.sure {g : Grid} {o : Int} {W H : Nat} (h : Cert g o W H) (ho : 0 ≤ o) : Sure g W H := by
  have key : ∀ a b, okE o a b = true → T a b ≠ -1800 := fun a b h e => by
    have h := of_decide_eq_true h
    rw [e] at h
    omega
  exact ⟨fun x y hx hy => key _ _ (h.1 x y hx hy), fun x y hx hy => key _ _ (h.2 x y hx hy)⟩
theorem c18_1 (F d : Nat) (W H o : Int) (a : Option Addr) (n c : Nat) (hr : ¬ rangeP W H o) : PureC (CL F (d + 3)) 18 [fld W H o a n c] 10 (i64 1) := by
  have h3 : decide (2 ≤ W ∧ W ≤ 9) = false ∨ (decide (2 ≤ W ∧ W ≤ 9) = true ∧ decide (2 ≤ H ∧ H ≤ 9) = false) ∨ (decide (2 ≤ W ∧ W ≤ 9) = true ∧ decide (2 ≤ H ∧ H ≤ 9) = true ∧ decide (0 ≤ o ∧ o ≤ 400) = false) := by
    simp only [decide_eq_true_eq, decide_eq_false_iff_not]
    by_cases p1 : 2 ≤ W ∧ W ≤ 9
    · by_cases p2 : 2 ≤ H ∧ H ≤ 9
      · exact .inr (.inr ⟨p1, p2, fun p3 => hr ⟨p1, p2, p3⟩⟩)
      · exact .inr (.inl ⟨p1, p2⟩)
    · exact .inl p1
  rcases h3 with d1 | ⟨d1, d2⟩ | ⟨d1, d2, d3⟩
  · skip
    intro m R
    refine call_in (n := 83) Try.func18 rfl rfl rfl rfl rfl rfl rfl ?_
    repeat' ((conv => whnf); first
             | refine eqS_rfl ?_
             | refine eqA_rfl ?_
             | refine eqA_of (by assumption) ?_
             | refine eqS_of (by rfl) ?_
             | refine eqL_rfl ?_
             | refine eqJ_rfl ?_
             | refine flE_intro (fun _ _ => rfl) ?_
             | refine seS_rfl ?_
             | refine brS_tt ?_
             | refine brS_ff ?_
             | refine brS_not ?_
             | refine brS_t (iEq_self _) ?_
             | refine brS_t (by assumption) ?_
             | refine brS_f (by assumption) ?_
             | refine brS_intro (fun _ => ?_) (fun _ => ?_)
             | refine ltS_intro (by first | assumption | decide | exact Nat.le_of_ble_eq_true rfl | omega) ?_
             | refine ixS_of rfl (by first | assumption | decide | omega) ?_
             | refine okS_intro (by first | assumption | kernel_rfl) ?_
             | refine nzS_intro (by first | decide | assumption) ?_
             | refine call_pure (c38 F _ _ _ _) ?_
             | intro _)
    all_goals (conv => whnf)
    all_goals refine ⟨?_, by repeat' (first | exact WkM.refl _ | refine WkM.drop ?_), by repeat' (first | exact Nat.le_refl _ | refine Nat.le_succ_of_le ?_)⟩
    all_goals (rfl)

  · skip
    intro m R
    refine call_in (n := 83) Try.func18 rfl rfl rfl rfl rfl rfl rfl ?_
    repeat' ((conv => whnf); first
             | refine eqS_rfl ?_
             | refine eqA_rfl ?_
             | refine eqA_of (by assumption) ?_
             | refine eqS_of (by rfl) ?_
             | refine eqL_rfl ?_
             | refine eqJ_rfl ?_
             | refine flE_intro (fun _ _ => rfl) ?_
             | refine seS_rfl ?_
             | refine brS_tt ?_
             | refine brS_ff ?_
             | refine brS_not ?_
             | refine brS_t (iEq_self _) ?_
             | refine brS_t (by assumption) ?_
             | refine brS_f (by assumption) ?_
             | refine brS_intro (fun _ => ?_) (fun _ => ?_)
             | refine ltS_intro (by first | assumption | decide | exact Nat.le_of_ble_eq_true rfl | omega) ?_
             | refine ixS_of rfl (by first | assumption | decide | omega) ?_
             | refine okS_intro (by first | assumption | kernel_rfl) ?_
             | refine nzS_intro (by first | decide | assumption) ?_
             | refine call_pure (c38 F _ _ _ _) ?_
             | intro _)
    all_goals (conv => whnf)
    all_goals refine ⟨?_, by repeat' (first | exact WkM.refl _ | refine WkM.drop ?_), by repeat' (first | exact Nat.le_refl _ | refine Nat.le_succ_of_le ?_)⟩
    all_goals (rfl)

  · skip
    intro m R
    refine call_in (n := 83) Try.func18 rfl rfl rfl rfl rfl rfl rfl ?_
    repeat' ((conv => whnf); first
             | refine eqS_rfl ?_
             | refine eqA_rfl ?_
             | refine eqA_of (by assumption) ?_
             | refine eqS_of (by rfl) ?_
             | refine eqL_rfl ?_
             | refine eqJ_rfl ?_
             | refine flE_intro (fun _ _ => rfl) ?_
             | refine seS_rfl ?_
             | refine brS_tt ?_
             | refine brS_ff ?_
             | refine brS_not ?_
             | refine brS_t (iEq_self _) ?_
             | refine brS_t (by assumption) ?_
             | refine brS_f (by assumption) ?_
             | refine brS_intro (fun _ => ?_) (fun _ => ?_)
             | refine ltS_intro (by first | assumption | decide | exact Nat.le_of_ble_eq_true rfl | omega) ?_
             | refine ixS_of rfl (by first | assumption | decide | omega) ?_
             | refine okS_intro (by first | assumption | kernel_rfl) ?_
             | refine nzS_intro (by first | decide | assumption) ?_
             | refine call_pure (c38 F _ _ _ _) ?_
             | intro _)
    all_goals (conv => whnf)
    all_goals refine ⟨?_, by repeat' (first | exact WkM.refl _ | refine WkM.drop ?_), by repeat' (first | exact Nat.le_refl _ | refine Nat.le_succ_of_le ?_)⟩
    all_goals (rfl)

theorem c18_4 (F d : Nat) (W H o : Int) (a : Option Addr) (n c : Nat) (hr : rangeP W H o) (hn : (n : Int) ≠ W * H) : PureC (CL F (d + 3)) 18 [fld W H o a n c] 10 (i64 4) := by
  have d1 := decide_eq_true hr.1
  have d2 := decide_eq_true hr.2.1
  have d3 := decide_eq_true hr.2.2
  have d4 : iEq (Int.ofNat n) (wr .i64 (Int.mul W H)) = false := by
    have : W * H ≤ 9 * 9 := Int.mul_le_mul (by omega) (by omega) (by omega) (by omega)
    have : 0 ≤ W * H := Int.mul_nonneg (by omega) (by omega)
    rw [show wr .i64 (Int.mul W H) = W * H from sm (n := W * H) (by omega), iEq_eq]
    exact decide_eq_false hn
  intro m R
  refine call_in (n := 83) Try.func18 rfl rfl rfl rfl rfl rfl rfl ?_
  repeat' ((conv => whnf); first
           | refine eqS_rfl ?_
           | refine eqA_rfl ?_
           | refine eqA_of (by assumption) ?_
           | refine eqS_of (by rfl) ?_
           | refine eqL_rfl ?_
           | refine eqJ_rfl ?_
           | refine flE_intro (fun _ _ => rfl) ?_
           | refine seS_rfl ?_
           | refine brS_tt ?_
           | refine brS_ff ?_
           | refine brS_not ?_
           | refine brS_t (iEq_self _) ?_
           | refine brS_t (by assumption) ?_
           | refine brS_f (by assumption) ?_
           | refine brS_intro (fun _ => ?_) (fun _ => ?_)
           | refine ltS_intro (by first | assumption | decide | exact Nat.le_of_ble_eq_true rfl | omega) ?_
           | refine ixS_of rfl (by first | assumption | decide | omega) ?_
           | refine okS_intro (by first | assumption | kernel_rfl) ?_
           | refine nzS_intro (by first | decide | assumption) ?_
           | refine call_pure (c38 F _ _ _ _) ?_
           | intro _)
  all_goals (conv => whnf)
  all_goals refine ⟨?_, by repeat' (first | exact WkM.refl _ | refine WkM.drop ?_), by repeat' (first | exact Nat.le_refl _ | refine Nat.le_succ_of_le ?_)⟩
  all_goals (rfl)

theorem c18_n (F d : Nat) (hF : 100 < F) (W H : Nat) (o : Int) (a : Option Addr) (n c : Nat) (nf : Nat → Int) (hz : ∀ j, n ≤ j → nf j = 0) (hW : 2 ≤ W ∧ W ≤ 9) (hH : 2 ≤ H ∧ H ≤ 9) (ho : 0 ≤ o ∧ o ≤ 400) (hn : n = W * H) : ReadC (CL F (d + 3)) 18 [fld W H o a n c] [(1000, roN a n c nf)] (66000 + 100) (i64 (chkN W H o n nf)) := by
  have d1 : decide (2 ≤ (W : Int) ∧ (W : Int) ≤ 9) = true := decide_eq_true (by omega)
  have d2 : decide (2 ≤ (H : Int) ∧ (H : Int) ≤ 9) = true := decide_eq_true (by omega)
  have d3 := decide_eq_true ho
  have hWH : W * H ≤ 9 * 9 := Nat.mul_le_mul hW.2 hH.2
  have d4 : iEq (Int.ofNat n) (wr .i64 (Int.mul (W : Nat) (H : Nat))) = true := by
    rw [show wr .i64 (Int.mul (W : Nat) (H : Nat)) = ((W * H : Nat) : Int) from wr_nat (i := W * H) (by omega), hn, iEq_eq]
    exact decide_eq_true rfl
  intro R
  rw [show 66000 + 100 = (66000) + 100 from rfl, addL_eq, ← Nat.add_assoc, ← addL_eq _ 100]
  refine call_in (n := 83) Try.func18 rfl rfl rfl rfl rfl rfl rfl ?_
  repeat' ((conv => whnf); first
           | refine eqS_rfl ?_
           | refine eqA_rfl ?_
           | refine eqA_of (by assumption) ?_
           | refine eqS_of (by rfl) ?_
           | refine eqL_rfl ?_
           | refine eqJ_rfl ?_
           | refine flE_intro (fun _ _ => rfl) ?_
           | refine seS_rfl ?_
           | refine brS_tt ?_
           | refine brS_ff ?_
           | refine brS_not ?_
           | refine brS_t (iEq_self _) ?_
           | refine brS_t (by assumption) ?_
           | refine brS_f (by assumption) ?_
           | refine brS_intro (fun _ => ?_) (fun _ => ?_)
           | refine ltS_intro (by first | assumption | decide | exact Nat.le_of_ble_eq_true rfl | omega) ?_
           | refine ixS_of rfl (by first | assumption | decide | omega) ?_
           | refine okS_intro (by first | assumption | kernel_rfl) ?_
           | refine nzS_intro (by first | decide | assumption) ?_
           | refine call_pure (c38 F _ _ _ _) ?_
           | intro _)
  rename_i bf
  conv => whnf
  refine loS_i (fun jj f mm R' ni => ∃ i : Nat, i ≤ n ∧ jj = n - i + 1 ∧ (∀ q, q < i → decide (0 ≤ nf q ∧ nf q ≤ 3599) = true) ∧ f = [(1, .ptr 0 bf 0), (3, .int .i64 (Int.ofNat i))] ∧ mm = [(0, .own bf 31 [i64 W, i64 H, i64 o, .sl 1000 a n c]), (1000, roN a n c nf)] ∧ R' = addL (R + 66000) 50 ∧ ni = 100) (n + 1) (by omega)
    ⟨[(1, .ptr 0 bf 0), (3, .int .i64 (Int.ofNat 0))], [(0, .own bf 31 [i64 W, i64 H, i64 o, .sl 1000 a n c]), (1000, roN a n c nf)], addL (R + 66000) 50, 100, ⟨eqF_rfl _, eqF_rfl _, trivial⟩, WkM.refl _, by (first | exact Nat.le_refl _ | (simp only [addL_eq, addL_rec]; omega)), 0, by omega, by omega, fun q hq => absurd hq (Nat.not_lt_zero _), rfl, rfl, rfl, rfl⟩ ?_
  rintro _ _ _ _ _ ⟨i, hi, rfl, hok, rfl, rfl, rfl, rfl⟩
  by_cases hin : i < n
  · have dl : iLt (Int.ofNat i) (Int.ofNat n) = true := by rw [iLt_eq]; exact decide_eq_true (by show (i : Int) < n; omega)
    cases hb : decide (0 ≤ nf i ∧ nf i ≤ 3599) with
    | false =>
      repeat' ((conv => whnf); first
               | refine eqS_rfl ?_
               | refine eqA_rfl ?_
               | refine eqA_of (by assumption) ?_
               | refine eqS_of (by rfl) ?_
               | refine eqL_rfl ?_
               | refine eqJ_rfl ?_
               | refine flE_intro (fun _ _ => rfl) ?_
               | refine seS_rfl ?_
               | refine brS_tt ?_
               | refine brS_ff ?_
               | refine brS_not ?_
               | refine brS_t (iEq_self _) ?_
               | refine brS_t (by assumption) ?_
               | refine brS_f (by assumption) ?_
               | refine brS_intro (fun _ => ?_) (fun _ => ?_)
               | refine ltS_intro (by first | assumption | decide | exact Nat.le_of_ble_eq_true rfl | omega) ?_
               | refine ixS_of rfl (by first | assumption | decide | omega) ?_
               | refine okS_intro (by first | assumption | kernel_rfl) ?_
               | refine nzS_intro (by first | decide | assumption) ?_
               | refine ltS_intro (by have := lt_of_iLt ‹iLt (Int.ofNat _) (Int.ofNat _) = true›; omega) ?_
               | refine ixS_of rfl (by have := lt_of_iLt ‹iLt (Int.ofNat _) (Int.ofNat _) = true›; omega) ?_
               | refine call_pure (c38 F _ _ _ _) ?_
               | intro _)
      conv => whnf
      refine ⟨?_, by (first | exact Nat.le_refl _ | (simp only [addL_eq, addL_rec]; omega))⟩
      show Value.int .i64 1 = Value.int .i64 (chkN W H o n nf)
      unfold chkN; rw [show dirB n nf = false from all_f hin hb]; rfl
    | true =>
      repeat' ((conv => whnf); first
               | refine eqS_rfl ?_
               | refine eqA_rfl ?_
               | refine eqA_of (by assumption) ?_
               | refine eqS_of (by rfl) ?_
               | refine eqL_rfl ?_
               | refine eqJ_rfl ?_
               | refine flE_intro (fun _ _ => rfl) ?_
               | refine seS_rfl ?_
               | refine brS_tt ?_
               | refine brS_ff ?_
               | refine brS_not ?_
               | refine brS_t (iEq_self _) ?_
               | refine brS_t (by assumption) ?_
               | refine brS_f (by assumption) ?_
               | refine brS_intro (fun _ => ?_) (fun _ => ?_)
               | refine ltS_intro (by first | assumption | decide | exact Nat.le_of_ble_eq_true rfl | omega) ?_
               | refine ixS_of rfl (by first | assumption | decide | omega) ?_
               | refine okS_intro (by first | assumption | kernel_rfl) ?_
               | refine nzS_intro (by first | decide | assumption) ?_
               | refine ltS_intro (by have := lt_of_iLt ‹iLt (Int.ofNat _) (Int.ofNat _) = true›; omega) ?_
               | refine ixS_of rfl (by have := lt_of_iLt ‹iLt (Int.ofNat _) (Int.ofNat _) = true›; omega) ?_
               | refine call_pure (c38 F _ _ _ _) ?_
               | intro _)
      conv => whnf
      refine ⟨n - (i + 1) + 1, [(1, .ptr 0 bf 0), (3, .int .i64 (Int.ofNat (i + 1)))], _, addL (R + 66000) 50, 100, by omega, ⟨eqF_rfl _, ⟨congrArg (Value.int .i64) (wr_nat (i := i + 1) (by omega)), rfl⟩, trivial⟩, WkM.refl _, by (first | exact Nat.le_refl _ | (simp only [addL_eq, addL_rec]; omega)), i + 1, by omega, rfl, ?_, rfl, rfl, rfl, rfl⟩
      intro q hq
      by_cases e : q = i
      · rw [e]; exact hb
      · exact hok q (by omega)
  have dl : iLt (Int.ofNat i) (Int.ofNat n) = false := by rw [iLt_eq]; exact decide_eq_false (by show ¬ (i : Int) < n; omega)
  have e : n = i := by omega
  have g1 : dirB n nf = true := all_t (by rw [e]; exact hok)
  have g2 : ∀ j, Dir (nf j) := fun j => by
    by_cases h : j < i
    · have := of_decide_eq_true (hok j h); omega
    · rw [hz j (by omega)]; omega
  clear hok hin
  have hval : ∀ b, certR (grid nf W) o W H = b → chkN W H o n nf = bif b then 0 else 14 := fun b hb => by
    unfold chkN; rw [g1, ← cert_same hW.1 hH.1, hb]; rfl
  repeat' ((conv => whnf); first
           | refine eqS_rfl ?_
           | refine eqA_rfl ?_
           | refine eqA_of (by assumption) ?_
           | refine eqS_of (by rfl) ?_
           | refine eqL_rfl ?_
           | refine eqJ_rfl ?_
           | refine flE_intro (fun _ _ => rfl) ?_
           | refine seS_rfl ?_
           | refine brS_tt ?_
           | refine brS_ff ?_
           | refine brS_not ?_
           | refine brS_t (iEq_self _) ?_
           | refine brS_t (by assumption) ?_
           | refine brS_f (by assumption) ?_
           | refine brS_intro (fun _ => ?_) (fun _ => ?_)
           | refine ltS_intro (by first | assumption | decide | exact Nat.le_of_ble_eq_true rfl | omega) ?_
           | refine ixS_of rfl (by first | assumption | decide | omega) ?_
           | refine okS_intro (by first | assumption | kernel_rfl) ?_
           | refine nzS_intro (by first | decide | assumption) ?_
           | intro _)
  conv => whnf
  refine loS_i (fun jj f mm R' ni => ∃ v : Nat, v ≤ H ∧ jj = H - v + 1 ∧ (∀ q, q < v → ∀ p, p < W → rok (grid nf W) o p q = true) ∧ f = [(1, .ptr 0 bf 0), (4, .int .i64 (Int.ofNat v))] ∧ mm = [(0, .own bf 31 [i64 W, i64 H, i64 o, .sl 1000 a n c]), (1000, roN a n c nf)] ∧ R' = addL (R + 1000 * (10 - v)) 50 ∧ ni = 100) (H + 1) (by omega)
    ⟨[(1, .ptr 0 bf 0), (4, .int .i64 (Int.ofNat 0))], [(0, .own bf 31 [i64 W, i64 H, i64 o, .sl 1000 a n c]), (1000, roN a n c nf)], addL (R + 1000 * (10 - 0)) 50, 100, ⟨eqF_rfl _, eqF_rfl _, trivial⟩, WkM.refl _, by (first | exact Nat.le_refl _ | (simp only [addL_eq, addL_rec]; omega)), 0, by omega, by omega, fun q hq => absurd hq (Nat.not_lt_zero _), rfl, rfl, rfl, rfl⟩ ?_
  rintro _ _ _ _ _ ⟨v, hv, rfl, hokv, rfl, rfl, rfl, rfl⟩
  by_cases hvH : v < H
  · have dv : iLt (Int.ofNat v) (H : Nat) = true := by rw [iLt_eq]; exact decide_eq_true (by show (v : Int) < H; omega)
    repeat' ((conv => whnf); first
             | refine eqS_rfl ?_
             | refine eqA_rfl ?_
             | refine eqA_of (by assumption) ?_
             | refine eqS_of (by rfl) ?_
             | refine eqL_rfl ?_
             | refine eqJ_rfl ?_
             | refine flE_intro (fun _ _ => rfl) ?_
             | refine seS_rfl ?_
             | refine brS_tt ?_
             | refine brS_ff ?_
             | refine brS_not ?_
             | refine brS_t (iEq_self _) ?_
             | refine brS_t (by assumption) ?_
             | refine brS_f (by assumption) ?_
             | refine brS_intro (fun _ => ?_) (fun _ => ?_)
             | refine ltS_intro (by first | assumption | decide | exact Nat.le_of_ble_eq_true rfl | omega) ?_
             | refine ixS_of rfl (by first | assumption | decide | omega) ?_
             | refine okS_intro (by first | assumption | kernel_rfl) ?_
             | refine nzS_intro (by first | decide | assumption) ?_
             | intro _)
    conv => whnf
    refine loS_i (fun jj f mm R' ni => ∃ u : Nat, u ≤ W ∧ jj = W - u + 1 ∧ (∀ p, p < u → rok (grid nf W) o p v = true) ∧ f = [(1, .ptr 0 bf 0), (4, .int .i64 (Int.ofNat v)), (5, .int .i64 (Int.ofNat u))] ∧ mm = [(0, .own bf 31 [i64 W, i64 H, i64 o, .sl 1000 a n c]), (1000, roN a n c nf)] ∧ R' = addL (R + 1000 * (10 - (v + 1)) + 90 * (10 - u)) 90 ∧ ni = 100) (W + 1) (by omega)
      ⟨[(1, .ptr 0 bf 0), (4, .int .i64 (Int.ofNat v)), (5, .int .i64 (Int.ofNat 0))], [(0, .own bf 31 [i64 W, i64 H, i64 o, .sl 1000 a n c]), (1000, roN a n c nf)], addL (R + 1000 * (10 - (v + 1)) + 90 * (10 - 0)) 90, 100, ⟨eqF_rfl _, eqF_rfl _, eqF_rfl _, trivial⟩, WkM.refl _, by (first | exact Nat.le_refl _ | (simp only [addL_eq, addL_rec]; omega)), 0, by omega, by omega, fun q hq => absurd hq (Nat.not_lt_zero _), rfl, rfl, rfl, rfl⟩ ?_
    rintro _ _ _ _ _ ⟨u, hu, rfl, hoku, rfl, rfl, rfl, rfl⟩
    by_cases huW : u < W
    · have du : iLt (Int.ofNat u) (W : Nat) = true := by rw [iLt_eq]; exact decide_eq_true (by show (u : Int) < W; omega)
      have hnext : rok (grid nf W) o u v = true → ∀ p, p < u + 1 → rok (grid nf W) o p v = true := fun h p hp => by
        by_cases e : p = u
        · rw [e]; exact h
        · exact hoku p (by omega)
      have exu : 0 < u → wr .i64 (Int.sub (Int.ofNat u) 1) = ((u - 1 : Nat) : Int) := fun h => (sm (n := (u : Int) - 1) (by omega)).trans (by omega)
      have exv : 0 < v → wr .i64 (Int.sub (Int.ofNat v) 1) = ((v - 1 : Nat) : Int) := fun h => (sm (n := (v : Int) - 1) (by omega)).trans (by omega)
      by_cases hu0 : 0 < u
      · have du0 : iLt 0 (Int.ofNat u) = true := by rw [iLt_eq]; exact decide_eq_true (by show (0 : Int) < (u : Int); omega)
        cases e1 : okE o (grid nf W (u - 1) v) (grid nf W u v) with
        | false =>
          repeat' ((conv => whnf); first
                   | refine eqS_rfl ?_
                   | refine eqA_rfl ?_
                   | refine eqA_of (by assumption) ?_
                   | refine eqS_of (by rfl) ?_
                   | refine eqL_rfl ?_
                   | refine eqJ_rfl ?_
                   | refine flE_intro (fun _ _ => rfl) ?_
                   | refine seS_rfl ?_
                   | refine brS_tt ?_
                   | refine brS_ff ?_
                   | refine brS_not ?_
                   | refine brS_t (iEq_self _) ?_
                   | refine brS_t (by assumption) ?_
                   | refine brS_f (by assumption) ?_
                   | refine brS_intro (fun _ => ?_) (fun _ => ?_)
                   | refine ltS_intro (by first | assumption | decide | exact Nat.le_of_ble_eq_true rfl | omega) ?_
                   | refine ixS_of rfl (by first | assumption | decide | omega) ?_
                   | refine okS_intro (by first | assumption | kernel_rfl) ?_
                   | refine nzS_intro (by first | decide | assumption) ?_
                   | refine call_read (c42 F _ W H (u - 1) (v) (u) (v) o a n c nf g2 ho (by omega) (by omega) (by omega) (by omega) (by omega) (by omega) hn) (by exact congrArg (fun z => dens [fld W H o a n c, i64 z, i64 v, i64 u, i64 v]) (exu (by omega))) (by exact SeesM.cons 1000 (sees_ro (i := 1000) (by rfl)) (SeesM.nil _) (fun _ _ _ _ _ _ x hx => by cases hx)) ?_
                   | refine call_read (c42 F _ W H (u) (v - 1) (u) (v) o a n c nf g2 ho (by omega) (by omega) (by omega) (by omega) (by omega) (by omega) hn) (by exact congrArg (fun z => dens [fld W H o a n c, i64 u, i64 z, i64 u, i64 v]) (exv (by omega))) (by exact SeesM.cons 1000 (sees_ro (i := 1000) (by rfl)) (SeesM.nil _) (fun _ _ _ _ _ _ x hx => by cases hx)) ?_
                   | intro _)
          conv => whnf
          refine ⟨?_, by (first | exact Nat.le_refl _ | (simp only [addL_eq, addL_rec]; omega))⟩
          show Value.int .i64 14 = Value.int .i64 (chkN W H o n nf)
          rw [hval false (all_f hvH (all_f huW (by unfold rok; simp [*])))]; rfl
        | true =>
          by_cases hv0 : 0 < v
          · have dv0 : iLt 0 (Int.ofNat v) = true := by rw [iLt_eq]; exact decide_eq_true (by show (0 : Int) < (v : Int); omega)
            cases e2 : okE o (grid nf W u (v - 1)) (grid nf W u v) with
            | true =>
              repeat' ((conv => whnf); first
                       | refine eqS_rfl ?_
                       | refine eqA_rfl ?_
                       | refine eqA_of (by assumption) ?_
                       | refine eqS_of (by rfl) ?_
                       | refine eqL_rfl ?_
                       | refine eqJ_rfl ?_
                       | refine flE_intro (fun _ _ => rfl) ?_
                       | refine seS_rfl ?_
                       | refine brS_tt ?_
                       | refine brS_ff ?_
                       | refine brS_not ?_
                       | refine brS_t (iEq_self _) ?_
                       | refine brS_t (by assumption) ?_
                       | refine brS_f (by assumption) ?_
                       | refine brS_intro (fun _ => ?_) (fun _ => ?_)
                       | refine ltS_intro (by first | assumption | decide | exact Nat.le_of_ble_eq_true rfl | omega) ?_
                       | refine ixS_of rfl (by first | assumption | decide | omega) ?_
                       | refine okS_intro (by first | assumption | kernel_rfl) ?_
                       | refine nzS_intro (by first | decide | assumption) ?_
                       | refine call_read (c42 F _ W H (u - 1) (v) (u) (v) o a n c nf g2 ho (by omega) (by omega) (by omega) (by omega) (by omega) (by omega) hn) (by exact congrArg (fun z => dens [fld W H o a n c, i64 z, i64 v, i64 u, i64 v]) (exu (by omega))) (by exact SeesM.cons 1000 (sees_ro (i := 1000) (by rfl)) (SeesM.nil _) (fun _ _ _ _ _ _ x hx => by cases hx)) ?_
                       | refine call_read (c42 F _ W H (u) (v - 1) (u) (v) o a n c nf g2 ho (by omega) (by omega) (by omega) (by omega) (by omega) (by omega) hn) (by exact congrArg (fun z => dens [fld W H o a n c, i64 u, i64 z, i64 u, i64 v]) (exv (by omega))) (by exact SeesM.cons 1000 (sees_ro (i := 1000) (by rfl)) (SeesM.nil _) (fun _ _ _ _ _ _ x hx => by cases hx)) ?_
                       | intro _)
              conv => whnf
              exact ⟨W - (u + 1) + 1, [(1, .ptr 0 bf 0), (4, .int .i64 (Int.ofNat v)), (5, .int .i64 (Int.ofNat (u + 1)))], _, addL (R + 1000 * (10 - (v + 1)) + 90 * (10 - (u + 1))) 90, 100, by omega, ⟨eqF_rfl _, eqF_rfl _, ⟨congrArg (Value.int .i64) (wr_nat (i := u + 1) (by omega)), rfl⟩, trivial⟩, WkM.refl _, by (first | exact Nat.le_refl _ | (simp only [addL_eq, addL_rec]; omega)), u + 1, by omega, rfl, hnext (by unfold rok; simp [*]), rfl, rfl, rfl, rfl⟩
            | false =>
              repeat' ((conv => whnf); first
                       | refine eqS_rfl ?_
                       | refine eqA_rfl ?_
                       | refine eqA_of (by assumption) ?_
                       | refine eqS_of (by rfl) ?_
                       | refine eqL_rfl ?_
                       | refine eqJ_rfl ?_
                       | refine flE_intro (fun _ _ => rfl) ?_
                       | refine seS_rfl ?_
                       | refine brS_tt ?_
                       | refine brS_ff ?_
                       | refine brS_not ?_
                       | refine brS_t (iEq_self _) ?_
                       | refine brS_t (by assumption) ?_
                       | refine brS_f (by assumption) ?_
                       | refine brS_intro (fun _ => ?_) (fun _ => ?_)
                       | refine ltS_intro (by first | assumption | decide | exact Nat.le_of_ble_eq_true rfl | omega) ?_
                       | refine ixS_of rfl (by first | assumption | decide | omega) ?_
                       | refine okS_intro (by first | assumption | kernel_rfl) ?_
                       | refine nzS_intro (by first | decide | assumption) ?_
                       | refine call_read (c42 F _ W H (u - 1) (v) (u) (v) o a n c nf g2 ho (by omega) (by omega) (by omega) (by omega) (by omega) (by omega) hn) (by exact congrArg (fun z => dens [fld W H o a n c, i64 z, i64 v, i64 u, i64 v]) (exu (by omega))) (by exact SeesM.cons 1000 (sees_ro (i := 1000) (by rfl)) (SeesM.nil _) (fun _ _ _ _ _ _ x hx => by cases hx)) ?_
                       | refine call_read (c42 F _ W H (u) (v - 1) (u) (v) o a n c nf g2 ho (by omega) (by omega) (by omega) (by omega) (by omega) (by omega) hn) (by exact congrArg (fun z => dens [fld W H o a n c, i64 u, i64 z, i64 u, i64 v]) (exv (by omega))) (by exact SeesM.cons 1000 (sees_ro (i := 1000) (by rfl)) (SeesM.nil _) (fun _ _ _ _ _ _ x hx => by cases hx)) ?_
                       | intro _)
              conv => whnf
              refine ⟨?_, by (first | exact Nat.le_refl _ | (simp only [addL_eq, addL_rec]; omega))⟩
              show Value.int .i64 14 = Value.int .i64 (chkN W H o n nf)
              rw [hval false (all_f hvH (all_f huW (by unfold rok; simp [*])))]; rfl
          · have dv0 : iLt 0 (Int.ofNat v) = false := by rw [iLt_eq]; exact decide_eq_false (by show ¬ (0 : Int) < (v : Int); omega)
            repeat' ((conv => whnf); first
                     | refine eqS_rfl ?_
                     | refine eqA_rfl ?_
                     | refine eqA_of (by assumption) ?_
                     | refine eqS_of (by rfl) ?_
                     | refine eqL_rfl ?_
                     | refine eqJ_rfl ?_
                     | refine flE_intro (fun _ _ => rfl) ?_
                     | refine seS_rfl ?_
                     | refine brS_tt ?_
                     | refine brS_ff ?_
                     | refine brS_not ?_
                     | refine brS_t (iEq_self _) ?_
                     | refine brS_t (by assumption) ?_
                     | refine brS_f (by assumption) ?_
                     | refine brS_intro (fun _ => ?_) (fun _ => ?_)
                     | refine ltS_intro (by first | assumption | decide | exact Nat.le_of_ble_eq_true rfl | omega) ?_
                     | refine ixS_of rfl (by first | assumption | decide | omega) ?_
                     | refine okS_intro (by first | assumption | kernel_rfl) ?_
                     | refine nzS_intro (by first | decide | assumption) ?_
                     | refine call_read (c42 F _ W H (u - 1) (v) (u) (v) o a n c nf g2 ho (by omega) (by omega) (by omega) (by omega) (by omega) (by omega) hn) (by exact congrArg (fun z => dens [fld W H o a n c, i64 z, i64 v, i64 u, i64 v]) (exu (by omega))) (by exact SeesM.cons 1000 (sees_ro (i := 1000) (by rfl)) (SeesM.nil _) (fun _ _ _ _ _ _ x hx => by cases hx)) ?_
                     | refine call_read (c42 F _ W H (u) (v - 1) (u) (v) o a n c nf g2 ho (by omega) (by omega) (by omega) (by omega) (by omega) (by omega) hn) (by exact congrArg (fun z => dens [fld W H o a n c, i64 u, i64 z, i64 u, i64 v]) (exv (by omega))) (by exact SeesM.cons 1000 (sees_ro (i := 1000) (by rfl)) (SeesM.nil _) (fun _ _ _ _ _ _ x hx => by cases hx)) ?_
                     | intro _)
            conv => whnf
            exact ⟨W - (u + 1) + 1, [(1, .ptr 0 bf 0), (4, .int .i64 (Int.ofNat v)), (5, .int .i64 (Int.ofNat (u + 1)))], _, addL (R + 1000 * (10 - (v + 1)) + 90 * (10 - (u + 1))) 90, 100, by omega, ⟨eqF_rfl _, eqF_rfl _, ⟨congrArg (Value.int .i64) (wr_nat (i := u + 1) (by omega)), rfl⟩, trivial⟩, WkM.refl _, by (first | exact Nat.le_refl _ | (simp only [addL_eq, addL_rec]; omega)), u + 1, by omega, rfl, hnext (by unfold rok; simp [*]), rfl, rfl, rfl, rfl⟩
      · have du0 : iLt 0 (Int.ofNat u) = false := by rw [iLt_eq]; exact decide_eq_false (by show ¬ (0 : Int) < (u : Int); omega)
        by_cases hv0 : 0 < v
        · have dv0 : iLt 0 (Int.ofNat v) = true := by rw [iLt_eq]; exact decide_eq_true (by show (0 : Int) < (v : Int); omega)
          cases e2 : okE o (grid nf W u (v - 1)) (grid nf W u v) with
          | true =>
            repeat' ((conv => whnf); first
                     | refine eqS_rfl ?_
                     | refine eqA_rfl ?_
                     | refine eqA_of (by assumption) ?_
                     | refine eqS_of (by rfl) ?_
                     | refine eqL_rfl ?_
                     | refine eqJ_rfl ?_
                     | refine flE_intro (fun _ _ => rfl) ?_
                     | refine seS_rfl ?_
                     | refine brS_tt ?_
                     | refine brS_ff ?_
                     | refine brS_not ?_
                     | refine brS_t (iEq_self _) ?_
                     | refine brS_t (by assumption) ?_
                     | refine brS_f (by assumption) ?_
                     | refine brS_intro (fun _ => ?_) (fun _ => ?_)
                     | refine ltS_intro (by first | assumption | decide | exact Nat.le_of_ble_eq_true rfl | omega) ?_
                     | refine ixS_of rfl (by first | assumption | decide | omega) ?_
                     | refine okS_intro (by first | assumption | kernel_rfl) ?_
                     | refine nzS_intro (by first | decide | assumption) ?_
                     | refine call_read (c42 F _ W H (u - 1) (v) (u) (v) o a n c nf g2 ho (by omega) (by omega) (by omega) (by omega) (by omega) (by omega) hn) (by exact congrArg (fun z => dens [fld W H o a n c, i64 z, i64 v, i64 u, i64 v]) (exu (by omega))) (by exact SeesM.cons 1000 (sees_ro (i := 1000) (by rfl)) (SeesM.nil _) (fun _ _ _ _ _ _ x hx => by cases hx)) ?_
                     | refine call_read (c42 F _ W H (u) (v - 1) (u) (v) o a n c nf g2 ho (by omega) (by omega) (by omega) (by omega) (by omega) (by omega) hn) (by exact congrArg (fun z => dens [fld W H o a n c, i64 u, i64 z, i64 u, i64 v]) (exv (by omega))) (by exact SeesM.cons 1000 (sees_ro (i := 1000) (by rfl)) (SeesM.nil _) (fun _ _ _ _ _ _ x hx => by cases hx)) ?_
                     | intro _)
            conv => whnf
            exact ⟨W - (u + 1) + 1, [(1, .ptr 0 bf 0), (4, .int .i64 (Int.ofNat v)), (5, .int .i64 (Int.ofNat (u + 1)))], _, addL (R + 1000 * (10 - (v + 1)) + 90 * (10 - (u + 1))) 90, 100, by omega, ⟨eqF_rfl _, eqF_rfl _, ⟨congrArg (Value.int .i64) (wr_nat (i := u + 1) (by omega)), rfl⟩, trivial⟩, WkM.refl _, by (first | exact Nat.le_refl _ | (simp only [addL_eq, addL_rec]; omega)), u + 1, by omega, rfl, hnext (by unfold rok; simp [*]), rfl, rfl, rfl, rfl⟩
          | false =>
            repeat' ((conv => whnf); first
                     | refine eqS_rfl ?_
                     | refine eqA_rfl ?_
                     | refine eqA_of (by assumption) ?_
                     | refine eqS_of (by rfl) ?_
                     | refine eqL_rfl ?_
                     | refine eqJ_rfl ?_
                     | refine flE_intro (fun _ _ => rfl) ?_
                     | refine seS_rfl ?_
                     | refine brS_tt ?_
                     | refine brS_ff ?_
                     | refine brS_not ?_
                     | refine brS_t (iEq_self _) ?_
                     | refine brS_t (by assumption) ?_
                     | refine brS_f (by assumption) ?_
                     | refine brS_intro (fun _ => ?_) (fun _ => ?_)
                     | refine ltS_intro (by first | assumption | decide | exact Nat.le_of_ble_eq_true rfl | omega) ?_
                     | refine ixS_of rfl (by first | assumption | decide | omega) ?_
                     | refine okS_intro (by first | assumption | kernel_rfl) ?_
                     | refine nzS_intro (by first | decide | assumption) ?_
                     | refine call_read (c42 F _ W H (u - 1) (v) (u) (v) o a n c nf g2 ho (by omega) (by omega) (by omega) (by omega) (by omega) (by omega) hn) (by exact congrArg (fun z => dens [fld W H o a n c, i64 z, i64 v, i64 u, i64 v]) (exu (by omega))) (by exact SeesM.cons 1000 (sees_ro (i := 1000) (by rfl)) (SeesM.nil _) (fun _ _ _ _ _ _ x hx => by cases hx)) ?_
                     | refine call_read (c42 F _ W H (u) (v - 1) (u) (v) o a n c nf g2 ho (by omega) (by omega) (by omega) (by omega) (by omega) (by omega) hn) (by exact congrArg (fun z => dens [fld W H o a n c, i64 u, i64 z, i64 u, i64 v]) (exv (by omega))) (by exact SeesM.cons 1000 (sees_ro (i := 1000) (by rfl)) (SeesM.nil _) (fun _ _ _ _ _ _ x hx => by cases hx)) ?_
                     | intro _)
            conv => whnf
            refine ⟨?_, by (first | exact Nat.le_refl _ | (simp only [addL_eq, addL_rec]; omega))⟩
            show Value.int .i64 14 = Value.int .i64 (chkN W H o n nf)
            rw [hval false (all_f hvH (all_f huW (by unfold rok; simp [*])))]; rfl
        · have dv0 : iLt 0 (Int.ofNat v) = false := by rw [iLt_eq]; exact decide_eq_false (by show ¬ (0 : Int) < (v : Int); omega)
          repeat' ((conv => whnf); first
                   | refine eqS_rfl ?_
                   | refine eqA_rfl ?_
                   | refine eqA_of (by assumption) ?_
                   | refine eqS_of (by rfl) ?_
                   | refine eqL_rfl ?_
                   | refine eqJ_rfl ?_
                   | refine flE_intro (fun _ _ => rfl) ?_
                   | refine seS_rfl ?_
                   | refine brS_tt ?_
                   | refine brS_ff ?_
                   | refine brS_not ?_
                   | refine brS_t (iEq_self _) ?_
                   | refine brS_t (by assumption) ?_
                   | refine brS_f (by assumption) ?_
                   | refine brS_intro (fun _ => ?_) (fun _ => ?_)
                   | refine ltS_intro (by first | assumption | decide | exact Nat.le_of_ble_eq_true rfl | omega) ?_
                   | refine ixS_of rfl (by first | assumption | decide | omega) ?_
                   | refine okS_intro (by first | assumption | kernel_rfl) ?_
                   | refine nzS_intro (by first | decide | assumption) ?_
                   | refine call_read (c42 F _ W H (u - 1) (v) (u) (v) o a n c nf g2 ho (by omega) (by omega) (by omega) (by omega) (by omega) (by omega) hn) (by exact congrArg (fun z => dens [fld W H o a n c, i64 z, i64 v, i64 u, i64 v]) (exu (by omega))) (by exact SeesM.cons 1000 (sees_ro (i := 1000) (by rfl)) (SeesM.nil _) (fun _ _ _ _ _ _ x hx => by cases hx)) ?_
                   | refine call_read (c42 F _ W H (u) (v - 1) (u) (v) o a n c nf g2 ho (by omega) (by omega) (by omega) (by omega) (by omega) (by omega) hn) (by exact congrArg (fun z => dens [fld W H o a n c, i64 u, i64 z, i64 u, i64 v]) (exv (by omega))) (by exact SeesM.cons 1000 (sees_ro (i := 1000) (by rfl)) (SeesM.nil _) (fun _ _ _ _ _ _ x hx => by cases hx)) ?_
                   | intro _)
          conv => whnf
          exact ⟨W - (u + 1) + 1, [(1, .ptr 0 bf 0), (4, .int .i64 (Int.ofNat v)), (5, .int .i64 (Int.ofNat (u + 1)))], _, addL (R + 1000 * (10 - (v + 1)) + 90 * (10 - (u + 1))) 90, 100, by omega, ⟨eqF_rfl _, eqF_rfl _, ⟨congrArg (Value.int .i64) (wr_nat (i := u + 1) (by omega)), rfl⟩, trivial⟩, WkM.refl _, by (first | exact Nat.le_refl _ | (simp only [addL_eq, addL_rec]; omega)), u + 1, by omega, rfl, hnext (by unfold rok; simp [*]), rfl, rfl, rfl, rfl⟩
    · have du : iLt (Int.ofNat u) (W : Nat) = false := by rw [iLt_eq]; exact decide_eq_false (by show ¬ (u : Int) < W; omega)
      have huW2 : W = u := by omega
      repeat' ((conv => whnf); first
               | refine eqS_rfl ?_
               | refine eqA_rfl ?_
               | refine eqA_of (by assumption) ?_
               | refine eqS_of (by rfl) ?_
               | refine eqL_rfl ?_
               | refine eqJ_rfl ?_
               | refine flE_intro (fun _ _ => rfl) ?_
               | refine seS_rfl ?_
               | refine brS_tt ?_
               | refine brS_ff ?_
               | refine brS_not ?_
               | refine brS_t (iEq_self _) ?_
               | refine brS_t (by assumption) ?_
               | refine brS_f (by assumption) ?_
               | refine brS_intro (fun _ => ?_) (fun _ => ?_)
               | refine ltS_intro (by first | assumption | decide | exact Nat.le_of_ble_eq_true rfl | omega) ?_
               | refine ixS_of rfl (by first | assumption | decide | omega) ?_
               | refine okS_intro (by first | assumption | kernel_rfl) ?_
               | refine nzS_intro (by first | decide | assumption) ?_
               | intro _)
      conv => whnf
      refine ⟨H - (v + 1) + 1, [(1, .ptr 0 bf 0), (4, .int .i64 (Int.ofNat (v + 1)))], _, addL (R + 1000 * (10 - (v + 1))) 50, 100, by omega, ⟨eqF_rfl _, ⟨congrArg (Value.int .i64) (wr_nat (i := v + 1) (by omega)), rfl⟩, trivial⟩, WkM.refl _, by (first | exact Nat.le_refl _ | (simp only [addL_eq, addL_rec]; omega)), v + 1, by omega, rfl, ?_, rfl, rfl, rfl, rfl⟩
      intro q hq p hp
      by_cases e : q = v
      · rw [e]; exact hoku p (by omega)
      · exact hokv q (by omega) p hp
  · have dv : iLt (Int.ofNat v) (H : Nat) = false := by rw [iLt_eq]; exact decide_eq_false (by show ¬ (v : Int) < H; omega)
    repeat' ((conv => whnf); first
             | refine eqS_rfl ?_
             | refine eqA_rfl ?_
             | refine eqA_of (by assumption) ?_
             | refine eqS_of (by rfl) ?_
             | refine eqL_rfl ?_
             | refine eqJ_rfl ?_
             | refine flE_intro (fun _ _ => rfl) ?_
             | refine seS_rfl ?_
             | refine brS_tt ?_
             | refine brS_ff ?_
             | refine brS_not ?_
             | refine brS_t (iEq_self _) ?_
             | refine brS_t (by assumption) ?_
             | refine brS_f (by assumption) ?_
             | refine brS_intro (fun _ => ?_) (fun _ => ?_)
             | refine ltS_intro (by first | assumption | decide | exact Nat.le_of_ble_eq_true rfl | omega) ?_
             | refine ixS_of rfl (by first | assumption | decide | omega) ?_
             | refine okS_intro (by first | assumption | kernel_rfl) ?_
             | refine nzS_intro (by first | decide | assumption) ?_
             | intro _)
    conv => whnf
    refine ⟨?_, by (first | exact Nat.le_refl _ | (simp only [addL_eq, addL_rec]; omega))⟩
    show Value.int .i64 0 = Value.int .i64 (chkN W H o n nf)
    rw [hval true (all_t fun q hq => all_t fun p hp => hokv q (by omega) p hp)]; rfl
end Go.Proofs.Ytbpdmbgkoijfbaa
