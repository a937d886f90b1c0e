/- Ore: lands by numbers, and OreTurned. -/
import Derived.Test.YtbpdmbgkoijfbaaOrZ
import Derived.KernelRfl
namespace Go.Proofs.Ytbpdmbgkoijfbaa
open Go.Ab
attribute [local irreducible] aggOk drwOK
set_option maxRecDepth 100000
set_option maxHeartbeats 4000000
set_option linter.unusedVariables false
set_option linter.unusedSimpArgs false
/-- a needle by a number -/
def mkV (x : Int) : Int := x % 4 * 800 + x / 4 % 20
def mkN (n : Nat) (nf : Nat → Int) (j : Nat) : Int := if j < n then mkV (nf j) else 0
theorem mkV_eq {x : Int} (hx : 0 ≤ x ∧ x < 256) : wr .i64 (Int.add (wr .i64 (Int.mul (Int.tmod (wr .i64 x) 4) 800)) (Int.tmod (wr .i64 (Int.tdiv (wr .i64 x) 4)) 20)) = mkV x := by
  rw [show wr .i64 x = x from sm (n := x) (by omega), Int.tmod_eq_emod_of_nonneg (by omega), Int.tdiv_eq_ediv_of_nonneg (by omega), show wr .i64 (x / 4) = x / 4 from sm (n := x / 4) (by omega), Int.tmod_eq_emod_of_nonneg (by omega), show wr .i64 (Int.mul (x % 4) 800) = x % 4 * 800 from sm (n := x % 4 * 800) (by omega)]
  exact sm (n := x % 4 * 800 + x / 4 % 20) (by omega)
theorem mod_eq {x k b : Int} (hx : 0 ≤ x ∧ x < 256) (hk : 0 < k ∧ k ≤ 1000) (hb : 0 ≤ b ∧ b ≤ 10) : wr .i64 (Int.add b (Int.tmod (wr .i64 x) k)) = b + x % k := by
  have h1 := Int.emod_nonneg x (show k ≠ 0 by omega)
  have h2 := Int.emod_lt_of_pos x hk.1
  rw [show wr .i64 x = x from sm (n := x) (by omega), Int.tmod_eq_emod_of_nonneg (by omega)]
  exact sm (n := b + x % k) (by omega)
theorem mod_eq0 {x k : Int} (hx : 0 ≤ x ∧ x < 256) : Int.tmod (wr .i64 x) k = x % k := by
  rw [show wr .i64 x = x from sm (n := x) (by omega), Int.tmod_eq_emod_of_nonneg (by omega)]
theorem grow1 {n : Nat} {f : Nat → List SV} {v : SV} (hv : f n = [v]) : ∀ j, j < n + 1 → grow n 1 f [v] j = f j := fun j hj => by
  unfold grow
  by_cases hjn : j < n
  · rw [blt_of hjn, cond_true]
  · have e : j = n := by omega
    subst e
    have hb : Nat.blt j j = false := by
      cases hh : Nat.blt j j with
      | false => rfl
      | true => have := blt_true hh; omega
    rw [hb, cond_false, hv]
    show List.take 1 (List.drop ((j - j) * 1) [v]) = _
    rw [Nat.sub_self]; rfl
/-- a field of its own -/
def QF (i : Nat) (W H : Nat) (o : Int) (nf : Nat → Int) (w0 : SV) (mf : Mem) : Prop := ∃ a, w0 = .agg [i64 W, i64 H, i64 o, .sl i a (W * H) (W * H)] ∧ mf = [(i, .gr a (W * H) 3 1 fun j => [i64 (nf j)])]
theorem c31 (F d : Nat) (hF : 100 < F) (i : Nat) (x0 x1 x2 : Int) (h0 : 0 ≤ x0 ∧ x0 < 256) (h1 : 0 ≤ x1 ∧ x1 < 256) (h2 : 0 ≤ x2 ∧ x2 < 256) (a : Option Addr) (n c : Nat) (nf : Nat → Int) (hn : ∀ j, 0 ≤ nf j ∧ nf j < 256) (W H : Nat) (hW : (W : Int) = 2 + x0 % 5) (hH : (H : Int) = 2 + x1 % 5) (R : Nat) :
    callS (CL F (d + 1)) (.fn 31 [] []) [.agg [.int .u8 x0, .int .u8 x1, .int .u8 x2, .sl 1000 a n c]] [(1000, .ro a n c 1 fun j => [.int .u8 (nf j)])] (addL R (1000 + 100)) 0 fun w m' R' _ => (∃ w0 mf, QF i W H (x2 % 80) (mkN n nf) w0 mf ∧ den w = den w0 ∧ WkM m' mf) ∧ R ≤ R' := by
  have eW := mod_eq (b := 2) (k := 5) h0 (by omega) (by omega)
  have eH := mod_eq (b := 2) (k := 5) h1 (by omega) (by omega)
  rw [← hW] at eW
  rw [← hH] at eH
  have eO := mod_eq0 (k := 80) h2
  have hWb : W ≤ 6 := by omega
  have hHb : H ≤ 6 := by omega
  have hWH : W * H ≤ 6 * 6 := Nat.mul_le_mul hWb hHb
  have eWH : wr .i64 (Int.mul (W : Nat) (H : Nat)) = Int.ofNat (W * H) := wr_nat (i := W * H) (by omega)
  rw [show 1000 + 100 = (1000) + 100 from rfl, addL_eq, ← Nat.add_assoc, ← addL_eq _ 100]
  refine call_in (n := 59) Try.func31 rfl rfl rfl rfl rfl rfl rfl ?_
  repeat' ((conv => whnf); first
           | refine eqS_rfl ?_
           | refine eqA_rfl ?_
           | refine eqA_of (by assumption) ?_
           | refine eqS_of (by rfl) ?_
           | refine eqL_rfl ?_
           | refine eqJ_rfl ?_
           | refine flE_intro (fun _ _ => rfl) ?_
           | refine seS_rfl ?_
           | refine brS_tt ?_
           | refine brS_ff ?_
           | refine brS_not ?_
           | refine brS_t (iEq_self _) ?_
           | refine brS_t (by assumption) ?_
           | refine brS_f (by assumption) ?_
           | refine brS_intro (fun _ => ?_) (fun _ => ?_)
           | refine ltS_intro (by first | assumption | decide | exact Nat.le_of_ble_eq_true rfl | omega) ?_
           | refine ixS_of rfl (by first | assumption | decide | omega) ?_
           | refine okS_intro (by first | assumption | kernel_rfl) ?_
           | refine nzS_intro (by first | decide | assumption) ?_
           | intro _)
  rename_i bl b2 b3
  conv => whnf
  refine loS_i (fun jj f mm R' ni => ∃ (i : Nat) (a1 : Option Addr), i ≤ W * H ∧ jj = W * H - i + 1 ∧ f = [(1, .ptr 0 bl 0), (2, .ptr 1 b2 0), (3, .ptr 2 b3 0), (4, .int .i64 (Int.ofNat i))] ∧ mm = [(2, .own b3 24 [i64 W, i64 H, i64 (x2 % 80), .sl 600 a1 i i]), (1, .own b2 24 [i64 0, i64 0, i64 0, .val (.slice none 0 0)]), (0, .own bl 59 [.int .u8 x0, .int .u8 x1, .int .u8 x2, .sl 1000 a n c]), (600, .gr a1 i 3 1 (fun j => [i64 (mkN n nf j)])), (1000, .ro a n c 1 fun j => [.int .u8 (nf j)])] ∧ R' = addL (R + 20 * (W * H - i)) 20 ∧ ni = 100) (W * H + 1) (by omega)
    ⟨[(1, .ptr 0 bl 0), (2, .ptr 1 b2 0), (3, .ptr 2 b3 0), (4, .int .i64 (Int.ofNat 0))], [(2, .own b3 24 [i64 W, i64 H, i64 (x2 % 80), .sl 600 none 0 0]), (1, .own b2 24 [i64 0, i64 0, i64 0, .val (.slice none 0 0)]), (0, .own bl 59 [.int .u8 x0, .int .u8 x1, .int .u8 x2, .sl 1000 a n c]), (600, .gr none 0 3 1 (fun j => [i64 (mkN n nf j)])), (1000, .ro a n c 1 fun j => [.int .u8 (nf j)])], addL (R + 20 * (W * H - 0)) 20, 100, ⟨eqF_rfl _, eqF_rfl _, eqF_rfl _, eqF_rfl _, trivial⟩, ?_, by (first | exact Nat.le_refl _ | (simp only [addL_eq, addL_rec]; omega)), 0, none, by omega, by omega, rfl, rfl, rfl, rfl⟩ ?_
  · rw [eW, eH, eO]
    exact (WkM.gr0 (WkM.refl _)).trans (by refine Sel.wk ?_; (try simp only [List.cons_append, List.nil_append]); repeat' (first | exact Sel.nil | exact Sel.all | exact Sel.left | refine Sel.cons Pick.here ?_ | refine Sel.cons (Pick.there Pick.here) ?_ | refine Sel.cons (Pick.there (Pick.there Pick.here)) ?_ | refine Sel.cons (Pick.there (Pick.there (Pick.there Pick.here))) ?_ | refine Sel.cons (Pick.there (Pick.there (Pick.there (Pick.there Pick.here)))) ?_ | refine Sel.cons (Pick.there (Pick.there (Pick.there (Pick.there (Pick.there Pick.here))))) ?_ | refine Sel.cons (Pick.there (Pick.there (Pick.there (Pick.there (Pick.there (Pick.there Pick.here)))))) ?_ | refine Sel.cons (Pick.there (Pick.there (Pick.there (Pick.there (Pick.there (Pick.there (Pick.there Pick.here))))))) ?_ | refine Sel.cons (Pick.there (Pick.there (Pick.there (Pick.there (Pick.there (Pick.there (Pick.there (Pick.there Pick.here)))))))) ?_ | refine Sel.cons (Pick.there (Pick.there (Pick.there (Pick.there (Pick.there (Pick.there (Pick.there (Pick.there (Pick.there Pick.here))))))))) ?_ | refine Sel.cons (Pick.there (Pick.there (Pick.there (Pick.there (Pick.there (Pick.there (Pick.there (Pick.there (Pick.there (Pick.there Pick.here)))))))))) ?_ | refine Sel.cons (Pick.there (Pick.there (Pick.there (Pick.there (Pick.there (Pick.there (Pick.there (Pick.there (Pick.there (Pick.there (Pick.there Pick.here))))))))))) ?_ | refine Sel.consw Pick.here ⟨rfl, rfl, rfl⟩ ?_ | refine Sel.consw (Pick.there Pick.here) ⟨rfl, rfl, rfl⟩ ?_ | refine Sel.consw (Pick.there (Pick.there Pick.here)) ⟨rfl, rfl, rfl⟩ ?_ | refine Sel.consw (Pick.there (Pick.there (Pick.there Pick.here))) ⟨rfl, rfl, rfl⟩ ?_ | refine Sel.consw (Pick.there (Pick.there (Pick.there (Pick.there Pick.here)))) ⟨rfl, rfl, rfl⟩ ?_ | refine Sel.consw (Pick.there (Pick.there (Pick.there (Pick.there (Pick.there Pick.here))))) ⟨rfl, rfl, rfl⟩ ?_ | refine Sel.consw (Pick.there (Pick.there (Pick.there (Pick.there (Pick.there (Pick.there Pick.here)))))) ⟨rfl, rfl, rfl⟩ ?_ | refine Sel.consw (Pick.there (Pick.there (Pick.there (Pick.there (Pick.there (Pick.there (Pick.there Pick.here))))))) ⟨rfl, rfl, rfl⟩ ?_ | refine Sel.consw (Pick.there (Pick.there (Pick.there (Pick.there (Pick.there (Pick.there (Pick.there (Pick.there Pick.here)))))))) ⟨rfl, rfl, rfl⟩ ?_ | refine Sel.consw (Pick.there (Pick.there (Pick.there (Pick.there (Pick.there (Pick.there (Pick.there (Pick.there (Pick.there Pick.here))))))))) ⟨rfl, rfl, rfl⟩ ?_ | refine Sel.consw (Pick.there (Pick.there (Pick.there (Pick.there (Pick.there (Pick.there (Pick.there (Pick.there (Pick.there (Pick.there Pick.here)))))))))) ⟨rfl, rfl, rfl⟩ ?_ | refine Sel.consw (Pick.there (Pick.there (Pick.there (Pick.there (Pick.there (Pick.there (Pick.there (Pick.there (Pick.there (Pick.there (Pick.there Pick.here))))))))))) ⟨rfl, rfl, rfl⟩ ?_ | refine Sel.snoc Pick.here ?_ | refine Sel.snoc (Pick.there Pick.here) ?_ | refine Sel.snoc (Pick.there (Pick.there Pick.here)) ?_ | refine Sel.snoc (Pick.there (Pick.there (Pick.there Pick.here))) ?_ | refine Sel.snoc (Pick.there (Pick.there (Pick.there (Pick.there Pick.here)))) ?_ | refine Sel.snoc (Pick.there (Pick.there (Pick.there (Pick.there (Pick.there Pick.here))))) ?_ | refine Sel.snoc (Pick.there (Pick.there (Pick.there (Pick.there (Pick.there (Pick.there Pick.here)))))) ?_ | refine Sel.snoc (Pick.there (Pick.there (Pick.there (Pick.there (Pick.there (Pick.there (Pick.there Pick.here))))))) ?_ | refine Sel.snoc (Pick.there (Pick.there (Pick.there (Pick.there (Pick.there (Pick.there (Pick.there (Pick.there Pick.here)))))))) ?_ | refine Sel.snoc (Pick.there (Pick.there (Pick.there (Pick.there (Pick.there (Pick.there (Pick.there (Pick.there (Pick.there Pick.here))))))))) ?_ | refine Sel.snoc (Pick.there (Pick.there (Pick.there (Pick.there (Pick.there (Pick.there (Pick.there (Pick.there (Pick.there (Pick.there Pick.here)))))))))) ?_ | refine Sel.snoc (Pick.there (Pick.there (Pick.there (Pick.there (Pick.there (Pick.there (Pick.there (Pick.there (Pick.there (Pick.there (Pick.there Pick.here))))))))))) ?_ | refine Sel.drop ?_))
  rintro _ _ _ _ _ ⟨i, a1, hi, rfl, rfl, rfl, rfl, rfl⟩
  have dl : ∀ b, decide (i < W * H) = b → iLt (Int.ofNat i) (wr .i64 (Int.mul (W : Nat) (H : Nat))) = b := fun b hb => by rw [eWH, iLt_eq, ← hb]; refine decide_eq_decide.2 ?_; show (i : Int) < ((W * H : Nat) : Int) ↔ _; omega
  by_cases hil : i < W * H
  · have d1 := dl true (decide_eq_true hil)
    by_cases hin : i < n
    · have d2 : iLt (Int.ofNat i) (Int.ofNat n) = true := by rw [iLt_eq]; exact decide_eq_true (by show (i : Int) < n; omega)
      have hv := mkV_eq (hn i)
      have hg := grow1 (n := i) (f := fun j => [i64 (mkN n nf j)]) (v := .int .i64 (wr .i64 (Int.add (wr .i64 (Int.mul (Int.tmod (wr .i64 (nf i)) 4) 800)) (Int.tmod (wr .i64 (Int.tdiv (wr .i64 (nf i)) 4)) 20)))) (by rw [hv]; show [i64 (mkN n nf i)] = _; unfold mkN; rw [if_pos hin])
      repeat' ((conv => whnf); first
               | refine eqS_rfl ?_
               | refine eqA_rfl ?_
               | refine eqA_of (by assumption) ?_
               | refine eqS_of (by rfl) ?_
               | refine eqL_rfl ?_
               | refine eqJ_rfl ?_
               | refine flE_intro (fun _ _ => rfl) ?_
               | refine seS_rfl ?_
               | refine brS_tt ?_
               | refine brS_ff ?_
               | refine brS_not ?_
               | refine brS_t (iEq_self _) ?_
               | refine brS_t (by assumption) ?_
               | refine brS_f (by assumption) ?_
               | refine brS_intro (fun _ => ?_) (fun _ => ?_)
               | refine ltS_intro (by first | assumption | decide | exact Nat.le_of_ble_eq_true rfl | omega) ?_
               | refine ixS_of rfl (by first | assumption | decide | omega) ?_
               | refine okS_intro (by first | assumption | kernel_rfl) ?_
               | refine nzS_intro (by first | decide | assumption) ?_
               | refine ltS_intro (by have := lt_of_iLt ‹iLt (Int.ofNat _) (Int.ofNat _) = true›; omega) ?_
               | refine ixS_of rfl (by have := lt_of_iLt ‹iLt (Int.ofNat _) (Int.ofNat _) = true›; omega) ?_
               | refine ltS_intro (show i * 1 + 1 < 32769 by omega) ?_
               | intro _)
      conv => whnf
      exact ⟨W * H - (i + 1) + 1, [(1, .ptr 0 bl 0), (2, .ptr 1 b2 0), (3, .ptr 2 b3 0), (4, .int .i64 (Int.ofNat (i + 1)))], [(2, .own b3 24 [i64 W, i64 H, i64 (x2 % 80), .sl 600 _ (i + 1) (i + 1)]), (1, .own b2 24 [i64 0, i64 0, i64 0, .val (.slice none 0 0)]), (0, .own bl 59 [.int .u8 x0, .int .u8 x1, .int .u8 x2, .sl 1000 a n c]), (600, .gr _ (i + 1) 3 1 (fun j => [i64 (mkN n nf j)])), (1000, .ro a n c 1 fun j => [.int .u8 (nf j)])], addL (R + 20 * (W * H - (i + 1))) 20, 100, by omega, ⟨eqF_rfl _, eqF_rfl _, eqF_rfl _, ⟨congrArg (Value.int .i64) (wr_nat (i := i + 1) (by omega)), rfl⟩, trivial⟩, (by refine Sel.wk ?_; (try simp only [List.cons_append, List.nil_append]); repeat' (first | exact Sel.nil | exact Sel.all | exact Sel.left | refine Sel.cons Pick.here ?_ | refine Sel.cons (Pick.there Pick.here) ?_ | refine Sel.cons (Pick.there (Pick.there Pick.here)) ?_ | refine Sel.cons (Pick.there (Pick.there (Pick.there Pick.here))) ?_ | refine Sel.cons (Pick.there (Pick.there (Pick.there (Pick.there Pick.here)))) ?_ | refine Sel.cons (Pick.there (Pick.there (Pick.there (Pick.there (Pick.there Pick.here))))) ?_ | refine Sel.cons (Pick.there (Pick.there (Pick.there (Pick.there (Pick.there (Pick.there Pick.here)))))) ?_ | refine Sel.cons (Pick.there (Pick.there (Pick.there (Pick.there (Pick.there (Pick.there (Pick.there Pick.here))))))) ?_ | refine Sel.cons (Pick.there (Pick.there (Pick.there (Pick.there (Pick.there (Pick.there (Pick.there (Pick.there Pick.here)))))))) ?_ | refine Sel.cons (Pick.there (Pick.there (Pick.there (Pick.there (Pick.there (Pick.there (Pick.there (Pick.there (Pick.there Pick.here))))))))) ?_ | refine Sel.cons (Pick.there (Pick.there (Pick.there (Pick.there (Pick.there (Pick.there (Pick.there (Pick.there (Pick.there (Pick.there Pick.here)))))))))) ?_ | refine Sel.cons (Pick.there (Pick.there (Pick.there (Pick.there (Pick.there (Pick.there (Pick.there (Pick.there (Pick.there (Pick.there (Pick.there Pick.here))))))))))) ?_ | refine Sel.consw Pick.here ⟨rfl, rfl, rfl⟩ ?_ | refine Sel.consw (Pick.there Pick.here) ⟨rfl, rfl, rfl⟩ ?_ | refine Sel.consw (Pick.there (Pick.there Pick.here)) ⟨rfl, rfl, rfl⟩ ?_ | refine Sel.consw (Pick.there (Pick.there (Pick.there Pick.here))) ⟨rfl, rfl, rfl⟩ ?_ | refine Sel.consw (Pick.there (Pick.there (Pick.there (Pick.there Pick.here)))) ⟨rfl, rfl, rfl⟩ ?_ | refine Sel.consw (Pick.there (Pick.there (Pick.there (Pick.there (Pick.there Pick.here))))) ⟨rfl, rfl, rfl⟩ ?_ | refine Sel.consw (Pick.there (Pick.there (Pick.there (Pick.there (Pick.there (Pick.there Pick.here)))))) ⟨rfl, rfl, rfl⟩ ?_ | refine Sel.consw (Pick.there (Pick.there (Pick.there (Pick.there (Pick.there (Pick.there (Pick.there Pick.here))))))) ⟨rfl, rfl, rfl⟩ ?_ | refine Sel.consw (Pick.there (Pick.there (Pick.there (Pick.there (Pick.there (Pick.there (Pick.there (Pick.there Pick.here)))))))) ⟨rfl, rfl, rfl⟩ ?_ | refine Sel.consw (Pick.there (Pick.there (Pick.there (Pick.there (Pick.there (Pick.there (Pick.there (Pick.there (Pick.there Pick.here))))))))) ⟨rfl, rfl, rfl⟩ ?_ | refine Sel.consw (Pick.there (Pick.there (Pick.there (Pick.there (Pick.there (Pick.there (Pick.there (Pick.there (Pick.there (Pick.there Pick.here)))))))))) ⟨rfl, rfl, rfl⟩ ?_ | refine Sel.consw (Pick.there (Pick.there (Pick.there (Pick.there (Pick.there (Pick.there (Pick.there (Pick.there (Pick.there (Pick.there (Pick.there Pick.here))))))))))) ⟨rfl, rfl, rfl⟩ ?_ | refine Sel.consw Pick.here ⟨rfl, rfl, rfl, rfl, by assumption⟩ ?_ | refine Sel.consw (Pick.there Pick.here) ⟨rfl, rfl, rfl, rfl, by assumption⟩ ?_ | refine Sel.consw (Pick.there (Pick.there Pick.here)) ⟨rfl, rfl, rfl, rfl, by assumption⟩ ?_ | refine Sel.consw (Pick.there (Pick.there (Pick.there Pick.here))) ⟨rfl, rfl, rfl, rfl, by assumption⟩ ?_ | refine Sel.consw (Pick.there (Pick.there (Pick.there (Pick.there Pick.here)))) ⟨rfl, rfl, rfl, rfl, by assumption⟩ ?_ | refine Sel.consw (Pick.there (Pick.there (Pick.there (Pick.there (Pick.there Pick.here))))) ⟨rfl, rfl, rfl, rfl, by assumption⟩ ?_ | refine Sel.consw (Pick.there (Pick.there (Pick.there (Pick.there (Pick.there (Pick.there Pick.here)))))) ⟨rfl, rfl, rfl, rfl, by assumption⟩ ?_ | refine Sel.consw (Pick.there (Pick.there (Pick.there (Pick.there (Pick.there (Pick.there (Pick.there Pick.here))))))) ⟨rfl, rfl, rfl, rfl, by assumption⟩ ?_ | refine Sel.consw (Pick.there (Pick.there (Pick.there (Pick.there (Pick.there (Pick.there (Pick.there (Pick.there Pick.here)))))))) ⟨rfl, rfl, rfl, rfl, by assumption⟩ ?_ | refine Sel.consw (Pick.there (Pick.there (Pick.there (Pick.there (Pick.there (Pick.there (Pick.there (Pick.there (Pick.there Pick.here))))))))) ⟨rfl, rfl, rfl, rfl, by assumption⟩ ?_ | refine Sel.consw (Pick.there (Pick.there (Pick.there (Pick.there (Pick.there (Pick.there (Pick.there (Pick.there (Pick.there (Pick.there Pick.here)))))))))) ⟨rfl, rfl, rfl, rfl, by assumption⟩ ?_ | refine Sel.consw (Pick.there (Pick.there (Pick.there (Pick.there (Pick.there (Pick.there (Pick.there (Pick.there (Pick.there (Pick.there (Pick.there Pick.here))))))))))) ⟨rfl, rfl, rfl, rfl, by assumption⟩ ?_ | refine Sel.snoc Pick.here ?_ | refine Sel.snoc (Pick.there Pick.here) ?_ | refine Sel.snoc (Pick.there (Pick.there Pick.here)) ?_ | refine Sel.snoc (Pick.there (Pick.there (Pick.there Pick.here))) ?_ | refine Sel.snoc (Pick.there (Pick.there (Pick.there (Pick.there Pick.here)))) ?_ | refine Sel.snoc (Pick.there (Pick.there (Pick.there (Pick.there (Pick.there Pick.here))))) ?_ | refine Sel.snoc (Pick.there (Pick.there (Pick.there (Pick.there (Pick.there (Pick.there Pick.here)))))) ?_ | refine Sel.snoc (Pick.there (Pick.there (Pick.there (Pick.there (Pick.there (Pick.there (Pick.there Pick.here))))))) ?_ | refine Sel.snoc (Pick.there (Pick.there (Pick.there (Pick.there (Pick.there (Pick.there (Pick.there (Pick.there Pick.here)))))))) ?_ | refine Sel.snoc (Pick.there (Pick.there (Pick.there (Pick.there (Pick.there (Pick.there (Pick.there (Pick.there (Pick.there Pick.here))))))))) ?_ | refine Sel.snoc (Pick.there (Pick.there (Pick.there (Pick.there (Pick.there (Pick.there (Pick.there (Pick.there (Pick.there (Pick.there Pick.here)))))))))) ?_ | refine Sel.snoc (Pick.there (Pick.there (Pick.there (Pick.there (Pick.there (Pick.there (Pick.there (Pick.there (Pick.there (Pick.there (Pick.there Pick.here))))))))))) ?_ | refine Sel.drop ?_)), by (first | exact Nat.le_refl _ | (simp only [addL_eq, addL_rec]; omega)), i + 1, _, by omega, rfl, rfl, rfl, rfl, rfl⟩
    · have d2 : iLt (Int.ofNat i) (Int.ofNat n) = false := by rw [iLt_eq]; exact decide_eq_false (by show ¬ (i : Int) < n; omega)
      have hg := grow1 (n := i) (f := fun j => [i64 (mkN n nf j)]) (v := .int .i64 0) (by show [i64 (mkN n nf i)] = _; unfold mkN; rw [if_neg hin])
      repeat' ((conv => whnf); first
               | refine eqS_rfl ?_
               | refine eqA_rfl ?_
               | refine eqA_of (by assumption) ?_
               | refine eqS_of (by rfl) ?_
               | refine eqL_rfl ?_
               | refine eqJ_rfl ?_
               | refine flE_intro (fun _ _ => rfl) ?_
               | refine seS_rfl ?_
               | refine brS_tt ?_
               | refine brS_ff ?_
               | refine brS_not ?_
               | refine brS_t (iEq_self _) ?_
               | refine brS_t (by assumption) ?_
               | refine brS_f (by assumption) ?_
               | refine brS_intro (fun _ => ?_) (fun _ => ?_)
               | refine ltS_intro (by first | assumption | decide | exact Nat.le_of_ble_eq_true rfl | omega) ?_
               | refine ixS_of rfl (by first | assumption | decide | omega) ?_
               | refine okS_intro (by first | assumption | kernel_rfl) ?_
               | refine nzS_intro (by first | decide | assumption) ?_
               | refine ltS_intro (by have := lt_of_iLt ‹iLt (Int.ofNat _) (Int.ofNat _) = true›; omega) ?_
               | refine ixS_of rfl (by have := lt_of_iLt ‹iLt (Int.ofNat _) (Int.ofNat _) = true›; omega) ?_
               | refine ltS_intro (show i * 1 + 1 < 32769 by omega) ?_
               | intro _)
      conv => whnf
      exact ⟨W * H - (i + 1) + 1, [(1, .ptr 0 bl 0), (2, .ptr 1 b2 0), (3, .ptr 2 b3 0), (4, .int .i64 (Int.ofNat (i + 1)))], [(2, .own b3 24 [i64 W, i64 H, i64 (x2 % 80), .sl 600 _ (i + 1) (i + 1)]), (1, .own b2 24 [i64 0, i64 0, i64 0, .val (.slice none 0 0)]), (0, .own bl 59 [.int .u8 x0, .int .u8 x1, .int .u8 x2, .sl 1000 a n c]), (600, .gr _ (i + 1) 3 1 (fun j => [i64 (mkN n nf j)])), (1000, .ro a n c 1 fun j => [.int .u8 (nf j)])], addL (R + 20 * (W * H - (i + 1))) 20, 100, by omega, ⟨eqF_rfl _, eqF_rfl _, eqF_rfl _, ⟨congrArg (Value.int .i64) (wr_nat (i := i + 1) (by omega)), rfl⟩, trivial⟩, (by refine Sel.wk ?_; (try simp only [List.cons_append, List.nil_append]); repeat' (first | exact Sel.nil | exact Sel.all | exact Sel.left | refine Sel.cons Pick.here ?_ | refine Sel.cons (Pick.there Pick.here) ?_ | refine Sel.cons (Pick.there (Pick.there Pick.here)) ?_ | refine Sel.cons (Pick.there (Pick.there (Pick.there Pick.here))) ?_ | refine Sel.cons (Pick.there (Pick.there (Pick.there (Pick.there Pick.here)))) ?_ | refine Sel.cons (Pick.there (Pick.there (Pick.there (Pick.there (Pick.there Pick.here))))) ?_ | refine Sel.cons (Pick.there (Pick.there (Pick.there (Pick.there (Pick.there (Pick.there Pick.here)))))) ?_ | refine Sel.cons (Pick.there (Pick.there (Pick.there (Pick.there (Pick.there (Pick.there (Pick.there Pick.here))))))) ?_ | refine Sel.cons (Pick.there (Pick.there (Pick.there (Pick.there (Pick.there (Pick.there (Pick.there (Pick.there Pick.here)))))))) ?_ | refine Sel.cons (Pick.there (Pick.there (Pick.there (Pick.there (Pick.there (Pick.there (Pick.there (Pick.there (Pick.there Pick.here))))))))) ?_ | refine Sel.cons (Pick.there (Pick.there (Pick.there (Pick.there (Pick.there (Pick.there (Pick.there (Pick.there (Pick.there (Pick.there Pick.here)))))))))) ?_ | refine Sel.cons (Pick.there (Pick.there (Pick.there (Pick.there (Pick.there (Pick.there (Pick.there (Pick.there (Pick.there (Pick.there (Pick.there Pick.here))))))))))) ?_ | refine Sel.consw Pick.here ⟨rfl, rfl, rfl⟩ ?_ | refine Sel.consw (Pick.there Pick.here) ⟨rfl, rfl, rfl⟩ ?_ | refine Sel.consw (Pick.there (Pick.there Pick.here)) ⟨rfl, rfl, rfl⟩ ?_ | refine Sel.consw (Pick.there (Pick.there (Pick.there Pick.here))) ⟨rfl, rfl, rfl⟩ ?_ | refine Sel.consw (Pick.there (Pick.there (Pick.there (Pick.there Pick.here)))) ⟨rfl, rfl, rfl⟩ ?_ | refine Sel.consw (Pick.there (Pick.there (Pick.there (Pick.there (Pick.there Pick.here))))) ⟨rfl, rfl, rfl⟩ ?_ | refine Sel.consw (Pick.there (Pick.there (Pick.there (Pick.there (Pick.there (Pick.there Pick.here)))))) ⟨rfl, rfl, rfl⟩ ?_ | refine Sel.consw (Pick.there (Pick.there (Pick.there (Pick.there (Pick.there (Pick.there (Pick.there Pick.here))))))) ⟨rfl, rfl, rfl⟩ ?_ | refine Sel.consw (Pick.there (Pick.there (Pick.there (Pick.there (Pick.there (Pick.there (Pick.there (Pick.there Pick.here)))))))) ⟨rfl, rfl, rfl⟩ ?_ | refine Sel.consw (Pick.there (Pick.there (Pick.there (Pick.there (Pick.there (Pick.there (Pick.there (Pick.there (Pick.there Pick.here))))))))) ⟨rfl, rfl, rfl⟩ ?_ | refine Sel.consw (Pick.there (Pick.there (Pick.there (Pick.there (Pick.there (Pick.there (Pick.there (Pick.there (Pick.there (Pick.there Pick.here)))))))))) ⟨rfl, rfl, rfl⟩ ?_ | refine Sel.consw (Pick.there (Pick.there (Pick.there (Pick.there (Pick.there (Pick.there (Pick.there (Pick.there (Pick.there (Pick.there (Pick.there Pick.here))))))))))) ⟨rfl, rfl, rfl⟩ ?_ | refine Sel.consw Pick.here ⟨rfl, rfl, rfl, rfl, by assumption⟩ ?_ | refine Sel.consw (Pick.there Pick.here) ⟨rfl, rfl, rfl, rfl, by assumption⟩ ?_ | refine Sel.consw (Pick.there (Pick.there Pick.here)) ⟨rfl, rfl, rfl, rfl, by assumption⟩ ?_ | refine Sel.consw (Pick.there (Pick.there (Pick.there Pick.here))) ⟨rfl, rfl, rfl, rfl, by assumption⟩ ?_ | refine Sel.consw (Pick.there (Pick.there (Pick.there (Pick.there Pick.here)))) ⟨rfl, rfl, rfl, rfl, by assumption⟩ ?_ | refine Sel.consw (Pick.there (Pick.there (Pick.there (Pick.there (Pick.there Pick.here))))) ⟨rfl, rfl, rfl, rfl, by assumption⟩ ?_ | refine Sel.consw (Pick.there (Pick.there (Pick.there (Pick.there (Pick.there (Pick.there Pick.here)))))) ⟨rfl, rfl, rfl, rfl, by assumption⟩ ?_ | refine Sel.consw (Pick.there (Pick.there (Pick.there (Pick.there (Pick.there (Pick.there (Pick.there Pick.here))))))) ⟨rfl, rfl, rfl, rfl, by assumption⟩ ?_ | refine Sel.consw (Pick.there (Pick.there (Pick.there (Pick.there (Pick.there (Pick.there (Pick.there (Pick.there Pick.here)))))))) ⟨rfl, rfl, rfl, rfl, by assumption⟩ ?_ | refine Sel.consw (Pick.there (Pick.there (Pick.there (Pick.there (Pick.there (Pick.there (Pick.there (Pick.there (Pick.there Pick.here))))))))) ⟨rfl, rfl, rfl, rfl, by assumption⟩ ?_ | refine Sel.consw (Pick.there (Pick.there (Pick.there (Pick.there (Pick.there (Pick.there (Pick.there (Pick.there (Pick.there (Pick.there Pick.here)))))))))) ⟨rfl, rfl, rfl, rfl, by assumption⟩ ?_ | refine Sel.consw (Pick.there (Pick.there (Pick.there (Pick.there (Pick.there (Pick.there (Pick.there (Pick.there (Pick.there (Pick.there (Pick.there Pick.here))))))))))) ⟨rfl, rfl, rfl, rfl, by assumption⟩ ?_ | refine Sel.snoc Pick.here ?_ | refine Sel.snoc (Pick.there Pick.here) ?_ | refine Sel.snoc (Pick.there (Pick.there Pick.here)) ?_ | refine Sel.snoc (Pick.there (Pick.there (Pick.there Pick.here))) ?_ | refine Sel.snoc (Pick.there (Pick.there (Pick.there (Pick.there Pick.here)))) ?_ | refine Sel.snoc (Pick.there (Pick.there (Pick.there (Pick.there (Pick.there Pick.here))))) ?_ | refine Sel.snoc (Pick.there (Pick.there (Pick.there (Pick.there (Pick.there (Pick.there Pick.here)))))) ?_ | refine Sel.snoc (Pick.there (Pick.there (Pick.there (Pick.there (Pick.there (Pick.there (Pick.there Pick.here))))))) ?_ | refine Sel.snoc (Pick.there (Pick.there (Pick.there (Pick.there (Pick.there (Pick.there (Pick.there (Pick.there Pick.here)))))))) ?_ | refine Sel.snoc (Pick.there (Pick.there (Pick.there (Pick.there (Pick.there (Pick.there (Pick.there (Pick.there (Pick.there Pick.here))))))))) ?_ | refine Sel.snoc (Pick.there (Pick.there (Pick.there (Pick.there (Pick.there (Pick.there (Pick.there (Pick.there (Pick.there (Pick.there Pick.here)))))))))) ?_ | refine Sel.snoc (Pick.there (Pick.there (Pick.there (Pick.there (Pick.there (Pick.there (Pick.there (Pick.there (Pick.there (Pick.there (Pick.there Pick.here))))))))))) ?_ | refine Sel.drop ?_)), by (first | exact Nat.le_refl _ | (simp only [addL_eq, addL_rec]; omega)), i + 1, _, by omega, rfl, rfl, rfl, rfl, rfl⟩
  · have d1 := dl false (decide_eq_false hil)
    have e : i = W * H := by omega
    subst e
    repeat' ((conv => whnf); first
             | refine eqS_rfl ?_
             | refine eqA_rfl ?_
             | refine eqA_of (by assumption) ?_
             | refine eqS_of (by rfl) ?_
             | refine eqL_rfl ?_
             | refine eqJ_rfl ?_
             | refine flE_intro (fun _ _ => rfl) ?_
             | refine seS_rfl ?_
             | refine brS_tt ?_
             | refine brS_ff ?_
             | refine brS_not ?_
             | refine brS_t (iEq_self _) ?_
             | refine brS_t (by assumption) ?_
             | refine brS_f (by assumption) ?_
             | refine brS_intro (fun _ => ?_) (fun _ => ?_)
             | refine ltS_intro (by first | assumption | decide | exact Nat.le_of_ble_eq_true rfl | omega) ?_
             | refine ixS_of rfl (by first | assumption | decide | omega) ?_
             | refine okS_intro (by first | assumption | kernel_rfl) ?_
             | refine nzS_intro (by first | decide | assumption) ?_
             | intro _)
    conv => whnf
    exact ⟨⟨_, _, ⟨a1, rfl, rfl⟩, rfl, (by refine Sel.wk ?_; (try simp only [List.cons_append, List.nil_append]); repeat' (first | exact Sel.nil | exact Sel.all | exact Sel.left | refine Sel.cons Pick.here ?_ | refine Sel.cons (Pick.there Pick.here) ?_ | refine Sel.cons (Pick.there (Pick.there Pick.here)) ?_ | refine Sel.cons (Pick.there (Pick.there (Pick.there Pick.here))) ?_ | refine Sel.cons (Pick.there (Pick.there (Pick.there (Pick.there Pick.here)))) ?_ | refine Sel.cons (Pick.there (Pick.there (Pick.there (Pick.there (Pick.there Pick.here))))) ?_ | refine Sel.cons (Pick.there (Pick.there (Pick.there (Pick.there (Pick.there (Pick.there Pick.here)))))) ?_ | refine Sel.cons (Pick.there (Pick.there (Pick.there (Pick.there (Pick.there (Pick.there (Pick.there Pick.here))))))) ?_ | refine Sel.cons (Pick.there (Pick.there (Pick.there (Pick.there (Pick.there (Pick.there (Pick.there (Pick.there Pick.here)))))))) ?_ | refine Sel.cons (Pick.there (Pick.there (Pick.there (Pick.there (Pick.there (Pick.there (Pick.there (Pick.there (Pick.there Pick.here))))))))) ?_ | refine Sel.cons (Pick.there (Pick.there (Pick.there (Pick.there (Pick.there (Pick.there (Pick.there (Pick.there (Pick.there (Pick.there Pick.here)))))))))) ?_ | refine Sel.cons (Pick.there (Pick.there (Pick.there (Pick.there (Pick.there (Pick.there (Pick.there (Pick.there (Pick.there (Pick.there (Pick.there Pick.here))))))))))) ?_ | refine Sel.consw Pick.here ⟨rfl, rfl, rfl⟩ ?_ | refine Sel.consw (Pick.there Pick.here) ⟨rfl, rfl, rfl⟩ ?_ | refine Sel.consw (Pick.there (Pick.there Pick.here)) ⟨rfl, rfl, rfl⟩ ?_ | refine Sel.consw (Pick.there (Pick.there (Pick.there Pick.here))) ⟨rfl, rfl, rfl⟩ ?_ | refine Sel.consw (Pick.there (Pick.there (Pick.there (Pick.there Pick.here)))) ⟨rfl, rfl, rfl⟩ ?_ | refine Sel.consw (Pick.there (Pick.there (Pick.there (Pick.there (Pick.there Pick.here))))) ⟨rfl, rfl, rfl⟩ ?_ | refine Sel.consw (Pick.there (Pick.there (Pick.there (Pick.there (Pick.there (Pick.there Pick.here)))))) ⟨rfl, rfl, rfl⟩ ?_ | refine Sel.consw (Pick.there (Pick.there (Pick.there (Pick.there (Pick.there (Pick.there (Pick.there Pick.here))))))) ⟨rfl, rfl, rfl⟩ ?_ | refine Sel.consw (Pick.there (Pick.there (Pick.there (Pick.there (Pick.there (Pick.there (Pick.there (Pick.there Pick.here)))))))) ⟨rfl, rfl, rfl⟩ ?_ | refine Sel.consw (Pick.there (Pick.there (Pick.there (Pick.there (Pick.there (Pick.there (Pick.there (Pick.there (Pick.there Pick.here))))))))) ⟨rfl, rfl, rfl⟩ ?_ | refine Sel.consw (Pick.there (Pick.there (Pick.there (Pick.there (Pick.there (Pick.there (Pick.there (Pick.there (Pick.there (Pick.there Pick.here)))))))))) ⟨rfl, rfl, rfl⟩ ?_ | refine Sel.consw (Pick.there (Pick.there (Pick.there (Pick.there (Pick.there (Pick.there (Pick.there (Pick.there (Pick.there (Pick.there (Pick.there Pick.here))))))))))) ⟨rfl, rfl, rfl⟩ ?_ | refine Sel.snoc Pick.here ?_ | refine Sel.snoc (Pick.there Pick.here) ?_ | refine Sel.snoc (Pick.there (Pick.there Pick.here)) ?_ | refine Sel.snoc (Pick.there (Pick.there (Pick.there Pick.here))) ?_ | refine Sel.snoc (Pick.there (Pick.there (Pick.there (Pick.there Pick.here)))) ?_ | refine Sel.snoc (Pick.there (Pick.there (Pick.there (Pick.there (Pick.there Pick.here))))) ?_ | refine Sel.snoc (Pick.there (Pick.there (Pick.there (Pick.there (Pick.there (Pick.there Pick.here)))))) ?_ | refine Sel.snoc (Pick.there (Pick.there (Pick.there (Pick.there (Pick.there (Pick.there (Pick.there Pick.here))))))) ?_ | refine Sel.snoc (Pick.there (Pick.there (Pick.there (Pick.there (Pick.there (Pick.there (Pick.there (Pick.there Pick.here)))))))) ?_ | refine Sel.snoc (Pick.there (Pick.there (Pick.there (Pick.there (Pick.there (Pick.there (Pick.there (Pick.there (Pick.there Pick.here))))))))) ?_ | refine Sel.snoc (Pick.there (Pick.there (Pick.there (Pick.there (Pick.there (Pick.there (Pick.there (Pick.there (Pick.there (Pick.there Pick.here)))))))))) ?_ | refine Sel.snoc (Pick.there (Pick.there (Pick.there (Pick.there (Pick.there (Pick.there (Pick.there (Pick.there (Pick.there (Pick.there (Pick.there Pick.here))))))))))) ?_ | refine Sel.drop ?_))⟩, by (first | exact Nat.le_refl _ | (simp only [addL_eq, addL_rec]; omega))⟩
end Go.Proofs.Ytbpdmbgkoijfbaa
namespace Go.Proofs.Ytbpdmbgkoijfbaa
open Go.Ab
attribute [local irreducible] aggOk drwOK
set_option maxRecDepth 100000
set_option maxHeartbeats 4000000
set_option linter.unusedVariables false
set_option linter.unusedSimpArgs false
theorem c34 (F d : Nat) (x y w h : Int) : PureC (CL F (d + 1)) 34 [i64 x, i64 y, i64 w, i64 h] 3 (bl x y w h) := by
  intro m R
  refine call_in (n := 14) Try.func34 rfl rfl rfl rfl rfl rfl rfl ?_
  repeat' ((conv => whnf); first
           | refine eqS_rfl ?_
           | refine eqA_rfl ?_
           | refine eqA_of (by assumption) ?_
           | refine eqS_of (by rfl) ?_
           | refine eqL_rfl ?_
           | refine eqJ_rfl ?_
           | refine flE_intro (fun _ _ => rfl) ?_
           | refine seS_rfl ?_
           | refine brS_tt ?_
           | refine brS_ff ?_
           | refine brS_not ?_
           | refine brS_t (iEq_self _) ?_
           | refine brS_t (by assumption) ?_
           | refine brS_f (by assumption) ?_
           | refine brS_intro (fun _ => ?_) (fun _ => ?_)
           | refine ltS_intro (by first | assumption | decide | exact Nat.le_of_ble_eq_true rfl | omega) ?_
           | refine ixS_of rfl (by first | assumption | decide | omega) ?_
           | refine okS_intro (by first | assumption | kernel_rfl) ?_
           | refine nzS_intro (by first | decide | assumption) ?_
           | intro _)
  all_goals (conv => whnf)
  all_goals refine ⟨?_, by repeat' (first | exact WkM.refl _ | refine WkM.drop ?_), by repeat' (first | exact Nat.le_refl _ | refine Nat.le_succ_of_le ?_)⟩
  all_goals (rfl)

theorem cg4 {f : Int → Int → Int → Int → Value} {a b c e x y z w : Int} (h1 : a = x) (h2 : b = y) (h3 : c = z) (h4 : e = w) : f a b c e = f x y z w := by rw [h1, h2, h3, h4]
/-- a block by numbers -/
theorem c32 (F d : Nat) (W H : Nat) (y0 y1 y2 y3 : Int) (h0 : 0 ≤ y0 ∧ y0 < 256) (h1 : 0 ≤ y1 ∧ y1 < 256) (h2 : 0 ≤ y2 ∧ y2 < 256) (h3 : 0 ≤ y3 ∧ y3 < 256) (hW : 2 ≤ W ∧ W ≤ 9) (hH : 2 ≤ H ∧ H ≤ 9) :
    ∃ x y w h : Nat, x + w < W ∧ y + h < H ∧ 1 ≤ w ∧ 1 ≤ h ∧ ∀ (o : Int) (a : Option Addr) (n c : Nat), PureC (CL F (d + 2)) 32 [fld W H o a n c, .agg [.int .u8 y0, .int .u8 y1, .int .u8 y2, .int .u8 y3]] 80 (bl x y w h) := by
  have eA : wr .i64 (Int.sub (W : Nat) 1) = (W : Int) - 1 := sm (n := (W : Int) - 1) (by omega)
  have eB : wr .i64 (Int.sub (H : Nat) 1) = (H : Int) - 1 := sm (n := (H : Int) - 1) (by omega)
  have hA : wr .i64 (Int.sub (W : Nat) 1) ≠ 0 := by rw [eA]; omega
  have hB : wr .i64 (Int.sub (H : Nat) 1) ≠ 0 := by rw [eB]; omega
  have g1 := Int.emod_nonneg y0 (show (W : Int) - 1 ≠ 0 by omega)
  have g2 := Int.emod_lt_of_pos y0 (show 0 < (W : Int) - 1 by omega)
  have g3 := Int.emod_nonneg y1 (show (H : Int) - 1 ≠ 0 by omega)
  have g4 := Int.emod_lt_of_pos y1 (show 0 < (H : Int) - 1 by omega)
  obtain ⟨x, hx⟩ := Int.eq_ofNat_of_zero_le g1
  obtain ⟨y, hy⟩ := Int.eq_ofNat_of_zero_le g3
  rw [hx] at g2
  rw [hy] at g4
  have ex : Int.tmod (wr .i64 y0) (wr .i64 (Int.sub (W : Nat) 1)) = (x : Int) := by rw [eA, mod_eq0 h0, hx]
  have ey : Int.tmod (wr .i64 y1) (wr .i64 (Int.sub (H : Nat) 1)) = (y : Int) := by rw [eB, mod_eq0 h1, hy]
  have eC : wr .i64 (Int.sub (wr .i64 (Int.sub (W : Nat) 1)) (Int.tmod (wr .i64 y0) (wr .i64 (Int.sub (W : Nat) 1)))) = (W : Int) - 1 - x := by rw [ex, eA]; exact sm (n := (W : Int) - 1 - x) (by omega)
  have eD : wr .i64 (Int.sub (wr .i64 (Int.sub (H : Nat) 1)) (Int.tmod (wr .i64 y1) (wr .i64 (Int.sub (H : Nat) 1)))) = (H : Int) - 1 - y := by rw [ey, eB]; exact sm (n := (H : Int) - 1 - y) (by omega)
  have hC : wr .i64 (Int.sub (wr .i64 (Int.sub (W : Nat) 1)) (Int.tmod (wr .i64 y0) (wr .i64 (Int.sub (W : Nat) 1)))) ≠ 0 := by rw [eC]; omega
  have hD : wr .i64 (Int.sub (wr .i64 (Int.sub (H : Nat) 1)) (Int.tmod (wr .i64 y1) (wr .i64 (Int.sub (H : Nat) 1)))) ≠ 0 := by rw [eD]; omega
  have g5 := Int.emod_nonneg y2 (show (W : Int) - 1 - x ≠ 0 by omega)
  have g6 := Int.emod_lt_of_pos y2 (show 0 < (W : Int) - 1 - x by omega)
  have g7 := Int.emod_nonneg y3 (show (H : Int) - 1 - y ≠ 0 by omega)
  have g8 := Int.emod_lt_of_pos y3 (show 0 < (H : Int) - 1 - y by omega)
  obtain ⟨w, hw⟩ := Int.eq_ofNat_of_zero_le (show 0 ≤ 1 + y2 % ((W : Int) - 1 - x) by omega)
  obtain ⟨h, hh⟩ := Int.eq_ofNat_of_zero_le (show 0 ≤ 1 + y3 % ((H : Int) - 1 - y) by omega)
  have ew : wr .i64 (Int.add 1 (Int.tmod (wr .i64 y2) (wr .i64 (Int.sub (wr .i64 (Int.sub (W : Nat) 1)) (Int.tmod (wr .i64 y0) (wr .i64 (Int.sub (W : Nat) 1))))))) = (w : Int) := by rw [eC, mod_eq h2 (by omega) (by omega), hw]
  have eh : wr .i64 (Int.add 1 (Int.tmod (wr .i64 y3) (wr .i64 (Int.sub (wr .i64 (Int.sub (H : Nat) 1)) (Int.tmod (wr .i64 y1) (wr .i64 (Int.sub (H : Nat) 1))))))) = (h : Int) := by rw [eD, mod_eq h3 (by omega) (by omega), hh]
  refine ⟨x, y, w, h, by omega, by omega, by omega, by omega, fun o a n c => ?_⟩
  intro m R
  refine call_in (n := 44) Try.func32 rfl rfl rfl rfl rfl rfl rfl ?_
  repeat' ((conv => whnf); first
           | refine eqS_rfl ?_
           | refine eqA_rfl ?_
           | refine eqA_of (by assumption) ?_
           | refine eqS_of (by rfl) ?_
           | refine eqL_rfl ?_
           | refine eqJ_rfl ?_
           | refine flE_intro (fun _ _ => rfl) ?_
           | refine seS_rfl ?_
           | refine brS_tt ?_
           | refine brS_ff ?_
           | refine brS_not ?_
           | refine brS_t (iEq_self _) ?_
           | refine brS_t (by assumption) ?_
           | refine brS_f (by assumption) ?_
           | refine brS_intro (fun _ => ?_) (fun _ => ?_)
           | refine ltS_intro (by first | assumption | decide | exact Nat.le_of_ble_eq_true rfl | omega) ?_
           | refine ixS_of rfl (by first | assumption | decide | omega) ?_
           | refine okS_intro (by first | assumption | kernel_rfl) ?_
           | refine nzS_intro (by first | decide | assumption) ?_
           | refine call_pure (c34 F _ _ _ _ _) ?_
           | intro _)
  all_goals (conv => whnf)
  all_goals refine ⟨?_, by repeat' (first | exact WkM.refl _ | refine WkM.drop ?_), by repeat' (first | exact Nat.le_refl _ | refine Nat.le_succ_of_le ?_)⟩
  all_goals (exact cg4 (f := fun a b c e => den (bl a b c e)) ex ey ew eh)

/-- lands are certain -/
theorem land_T {a b : Int} (ha : ∃ i j : Int, a = i * 800 + j ∧ 0 ≤ i ∧ i < 4 ∧ 0 ≤ j ∧ j < 20) (hb : ∃ i j : Int, b = i * 800 + j ∧ 0 ≤ i ∧ i < 4 ∧ 0 ≤ j ∧ j < 20) : -1620 < T a b ∧ T a b < 1620 := by
  obtain ⟨i, j, rfl, _, _, _, _⟩ := ha
  obtain ⟨k, l, rfl, _, _, _, _⟩ := hb
  unfold T
  have e1 : i = 0 ∨ i = 1 ∨ i = 2 ∨ i = 3 := by omega
  have e2 : k = 0 ∨ k = 1 ∨ k = 2 ∨ k = 3 := by omega
  rcases e1 with rfl | rfl | rfl | rfl <;> rcases e2 with rfl | rfl | rfl | rfl <;> omega
theorem mkN_is (n : Nat) (nf : Nat → Int) (j : Nat) : ∃ i k : Int, mkN n nf j = i * 800 + k ∧ 0 ≤ i ∧ i < 4 ∧ 0 ≤ k ∧ k < 20 := by
  unfold mkN mkV
  split
  · exact ⟨nf j % 4, nf j / 4 % 20, rfl, by omega, by omega, by omega, by omega⟩
  · exact ⟨0, 0, rfl, by omega, by omega, by omega, by omega⟩
theorem mkN_dir (n : Nat) (nf : Nat → Int) (j : Nat) : Dir (mkN n nf j) := by
  obtain ⟨i, k, e, _⟩ := mkN_is n nf j
  rw [e]; omega
/-- a field, told apart: both Checks find nothing -/
theorem chk_ok (F d : Nat) (hF : 100 < F) (W H : Nat) (o : Int) (a : Option Addr) (c : Nat) (nf : Nat → Int) (hD : ∀ j, Dir (nf j)) (hW : 2 ≤ W ∧ W ≤ 9) (hH : 2 ≤ H ∧ H ≤ 9) (ho : 0 ≤ o ∧ o ≤ 400) (hC : Cert (grid nf W) o W H) : ReadC (CL F (d + 8)) 17 [fld W H o a (W * H) c] [(1000, roN a (W * H) c nf)] (66000 + 100) (i64 0) := by
  have h1 : chkN W H o (W * H) (fun j => if j < W * H then nf j else 0) = 0 := by
    have hd : dirB (W * H) (fun j => if j < W * H then nf j else 0) = true := all_t fun k hk => by
      show decide (0 ≤ (if k < W * H then nf k else 0) ∧ (if k < W * H then nf k else 0) ≤ 3599) = true
      rw [if_pos hk]; have := hD k; exact decide_eq_true (by omega)
    have hc : certB (grid (fun j => if j < W * H then nf j else 0) W) o (W - 1) (H - 1) = true := (certB_iff hW.1 hH.1).2 (by
      have e : ∀ x y, x < W → y < H → grid (fun j => if j < W * H then nf j else 0) W x y = grid nf W x y := fun x y hx hy => if_pos (idx_lt hx hy)
      refine ⟨fun x y hx hy => ?_, fun x y hx hy => ?_⟩
      · rw [e x y (by omega) hy, e (x + 1) y hx hy]; exact hC.1 x y hx hy
      · rw [e x y hx (by omega), e x (y + 1) hx hy]; exact hC.2 x y hx hy)
    unfold chkN; rw [hd, hc]; rfl
  have h2 := c17_n F d hF W H o a (W * H) c (fun j => if j < W * H then nf j else 0) (fun j hj => if_neg (by omega)) hW hH ho rfl
  rw [h1] at h2
  intro R
  refine callS.wk ?_ (h2 R)
  exact WkL.wk (WkM.keep ⟨rfl, rfl, rfl, fun j hj => by show [i64 (nf j)] = [i64 (if j < W * H then nf j else 0)]; rw [if_pos hj]⟩ (WkL.refl []))
theorem land_cert (n : Nat) (nf : Nat → Int) (W H : Nat) (o : Int) (ho : 0 ≤ o ∧ o < 80) : Cert (grid (mkN n nf) W) o W H := by
  have key : ∀ p q, okE o (mkN n nf p) (mkN n nf q) = true := fun p q => by
    have := land_T (mkN_is n nf p) (mkN_is n nf q)
    unfold okE; exact decide_eq_true (by omega)
  exact ⟨fun x y _ _ => key _ _, fun x y _ _ => key _ _⟩
end Go.Proofs.Ytbpdmbgkoijfbaa
namespace Go.Proofs.Ytbpdmbgkoijfbaa
open Go.Ab
attribute [local irreducible] aggOk drwOK
set_option maxRecDepth 100000
set_option maxHeartbeats 4000000
set_option linter.unusedVariables false
set_option linter.unusedSimpArgs false
def fP (mo : Int) (nf : Nat → Int) (j : Nat) : Int := (nf j + mo) % 3600
def fQ (nf : Nat → Int) (j : Nat) : Int := (3600 - nf j) % 3600
def fR (W : Nat) (nf : Nat → Int) (j : Nat) : Int := nf (j / W * W + (W - 1 - j % W))
theorem T_shift (a b m : Int) : T ((a + m) % 3600) ((b + m) % 3600) = T a b := by unfold T; omega
theorem T_mirr (a b : Int) : T ((3600 - a) % 3600) ((3600 - b) % 3600) = T b a := by unfold T; omega
theorem okE_T {o a b x y : Int} (h : T a b = T x y) : okE o a b = okE o x y := by unfold okE; rw [h]
theorem cert_P {mo : Int} {nf : Nat → Int} {o : Int} {W H : Nat} (h : Cert (grid nf W) o W H) : Cert (grid (fP mo nf) W) o W H :=
  ⟨fun x y hx hy => (okE_T (T_shift _ _ _)).trans (h.1 x y hx hy), fun x y hx hy => (okE_T (T_shift _ _ _)).trans (h.2 x y hx hy)⟩
theorem cert_Q {nf : Nat → Int} {o : Int} {W H : Nat} (h : Cert (grid nf W) o W H) : Cert (grid (fQ nf) W) o W H :=
  ⟨fun x y hx hy => ((okE_T (T_mirr _ _)).trans (okE_symm _ _ _)).trans (h.1 x y hx hy), fun x y hx hy => ((okE_T (T_mirr _ _)).trans (okE_symm _ _ _)).trans (h.2 x y hx hy)⟩
theorem grid_R {nf : Nat → Int} {W x y : Nat} (hx : x < W) : grid (fR W nf) W x y = grid nf W (W - 1 - x) y := by
  have h1 : (y * W + x) / W = y := by rw [Nat.mul_comm, Nat.mul_add_div (by omega), Nat.div_eq_of_lt hx]; omega
  have h2 : (y * W + x) % W = x := by rw [Nat.mul_comm, Nat.mul_add_mod]; exact Nat.mod_eq_of_lt hx
  show nf ((y * W + x) / W * W + (W - 1 - (y * W + x) % W)) = nf (y * W + (W - 1 - x))
  rw [h1, h2]
theorem cert_R {nf : Nat → Int} {o : Int} {W H : Nat} (h : Cert (grid nf W) o W H) : Cert (grid (fR W nf) W) o W H := by
  refine ⟨fun x y hx hy => ?_, fun x y hx hy => ?_⟩
  · rw [grid_R (by omega), grid_R hx, okE_symm, show W - 1 - x = W - 1 - (x + 1) + 1 by omega]
    exact h.1 _ _ (by omega) hy
  · rw [grid_R hx, grid_R hx]
    exact h.2 _ _ (by omega) hy
theorem bsum_P (mo : Int) (nf : Nat → Int) (W x y w h : Nat) : bsum (grid (fP mo nf) W) x y w h = bsum (grid nf W) x y w h := sumN_congr fun k _ => T_shift _ _ _
theorem bsum_Q {nf : Nat → Int} {W H x y w h : Nat} (hs : Sure (grid nf W) W H) (hq : Sure (grid (fQ nf) W) W H) (hw : x + w < W) (hh : y + h < H) : bsum (grid (fQ nf) W) x y w h = - bsum (grid nf W) x y w h := by
  rw [bsum_hv hs hw hh, bsum_hv hq hw hh]
  have e1 : ∀ a b, a + 1 < W → b < H → hor (grid (fQ nf) W) a b = - hor (grid nf W) a b := fun a b ha hb => (T_mirr _ _).trans (T_neg (hs.1 a b ha hb))
  have e2 : ∀ a b, a < W → b + 1 < H → ver (grid (fQ nf) W) a b = - ver (grid nf W) a b := fun a b ha hb => (T_mirr _ _).trans (T_neg (hs.2 a b ha hb))
  rw [sumN_congr (g := fun k => - hor (grid nf W) (x + k) y) fun k hk => e1 (x + k) y (by omega) (by omega), sumN_congr (g := fun k => - hor (grid nf W) (x + k) (y + h)) fun k hk => e1 (x + k) (y + h) (by omega) (by omega), sumN_congr (g := fun k => - ver (grid nf W) (x + w) (y + k)) fun k hk => e2 (x + w) (y + k) (by omega) (by omega), sumN_congr (g := fun k => - ver (grid nf W) x (y + k)) fun k hk => e2 x (y + k) (by omega) (by omega), sumN_neg, sumN_neg, sumN_neg, sumN_neg]
  omega
theorem bsum_R {nf : Nat → Int} {W H x y w h : Nat} (hs : Sure (grid nf W) W H) (hr : Sure (grid (fR W nf) W) W H) (hw : x + w < W) (hh : y + h < H) : bsum (grid (fR W nf) W) (W - 1 - x - w) y w h = - bsum (grid nf W) x y w h := by
  rw [bsum_hv hs hw hh, bsum_hv hr (by omega) hh]
  have e1 : ∀ k b, k < w → b < H → hor (grid (fR W nf) W) (W - 1 - x - w + k) b = - hor (grid nf W) (x + (w - 1 - k)) b := fun k b hk hb => by
    show T (grid (fR W nf) W (W - 1 - x - w + k) b) (grid (fR W nf) W (W - 1 - x - w + k + 1) b) = _
    rw [grid_R (by omega), grid_R (by omega), show W - 1 - (W - 1 - x - w + k) = x + (w - 1 - k) + 1 by omega, show W - 1 - (W - 1 - x - w + k + 1) = x + (w - 1 - k) by omega]
    exact T_neg (hs.1 (x + (w - 1 - k)) b (by omega) hb)
  have e2 : ∀ k, k < h → ver (grid (fR W nf) W) (W - 1 - x - w + w) (y + k) = ver (grid nf W) x (y + k) := fun k hk => by
    show T (grid (fR W nf) W _ (y + k)) (grid (fR W nf) W _ (y + k + 1)) = _
    rw [grid_R (by omega), grid_R (by omega), show W - 1 - (W - 1 - x - w + w) = x by omega]; rfl
  have e3 : ∀ k, k < h → ver (grid (fR W nf) W) (W - 1 - x - w) (y + k) = ver (grid nf W) (x + w) (y + k) := fun k hk => by
    show T (grid (fR W nf) W _ (y + k)) (grid (fR W nf) W _ (y + k + 1)) = _
    rw [grid_R (by omega), grid_R (by omega), show W - 1 - (W - 1 - x - w) = x + w by omega]; rfl
  rw [sumN_congr (g := fun k => - hor (grid nf W) (x + (w - 1 - k)) y) fun k hk => e1 k y hk (by omega), sumN_congr (g := fun k => - hor (grid nf W) (x + (w - 1 - k)) (y + h)) fun k hk => e1 k (y + h) hk (by omega), sumN_congr e2, sumN_congr e3, sumN_neg, sumN_neg, sumN_rev (f := fun k => hor (grid nf W) (x + k) y), sumN_rev (f := fun k => hor (grid nf W) (x + k) (y + h))]
  omega
theorem tdiv_neg' {a b : Int} (h : a = - b) : a.tdiv 3600 = - b.tdiv 3600 := by rw [h, Int.neg_tdiv]
end Go.Proofs.Ytbpdmbgkoijfbaa
namespace Go.Proofs.Ytbpdmbgkoijfbaa
open Go.Ab
attribute [local irreducible] aggOk drwOK
set_option maxRecDepth 100000
set_option maxHeartbeats 4000000
set_option linter.unusedVariables false
set_option linter.unusedSimpArgs false
theorem wf_u16 {n : Int} (h : (Lit.int .u16 n).wf = true) : 0 ≤ n ∧ n < 65536 := by
  have h : (decide (IntKind.u16.min ≤ n) && decide (n ≤ IntKind.u16.max)) = true := h
  rw [Bool.and_eq_true, decide_eq_true_eq, decide_eq_true_eq] at h
  have e1 : IntKind.u16.min = 0 := by decide
  have e2 : IntKind.u16.max = 65535 := by decide
  rw [e1, e2] at h
  omega
theorem call31 {call : CallT} {g : FuncId} {args args0 : List SV} {m0 : Mem} {N i W H : Nat} {o : Int} {nf : Nat → Int} (h : ∀ R, callS call (.fn g [] []) args0 m0 (addL R N) 0 fun w m' R' _ => (∃ w0 mf, QF i W H o nf w0 mf ∧ den w = den w0 ∧ WkM m' mf) ∧ R ≤ R') (R2 : Nat) {m : Mem} {R ni : Nat} {K : SV → Mem → Nat → Nat → Prop} (ha : dens args = dens args0) (hs : SeesM m m0) (hN : R2 + N ≤ R)
    (hK : ∀ a, K (.agg [i64 W, i64 H, i64 o, .sl i a (W * H) (W * H)]) ((i, .gr a (W * H) 3 1 fun j => [i64 (nf j)]) :: m) R2 ni) : callS call (.fn g [] []) args m R ni K := by
  refine call_freshL (QF i W H o nf) h ?_ R2 ha hs hN ?_
  · rintro _ _ ⟨a1, rfl, rfl⟩ x hx
    rw [List.mem_singleton.1 hx]; exact ⟨_, _, _, _, _, rfl⟩
  · rintro _ _ ⟨a1, rfl, rfl⟩
    exact hK a1
theorem call_pureD {P : Program} {F : Nat} {fs0 : List FuncId} {w d : Nat} {g : FuncId} {args args0 : List SV} {N : Nat} {v : SV} (h : PureC (callF P F (extB fs0 w) d) g args0 N v) (R2 : Nat) {m : Mem} {R ni : Nat} {K : SV → Mem → Nat → Nat → Prop} (ha : dens args = dens args0) (hN : R2 + N ≤ R) (hK : K v m R2 ni) : callS (callF P F (extB fs0 w) d) (.fn g [] []) args m R ni K :=
  callS.cast (fv' := .fn g [] []) rfl ha (call_pureL h R2 hN hK)
theorem l11 (F d : Nat) (hF : 300 < F) (x0 x1 x2 : Int) (h0 : 0 ≤ x0 ∧ x0 < 256) (h1 : 0 ≤ x1 ∧ x1 < 256) (h2 : 0 ≤ x2 ∧ x2 < 256) (a : Option Addr) (n c : Nat) (nf : Nat → Int) (_ : ∀ j, n ≤ j → nf j = 0) (hnf : ∀ j, 0 ≤ nf j ∧ nf j < 256) (y0 y1 y2 y3 : Int) (mo : Int) (k0 : 0 ≤ y0 ∧ y0 < 256) (k1 : 0 ≤ y1 ∧ y1 < 256) (k2 : 0 ≤ y2 ∧ y2 < 256) (k3 : 0 ≤ y3 ∧ y3 < 256) (hmo : 0 ≤ mo ∧ mo < 65536) : ReadC (CL F (d + 10)) 11 [.agg [.int .u8 x0, .int .u8 x1, .int .u8 x2, .sl 1000 a n c], .agg [.int .u8 y0, .int .u8 y1, .int .u8 y2, .int .u8 y3], .int .u16 mo] [(1000, .ro a n c 1 fun j => [.int .u8 (nf j)])] (400000 + 100) (.bool true) := by
  obtain ⟨W, hW⟩ : ∃ W : Nat, (W : Int) = 2 + x0 % 5 := ⟨(2 + x0 % 5).toNat, by omega⟩
  obtain ⟨H, hH⟩ : ∃ H : Nat, (H : Int) = 2 + x1 % 5 := ⟨(2 + x1 % 5).toNat, by omega⟩
  have hWb : 2 ≤ W ∧ W ≤ 6 := by omega
  have hHb : 2 ≤ H ∧ H ≤ 6 := by omega
  have hWH : W * H ≤ 6 * 6 := Nat.mul_le_mul hWb.2 hHb.2
  have k31 := c31 F (d + 8) (by omega) 700 x0 x1 x2 h0 h1 h2 a n c nf hnf W H hW hH
  have hC := land_cert n nf W H (x2 % 80) (by omega)
  have hD := mkN_dir n nf
  have ho : 0 ≤ x2 % 80 ∧ x2 % 80 ≤ 400 := by omega
  generalize x2 % 80 = o at k31 hC ho
  generalize mkN n nf = ng at k31 hC hD
  obtain ⟨x, y, w, h, hx, hy, hw, hh, h32⟩ := c32 F (d + 7) W H y0 y1 y2 y3 k0 k1 k2 k3 (by omega) (by omega)
  have hs := hC.sure ho.1

  have i1 := fun a => c20_ok F d (by omega) W H o a (W * H) (W * H) ng x y w h hD (by omega) (by omega) rfl hx hy hw hh (chk_ok F d (by omega) W H o a (W * H) ng hD (by omega) (by omega) ho hC)
  have hDP : ∀ j, Dir (fP mo ng j) := fun j => by unfold fP; omega
  have hDQ : ∀ j, Dir (fQ ng j) := fun j => by unfold fQ; omega
  have hDR : ∀ j, Dir (fR W ng j) := fun j => hD _
  have hCP := cert_P (mo := mo) hC
  have hCQ := cert_Q hC
  have hCR := cert_R hC
  have i2 := fun a => c20_ok F d (by omega) W H o a (W * H) (W * H) (fP mo ng) x y w h hDP (by omega) (by omega) rfl hx hy hw hh (chk_ok F d (by omega) W H o a (W * H) (fP mo ng) hDP (by omega) (by omega) ho hCP)
  have i3 := fun a => c20_ok F d (by omega) W H o a (W * H) (W * H) (fQ ng) x y w h hDQ (by omega) (by omega) rfl hx hy hw hh (chk_ok F d (by omega) W H o a (W * H) (fQ ng) hDQ (by omega) (by omega) ho hCQ)
  have i4 := fun a => c20_ok F d (by omega) W H o a (W * H) (W * H) (fR W ng) (W - 1 - x - w) y w h hDR (by omega) (by omega) rfl (by omega) hy hw hh (chk_ok F d (by omega) W H o a (W * H) (fR W ng) hDR (by omega) (by omega) ho hCR)
  rw [bsum_P] at i2
  rw [tdiv_neg' (bsum_Q hs (hCQ.sure ho.1) hx hy)] at i3
  rw [tdiv_neg' (bsum_R hs (hCR.sure ho.1) hx hy)] at i4
  have hb := idx_sm (grid ng W) x y w h (by omega)
  generalize (bsum (grid ng W) x y w h).tdiv 3600 = v at i1 i2 i3 i4 hb
  intro R
  rw [show 400000 + 100 = (400000) + 100 from rfl, addL_eq, ← Nat.add_assoc, ← addL_eq _ 100]
  refine call_in (n := 162) Try.func11 rfl rfl rfl rfl rfl rfl rfl ?_
  repeat' ((conv => whnf); first
           | refine eqS_rfl ?_
           | refine eqA_rfl ?_
           | refine eqA_of (by assumption) ?_
           | refine eqS_of (by rfl) ?_
           | refine eqL_rfl ?_
           | refine eqJ_rfl ?_
           | refine flE_intro (fun _ _ => rfl) ?_
           | refine seS_rfl ?_
           | refine brS_tt ?_
           | refine brS_ff ?_
           | refine brS_not ?_
           | refine brS_t (iEq_self _) ?_
           | refine brS_t (by assumption) ?_
           | refine brS_f (by assumption) ?_
           | refine brS_intro (fun _ => ?_) (fun _ => ?_)
           | refine ltS_intro (by first | assumption | decide | exact Nat.le_of_ble_eq_true rfl | omega) ?_
           | refine ixS_of rfl (by first | assumption | decide | omega) ?_
           | refine okS_intro (by first | assumption | kernel_rfl) ?_
           | refine nzS_intro (by first | decide | assumption) ?_
           | refine call31 k31 (addL (R + 390000) 90) (by rfl) (by exact SeesM.cons 1000 (sees_ro (i := 1000) (by rfl)) (SeesM.nil _) (fun _ _ _ _ _ _ x hx => by cases hx)) (by (first | exact Nat.le_refl _ | (simp only [addL_eq, addL_rec]; omega))) ?_
           | refine call_pureD (h32 o _ (W * H) (W * H)) (addL (R + 380000) 80) (by rfl) (by (first | exact Nat.le_refl _ | (simp only [addL_eq, addL_rec]; omega))) ?_
           | intro _)
  rename_i a0 b7 b8 b9 b10 b11
  conv => whnf
  refine loS_i (fun jj f mm R' ni => ∃ (i : Nat) (a1 a2 a3 : Option Addr), i ≤ W * H ∧ jj = W * H - i + 1 ∧ f = [(2, .int .u16 mo), (7, .ptr 2 b7 0), (8, .ptr 3 b8 0), (9, .ptr 4 b9 0), (10, .ptr 5 b10 0), (11, .ptr 6 b11 0), (36, .sl 700 a0 (W * H) (W * H)), (37, .int .i64 (Int.ofNat (W * H))), (38, .int .i64 (Int.ofNat i))] ∧ mm = ([(4, .own b9 24 [i64 W, i64 H, i64 o, .sl 701 a1 i i]), (5, .own b10 24 [i64 W, i64 H, i64 o, .sl 702 a2 i i]), (6, .own b11 24 [i64 W, i64 H, i64 o, .sl 703 a3 i i]), (3, .own b8 35 [i64 x, i64 y, i64 w, i64 h]), (2, .own b7 24 [i64 W, i64 H, i64 o, .sl 700 a0 (W * H) (W * H)])] ++ [(700, .gr a0 (W * H) 3 1 fun j => [i64 (ng j)]), (701, .gr a1 i 3 1 fun j => [i64 (fP mo ng j)]), (702, .gr a2 i 3 1 fun j => [i64 (fQ ng j)]), (703, .gr a3 i 3 1 fun j => [i64 (fR W ng j)])]) ∧ R' = addL (R + 301000 + 100 * (W * H - i)) 100 ∧ ni = 100) (W * H + 1) (by omega)
    ⟨[(2, .int .u16 mo), (7, .ptr 2 b7 0), (8, .ptr 3 b8 0), (9, .ptr 4 b9 0), (10, .ptr 5 b10 0), (11, .ptr 6 b11 0), (36, .sl 700 a0 (W * H) (W * H)), (37, .int .i64 (Int.ofNat (W * H))), (38, .int .i64 (Int.ofNat 0))], ([(4, .own b9 24 [i64 W, i64 H, i64 o, .sl 701 none 0 0]), (5, .own b10 24 [i64 W, i64 H, i64 o, .sl 702 none 0 0]), (6, .own b11 24 [i64 W, i64 H, i64 o, .sl 703 none 0 0]), (3, .own b8 35 [i64 x, i64 y, i64 w, i64 h]), (2, .own b7 24 [i64 W, i64 H, i64 o, .sl 700 a0 (W * H) (W * H)])] ++ [(700, .gr a0 (W * H) 3 1 fun j => [i64 (ng j)]), (701, .gr none 0 3 1 fun j => [i64 (fP mo ng j)]), (702, .gr none 0 3 1 fun j => [i64 (fQ ng j)]), (703, .gr none 0 3 1 fun j => [i64 (fR W ng j)])]), addL (R + 301000 + 100 * (W * H - 0)) 100, 100, ⟨eqF_rfl _, eqF_rfl _, eqF_rfl _, eqF_rfl _, eqF_rfl _, eqF_rfl _, eqF_rfl _, eqF_rfl _, eqF_rfl _, trivial⟩, by exact (WkM.gr0 (i := 701) (e := 3) (sz := 1) (f := fun j => [i64 (fP mo ng j)]) (WkM.gr0 (i := 702) (e := 3) (sz := 1) (f := fun j => [i64 (fQ ng j)]) (WkM.gr0 (i := 703) (e := 3) (sz := 1) (f := fun j => [i64 (fR W ng j)]) (WkM.refl _)))).trans (by refine Sel.wk ?_; (try simp only [List.cons_append, List.nil_append]); repeat' (first | exact Sel.nil | exact Sel.all | exact Sel.left | refine Sel.cons Pick.here ?_ | refine Sel.cons (Pick.there Pick.here) ?_ | refine Sel.cons (Pick.there (Pick.there Pick.here)) ?_ | refine Sel.cons (Pick.there (Pick.there (Pick.there Pick.here))) ?_ | refine Sel.cons (Pick.there (Pick.there (Pick.there (Pick.there Pick.here)))) ?_ | refine Sel.cons (Pick.there (Pick.there (Pick.there (Pick.there (Pick.there Pick.here))))) ?_ | refine Sel.cons (Pick.there (Pick.there (Pick.there (Pick.there (Pick.there (Pick.there Pick.here)))))) ?_ | refine Sel.cons (Pick.there (Pick.there (Pick.there (Pick.there (Pick.there (Pick.there (Pick.there Pick.here))))))) ?_ | refine Sel.cons (Pick.there (Pick.there (Pick.there (Pick.there (Pick.there (Pick.there (Pick.there (Pick.there Pick.here)))))))) ?_ | refine Sel.cons (Pick.there (Pick.there (Pick.there (Pick.there (Pick.there (Pick.there (Pick.there (Pick.there (Pick.there Pick.here))))))))) ?_ | refine Sel.cons (Pick.there (Pick.there (Pick.there (Pick.there (Pick.there (Pick.there (Pick.there (Pick.there (Pick.there (Pick.there Pick.here)))))))))) ?_ | refine Sel.cons (Pick.there (Pick.there (Pick.there (Pick.there (Pick.there (Pick.there (Pick.there (Pick.there (Pick.there (Pick.there (Pick.there Pick.here))))))))))) ?_ | refine Sel.consw Pick.here ⟨rfl, rfl, rfl⟩ ?_ | refine Sel.consw (Pick.there Pick.here) ⟨rfl, rfl, rfl⟩ ?_ | refine Sel.consw (Pick.there (Pick.there Pick.here)) ⟨rfl, rfl, rfl⟩ ?_ | refine Sel.consw (Pick.there (Pick.there (Pick.there Pick.here))) ⟨rfl, rfl, rfl⟩ ?_ | refine Sel.consw (Pick.there (Pick.there (Pick.there (Pick.there Pick.here)))) ⟨rfl, rfl, rfl⟩ ?_ | refine Sel.consw (Pick.there (Pick.there (Pick.there (Pick.there (Pick.there Pick.here))))) ⟨rfl, rfl, rfl⟩ ?_ | refine Sel.consw (Pick.there (Pick.there (Pick.there (Pick.there (Pick.there (Pick.there Pick.here)))))) ⟨rfl, rfl, rfl⟩ ?_ | refine Sel.consw (Pick.there (Pick.there (Pick.there (Pick.there (Pick.there (Pick.there (Pick.there Pick.here))))))) ⟨rfl, rfl, rfl⟩ ?_ | refine Sel.consw (Pick.there (Pick.there (Pick.there (Pick.there (Pick.there (Pick.there (Pick.there (Pick.there Pick.here)))))))) ⟨rfl, rfl, rfl⟩ ?_ | refine Sel.consw (Pick.there (Pick.there (Pick.there (Pick.there (Pick.there (Pick.there (Pick.there (Pick.there (Pick.there Pick.here))))))))) ⟨rfl, rfl, rfl⟩ ?_ | refine Sel.consw (Pick.there (Pick.there (Pick.there (Pick.there (Pick.there (Pick.there (Pick.there (Pick.there (Pick.there (Pick.there Pick.here)))))))))) ⟨rfl, rfl, rfl⟩ ?_ | refine Sel.consw (Pick.there (Pick.there (Pick.there (Pick.there (Pick.there (Pick.there (Pick.there (Pick.there (Pick.there (Pick.there (Pick.there Pick.here))))))))))) ⟨rfl, rfl, rfl⟩ ?_ | refine Sel.snoc Pick.here ?_ | refine Sel.snoc (Pick.there Pick.here) ?_ | refine Sel.snoc (Pick.there (Pick.there Pick.here)) ?_ | refine Sel.snoc (Pick.there (Pick.there (Pick.there Pick.here))) ?_ | refine Sel.snoc (Pick.there (Pick.there (Pick.there (Pick.there Pick.here)))) ?_ | refine Sel.snoc (Pick.there (Pick.there (Pick.there (Pick.there (Pick.there Pick.here))))) ?_ | refine Sel.snoc (Pick.there (Pick.there (Pick.there (Pick.there (Pick.there (Pick.there Pick.here)))))) ?_ | refine Sel.snoc (Pick.there (Pick.there (Pick.there (Pick.there (Pick.there (Pick.there (Pick.there Pick.here))))))) ?_ | refine Sel.snoc (Pick.there (Pick.there (Pick.there (Pick.there (Pick.there (Pick.there (Pick.there (Pick.there Pick.here)))))))) ?_ | refine Sel.snoc (Pick.there (Pick.there (Pick.there (Pick.there (Pick.there (Pick.there (Pick.there (Pick.there (Pick.there Pick.here))))))))) ?_ | refine Sel.snoc (Pick.there (Pick.there (Pick.there (Pick.there (Pick.there (Pick.there (Pick.there (Pick.there (Pick.there (Pick.there Pick.here)))))))))) ?_ | refine Sel.snoc (Pick.there (Pick.there (Pick.there (Pick.there (Pick.there (Pick.there (Pick.there (Pick.there (Pick.there (Pick.there (Pick.there Pick.here))))))))))) ?_ | refine Sel.drop ?_)), by (first | exact Nat.le_refl _ | (simp only [addL_eq, addL_rec]; omega)), 0, none, none, none, by omega, by omega, rfl, rfl, rfl, rfl⟩ ?_
  rintro _ _ _ _ _ ⟨i, a1, a2, a3, hi, rfl, rfl, rfl, rfl, rfl⟩
  by_cases hil : i < W * H
  · have d1 : iLt (Int.ofNat i) (Int.ofNat (W * H)) = true := by rw [iLt_eq]; exact decide_eq_true (by show (i : Int) < ((W * H : Nat) : Int); omega)
    have hWne : ((W : Nat) : Int) ≠ 0 := by omega
    have hDi := hD i
    have ep : Int.tmod (wr .i64 (Int.add (ng i) (wr .i64 mo))) 3600 = fP mo ng i := by
      rw [show wr .i64 mo = mo from sm (n := mo) (by omega), show wr .i64 (Int.add (ng i) mo) = ng i + mo from sm (n := ng i + mo) (by omega)]
      exact Int.tmod_eq_emod_of_nonneg (by omega)
    have eq : Int.tmod (wr .i64 (Int.sub 3600 (ng i))) 3600 = fQ ng i := by
      rw [show wr .i64 (Int.sub 3600 (ng i)) = 3600 - ng i from sm (n := 3600 - ng i) (by omega)]
      exact Int.tmod_eq_emod_of_nonneg (by omega)
    have hq : i / W < H := by rw [Nat.div_lt_iff_lt_mul (by omega), Nat.mul_comm]; exact hil
    have hm : i % W < W := Nat.mod_lt _ (by omega)
    have hK := idx_lt (x := W - 1 - i % W) (y := i / W) (W := W) (H := H) (by omega) hq
    have hle : i / W * W ≤ 6 * 6 := Nat.mul_le_mul (by omega) (by omega)
    have er : wr .i64 (Int.sub (wr .i64 (Int.sub (wr .i64 (Int.add (wr .i64 (Int.mul (wr .i64 (Int.tdiv (Int.ofNat i) (W : Nat))) (W : Nat))) (W : Nat))) 1)) (Int.tmod (Int.ofNat i) (W : Nat))) = Int.ofNat (i / W * W + (W - 1 - i % W)) := by
      rw [show Int.tdiv (Int.ofNat i) (W : Nat) = ((i / W : Nat) : Int) from rfl, show Int.tmod (Int.ofNat i) (W : Nat) = ((i % W : Nat) : Int) from rfl, show wr .i64 ((i / W : Nat) : Int) = ((i / W : Nat) : Int) from wr_nat (i := i / W) (by omega), show wr .i64 (Int.mul ((i / W : Nat) : Int) (W : Nat)) = ((i / W * W : Nat) : Int) from wr_nat (i := i / W * W) (by omega), show wr .i64 (Int.add ((i / W * W : Nat) : Int) (W : Nat)) = ((i / W * W + W : Nat) : Int) from wr_nat (i := i / W * W + W) (by omega), show wr .i64 (Int.sub ((i / W * W + W : Nat) : Int) 1) = ((i / W * W + W - 1 : Nat) : Int) from (sm (n := ((i / W * W + W : Nat) : Int) - 1) (by omega)).trans (by omega)]
      exact (sm (n := ((i / W * W + W - 1 : Nat) : Int) - ((i % W : Nat) : Int)) (by omega)).trans (by show _ = ((i / W * W + (W - 1 - i % W) : Nat) : Int); omega)
    have hg1 := grow1 (n := i) (f := fun j => [i64 (fP mo ng j)]) (v := .int .i64 (Int.tmod (wr .i64 (Int.add (ng i) (wr .i64 mo))) 3600)) (by rw [ep])
    have hg2 := grow1 (n := i) (f := fun j => [i64 (fQ ng j)]) (v := .int .i64 (Int.tmod (wr .i64 (Int.sub 3600 (ng i))) 3600)) (by rw [eq])
    have hg3 := grow1 (n := i) (f := fun j => [i64 (fR W ng j)]) (v := .int .i64 (ng (i / W * W + (W - 1 - i % W)))) rfl
    repeat' ((conv => whnf); first
             | refine eqS_rfl ?_
             | refine eqA_rfl ?_
             | refine eqA_of (by assumption) ?_
             | refine eqS_of (by rfl) ?_
             | refine eqL_rfl ?_
             | refine eqJ_rfl ?_
             | refine flE_intro (fun _ _ => rfl) ?_
             | refine seS_rfl ?_
             | refine brS_tt ?_
             | refine brS_ff ?_
             | refine brS_not ?_
             | refine brS_t (iEq_self _) ?_
             | refine brS_t (by assumption) ?_
             | refine brS_f (by assumption) ?_
             | refine brS_intro (fun _ => ?_) (fun _ => ?_)
             | refine ltS_intro (by first | assumption | decide | exact Nat.le_of_ble_eq_true rfl | omega) ?_
             | refine ixS_of rfl (by first | assumption | decide | omega) ?_
             | refine okS_intro (by first | assumption | kernel_rfl) ?_
             | refine nzS_intro (by first | decide | assumption) ?_
             | refine ixS_of er hK ?_
             | refine ltS_intro (by have := lt_of_iLt ‹iLt (Int.ofNat _) (Int.ofNat _) = true›; omega) ?_
             | refine ixS_of rfl (by have := lt_of_iLt ‹iLt (Int.ofNat _) (Int.ofNat _) = true›; omega) ?_
             | refine ltS_intro (show i * 1 + 1 < 32769 by omega) ?_
             | intro _)
    conv => whnf
    exact ⟨W * H - (i + 1) + 1, [(2, .int .u16 mo), (7, .ptr 2 b7 0), (8, .ptr 3 b8 0), (9, .ptr 4 b9 0), (10, .ptr 5 b10 0), (11, .ptr 6 b11 0), (36, .sl 700 a0 (W * H) (W * H)), (37, .int .i64 (Int.ofNat (W * H))), (38, .int .i64 (Int.ofNat (i + 1)))], ([(4, .own b9 24 [i64 W, i64 H, i64 o, .sl 701 _ (i + 1) (i + 1)]), (5, .own b10 24 [i64 W, i64 H, i64 o, .sl 702 _ (i + 1) (i + 1)]), (6, .own b11 24 [i64 W, i64 H, i64 o, .sl 703 _ (i + 1) (i + 1)]), (3, .own b8 35 [i64 x, i64 y, i64 w, i64 h]), (2, .own b7 24 [i64 W, i64 H, i64 o, .sl 700 a0 (W * H) (W * H)])] ++ [(700, .gr a0 (W * H) 3 1 fun j => [i64 (ng j)]), (701, .gr _ (i + 1) 3 1 fun j => [i64 (fP mo ng j)]), (702, .gr _ (i + 1) 3 1 fun j => [i64 (fQ ng j)]), (703, .gr _ (i + 1) 3 1 fun j => [i64 (fR W ng j)])]), addL (R + 301000 + 100 * (W * H - (i + 1))) 100, 100, by omega, ⟨eqF_rfl _, eqF_rfl _, eqF_rfl _, eqF_rfl _, eqF_rfl _, eqF_rfl _, eqF_rfl _, eqF_rfl _, ⟨congrArg (Value.int .i64) (wr_nat (i := i + 1) (by omega)), rfl⟩, trivial⟩, (by refine Sel.wk ?_; (try simp only [List.cons_append, List.nil_append]); repeat' (first | exact Sel.nil | exact Sel.all | exact Sel.left | refine Sel.cons Pick.here ?_ | refine Sel.cons (Pick.there Pick.here) ?_ | refine Sel.cons (Pick.there (Pick.there Pick.here)) ?_ | refine Sel.cons (Pick.there (Pick.there (Pick.there Pick.here))) ?_ | refine Sel.cons (Pick.there (Pick.there (Pick.there (Pick.there Pick.here)))) ?_ | refine Sel.cons (Pick.there (Pick.there (Pick.there (Pick.there (Pick.there Pick.here))))) ?_ | refine Sel.cons (Pick.there (Pick.there (Pick.there (Pick.there (Pick.there (Pick.there Pick.here)))))) ?_ | refine Sel.cons (Pick.there (Pick.there (Pick.there (Pick.there (Pick.there (Pick.there (Pick.there Pick.here))))))) ?_ | refine Sel.cons (Pick.there (Pick.there (Pick.there (Pick.there (Pick.there (Pick.there (Pick.there (Pick.there Pick.here)))))))) ?_ | refine Sel.cons (Pick.there (Pick.there (Pick.there (Pick.there (Pick.there (Pick.there (Pick.there (Pick.there (Pick.there Pick.here))))))))) ?_ | refine Sel.cons (Pick.there (Pick.there (Pick.there (Pick.there (Pick.there (Pick.there (Pick.there (Pick.there (Pick.there (Pick.there Pick.here)))))))))) ?_ | refine Sel.cons (Pick.there (Pick.there (Pick.there (Pick.there (Pick.there (Pick.there (Pick.there (Pick.there (Pick.there (Pick.there (Pick.there Pick.here))))))))))) ?_ | refine Sel.consw Pick.here ⟨rfl, rfl, rfl⟩ ?_ | refine Sel.consw (Pick.there Pick.here) ⟨rfl, rfl, rfl⟩ ?_ | refine Sel.consw (Pick.there (Pick.there Pick.here)) ⟨rfl, rfl, rfl⟩ ?_ | refine Sel.consw (Pick.there (Pick.there (Pick.there Pick.here))) ⟨rfl, rfl, rfl⟩ ?_ | refine Sel.consw (Pick.there (Pick.there (Pick.there (Pick.there Pick.here)))) ⟨rfl, rfl, rfl⟩ ?_ | refine Sel.consw (Pick.there (Pick.there (Pick.there (Pick.there (Pick.there Pick.here))))) ⟨rfl, rfl, rfl⟩ ?_ | refine Sel.consw (Pick.there (Pick.there (Pick.there (Pick.there (Pick.there (Pick.there Pick.here)))))) ⟨rfl, rfl, rfl⟩ ?_ | refine Sel.consw (Pick.there (Pick.there (Pick.there (Pick.there (Pick.there (Pick.there (Pick.there Pick.here))))))) ⟨rfl, rfl, rfl⟩ ?_ | refine Sel.consw (Pick.there (Pick.there (Pick.there (Pick.there (Pick.there (Pick.there (Pick.there (Pick.there Pick.here)))))))) ⟨rfl, rfl, rfl⟩ ?_ | refine Sel.consw (Pick.there (Pick.there (Pick.there (Pick.there (Pick.there (Pick.there (Pick.there (Pick.there (Pick.there Pick.here))))))))) ⟨rfl, rfl, rfl⟩ ?_ | refine Sel.consw (Pick.there (Pick.there (Pick.there (Pick.there (Pick.there (Pick.there (Pick.there (Pick.there (Pick.there (Pick.there Pick.here)))))))))) ⟨rfl, rfl, rfl⟩ ?_ | refine Sel.consw (Pick.there (Pick.there (Pick.there (Pick.there (Pick.there (Pick.there (Pick.there (Pick.there (Pick.there (Pick.there (Pick.there Pick.here))))))))))) ⟨rfl, rfl, rfl⟩ ?_ | refine Sel.consw Pick.here ⟨rfl, rfl, rfl, rfl, by assumption⟩ ?_ | refine Sel.consw (Pick.there Pick.here) ⟨rfl, rfl, rfl, rfl, by assumption⟩ ?_ | refine Sel.consw (Pick.there (Pick.there Pick.here)) ⟨rfl, rfl, rfl, rfl, by assumption⟩ ?_ | refine Sel.consw (Pick.there (Pick.there (Pick.there Pick.here))) ⟨rfl, rfl, rfl, rfl, by assumption⟩ ?_ | refine Sel.consw (Pick.there (Pick.there (Pick.there (Pick.there Pick.here)))) ⟨rfl, rfl, rfl, rfl, by assumption⟩ ?_ | refine Sel.consw (Pick.there (Pick.there (Pick.there (Pick.there (Pick.there Pick.here))))) ⟨rfl, rfl, rfl, rfl, by assumption⟩ ?_ | refine Sel.consw (Pick.there (Pick.there (Pick.there (Pick.there (Pick.there (Pick.there Pick.here)))))) ⟨rfl, rfl, rfl, rfl, by assumption⟩ ?_ | refine Sel.consw (Pick.there (Pick.there (Pick.there (Pick.there (Pick.there (Pick.there (Pick.there Pick.here))))))) ⟨rfl, rfl, rfl, rfl, by assumption⟩ ?_ | refine Sel.consw (Pick.there (Pick.there (Pick.there (Pick.there (Pick.there (Pick.there (Pick.there (Pick.there Pick.here)))))))) ⟨rfl, rfl, rfl, rfl, by assumption⟩ ?_ | refine Sel.consw (Pick.there (Pick.there (Pick.there (Pick.there (Pick.there (Pick.there (Pick.there (Pick.there (Pick.there Pick.here))))))))) ⟨rfl, rfl, rfl, rfl, by assumption⟩ ?_ | refine Sel.consw (Pick.there (Pick.there (Pick.there (Pick.there (Pick.there (Pick.there (Pick.there (Pick.there (Pick.there (Pick.there Pick.here)))))))))) ⟨rfl, rfl, rfl, rfl, by assumption⟩ ?_ | refine Sel.consw (Pick.there (Pick.there (Pick.there (Pick.there (Pick.there (Pick.there (Pick.there (Pick.there (Pick.there (Pick.there (Pick.there Pick.here))))))))))) ⟨rfl, rfl, rfl, rfl, by assumption⟩ ?_ | refine Sel.snoc Pick.here ?_ | refine Sel.snoc (Pick.there Pick.here) ?_ | refine Sel.snoc (Pick.there (Pick.there Pick.here)) ?_ | refine Sel.snoc (Pick.there (Pick.there (Pick.there Pick.here))) ?_ | refine Sel.snoc (Pick.there (Pick.there (Pick.there (Pick.there Pick.here)))) ?_ | refine Sel.snoc (Pick.there (Pick.there (Pick.there (Pick.there (Pick.there Pick.here))))) ?_ | refine Sel.snoc (Pick.there (Pick.there (Pick.there (Pick.there (Pick.there (Pick.there Pick.here)))))) ?_ | refine Sel.snoc (Pick.there (Pick.there (Pick.there (Pick.there (Pick.there (Pick.there (Pick.there Pick.here))))))) ?_ | refine Sel.snoc (Pick.there (Pick.there (Pick.there (Pick.there (Pick.there (Pick.there (Pick.there (Pick.there Pick.here)))))))) ?_ | refine Sel.snoc (Pick.there (Pick.there (Pick.there (Pick.there (Pick.there (Pick.there (Pick.there (Pick.there (Pick.there Pick.here))))))))) ?_ | refine Sel.snoc (Pick.there (Pick.there (Pick.there (Pick.there (Pick.there (Pick.there (Pick.there (Pick.there (Pick.there (Pick.there Pick.here)))))))))) ?_ | refine Sel.snoc (Pick.there (Pick.there (Pick.there (Pick.there (Pick.there (Pick.there (Pick.there (Pick.there (Pick.there (Pick.there (Pick.there Pick.here))))))))))) ?_ | refine Sel.drop ?_)), by (first | exact Nat.le_refl _ | (simp only [addL_eq, addL_rec]; omega)), i + 1, _, _, _, by omega, rfl, rfl, rfl, rfl, rfl⟩
  · have d1 : iLt (Int.ofNat i) (Int.ofNat (W * H)) = false := by rw [iLt_eq]; exact decide_eq_false (by show ¬ (i : Int) < ((W * H : Nat) : Int); omega)
    have e : i = W * H := by omega
    subst e
    have ex : wr .i64 (Int.sub (wr .i64 (Int.sub (wr .i64 (Int.sub (W : Nat) 1)) (x : Nat))) (w : Nat)) = ((W - 1 - x - w : Nat) : Int) := by
      rw [show wr .i64 (Int.sub (W : Nat) 1) = ((W - 1 : Nat) : Int) from (sm (n := (W : Int) - 1) (by omega)).trans (by omega), show wr .i64 (Int.sub ((W - 1 : Nat) : Int) (x : Nat)) = ((W - 1 - x : Nat) : Int) from (sm (n := ((W - 1 : Nat) : Int) - x) (by omega)).trans (by omega)]
      exact (sm (n := ((W - 1 - x : Nat) : Int) - w) (by omega)).trans (by omega)
    have t1 : iEq v v = true := iEq_self _
    have t2 : iEq v (wr .i64 (Int.sub 0 (-v))) = true := by rw [show wr .i64 (Int.sub 0 (-v)) = v from (sm (n := 0 - -v) (by omega)).trans (by omega)]; exact iEq_self _
    repeat' ((conv => whnf); first
             | refine eqS_rfl ?_
             | refine eqA_rfl ?_
             | refine eqA_of (by assumption) ?_
             | refine eqS_of (by rfl) ?_
             | refine eqL_rfl ?_
             | refine eqJ_rfl ?_
             | refine flE_intro (fun _ _ => rfl) ?_
             | refine seS_rfl ?_
             | refine brS_tt ?_
             | refine brS_ff ?_
             | refine brS_not ?_
             | refine brS_t (iEq_self _) ?_
             | refine brS_t (by assumption) ?_
             | refine brS_f (by assumption) ?_
             | refine brS_intro (fun _ => ?_) (fun _ => ?_)
             | refine ltS_intro (by first | assumption | decide | exact Nat.le_of_ble_eq_true rfl | omega) ?_
             | refine ixS_of rfl (by first | assumption | decide | omega) ?_
             | refine okS_intro (by first | assumption | kernel_rfl) ?_
             | refine nzS_intro (by first | decide | assumption) ?_
             | refine call_w rfl ?_
             | refine call_pure (c34 F _ _ _ _ _) ?_
             | refine call_readL (i1 a0) (addL (R + 225500) 90) (by rfl) (by exact SeesM.cons 1000 (sees_gr (i := 700) (by rfl)) (SeesM.nil _) (fun _ _ _ _ _ _ x hx => by cases hx)) (by (first | exact Nat.le_refl _ | (simp only [addL_eq, addL_rec]; omega))) ?_
             | refine call_readL (i2 a1) (addL (R + 150300) 80) (by rfl) (by exact SeesM.cons 1000 (sees_gr (i := 701) (by rfl)) (SeesM.nil _) (fun _ _ _ _ _ _ x hx => by cases hx)) (by (first | exact Nat.le_refl _ | (simp only [addL_eq, addL_rec]; omega))) ?_
             | refine call_readL (i3 a2) (addL (R + 75150) 70) (by rfl) (by exact SeesM.cons 1000 (sees_gr (i := 702) (by rfl)) (SeesM.nil _) (fun _ _ _ _ _ _ x hx => by cases hx)) (by (first | exact Nat.le_refl _ | (simp only [addL_eq, addL_rec]; omega))) ?_
             | refine call_readL (i4 a3) (addL R 40) (by exact congrArg (fun z => dens [fld W H o a3 (W * H) (W * H), bl z y w h]) ex) (by exact SeesM.cons 1000 (sees_gr (i := 703) (by rfl)) (SeesM.nil _) (fun _ _ _ _ _ _ x hx => by cases hx)) (by (first | exact Nat.le_refl _ | (simp only [addL_eq, addL_rec]; omega))) ?_
             | intro _)
    conv => whnf
    exact ⟨rfl, by (first | exact Nat.le_refl _ | (simp only [addL_eq, addL_rec]; omega))⟩
end Go.Proofs.Ytbpdmbgkoijfbaa
