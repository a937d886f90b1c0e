/- Swing: the calls that are answered are answered rightly; SwingRing's run for all arguments. -/
import Derived.Test.YtfcgfnlifdjfjaaSwY
import Derived.Test.YtfcgfnlifdjfjaaSwJp
import Derived.Test.YtfcgfnlifdjfjaaSwJ2
import Derived.Test.YtfcgfnlifdjfjaaSwJq
import Derived.Test.YtfcgfnlifdjfjaaSwJ5
namespace Go.Proofs.Ytfcgfnlifdjfjaa
open Go.Ab Go.RowKit
/-- the row that two numbers mean; a row that tells its heading late, early, or not at all -/
def res (b c : Int) : ByteArray := mkR (c.toNat % 64 + 1) b
def good (w : ByteArray) : Prop := marks w ∧ 0 < w.size ∧ w.size ≤ 64
def late (w : ByteArray) : Prop := clV w = .tup [.int .i64 0, .int .i64 14] ∨ ∃ n, n < 58 ∧ clV w = .tup [.int .i64 (Int.ofNat (n + 6)), .int .i64 0]
def soon (w : ByteArray) : Prop := ∃ n, n < 6 ∧ w.size ≤ 2 ^ n ∧ clV w = .tup [.int .i64 (Int.ofNat n), .int .i64 0]
noncomputable def yes (p : Prop) : Bool := @decide p (Classical.propDecidable p)
theorem yes_t {p : Prop} (h : p) : yes p = true := by unfold yes; simp [h]
theorem yes_f {p : Prop} (h : ¬ p) : yes p = false := by unfold yes; simp [h]
theorem yes_p {p : Prop} (h : yes p = true) : p := by unfold yes at h; simpa using h
noncomputable def asks (w0 : ByteArray) : Asks where
  w0 := w0
  a := fun b c => yes (0 ≤ c ∧ c < 256 ∧ res b c = w0 ∧ late w0)
  b := fun b c => yes (0 ≤ c ∧ c < 256 ∧ soon (res b c))
  m := fun m b c => yes (res b c = mkR (m + 1) b)
  a2 := fun w => yes (good w ∧ late w)
  b2 := fun w => yes (good w ∧ soon w)
theorem good_res (b c : Int) : good (res b c) := ⟨marks_mkR _ _, by unfold res; rw [size_mkR]; omega, by unfold res; rw [size_mkR]; omega⟩
theorem late_soon {w : ByteArray} (h : good w) : late w ∨ soon w := by
  rcases clV_ok h.1 h.2.2 with h1 | ⟨n, hn, ho, h1⟩
  · exact .inl (.inl h1)
  · by_cases h6 : 6 ≤ n
    · exact .inl (.inr ⟨n - 6, by omega, by rw [show n - 6 + 6 = n by omega]; exact h1⟩)
    · refine .inr ⟨n, by omega, ?_, h1⟩
      have h2 : (Nat.ble 6 n || Nat.ble w.size (2 ^ n)) = true := ho
      cases hb : Nat.ble 6 n with
      | true => exact absurd (ble_true hb) h6
      | false => rw [hb, Bool.false_or] at h2; exact ble_true h2
theorem far_at (a b : Nat) : (St.far a).at b = none := at_st0 b
theorem Stp.far {P : Program} {ρ : Ren} {s : St} {W W' : World} (h : SR P ρ s W) (hb : Below W.heap.size W W') {a : Nat} (hn : s.nx ≤ a) : Stp P ρ s W ρ (St.far a) W' :=
  ⟨.refl ρ, ⟨fun b o hb => (by rw [far_at] at hb; cases hb), fun b c o o' r r' hb => (by rw [far_at] at hb; cases hb), fun b hb => h.new b (Nat.le_trans hn hb)⟩, hb.os, hb.tape, hb.output, hb.size, hn, fun _ _ => rfl, fun B hB _ => hb.block B hB, fun b o r hb => (by rw [far_at] at hb; cases hb)⟩
theorem rowA_inv {A : Asks} {l : List Value} {s : St} {K : KV} (h : rowA A l s K = true) : ∃ b c, l = [.agg ⟨[.int .u64 b, .int .u8 c]⟩, .int .i64 1, .int .i64 64] ∧ s.nx ≤ 1000000000 ∧ rowE A b c K = true := by
  unfold rowA at h
  match l, h with
  | [x, a, b], h =>
    cases x with
    | agg cs =>
      obtain ⟨cl⟩ := cs
      match cl, h with
      | [y, z], h =>
        cases y with
        | int k bits =>
          cases k with
          | u64 =>
            cases z with
            | int k c =>
              cases k with
              | u8 =>
                cases a with
                | int k p =>
                  cases k with
                  | i64 =>
                    cases b with
                    | int k q =>
                      cases k with
                      | i64 =>
                        obtain ⟨h0, hr⟩ := cond_inv h
                        obtain ⟨h0, hnx⟩ := and_true h0
                        obtain ⟨hp, hq⟩ := and_true h0
                        rw [iEq_eq] at hp hq
                        have hp := of_decide_eq_true hp
                        have hq := of_decide_eq_true hq
                        subst hp hq
                        exact ⟨bits, c, rfl, ble_true hnx, hr⟩
                      | _ => cases h
                    | _ => cases h
                  | _ => cases h
                | _ => cases h
              | _ => cases h
            | _ => cases h
          | _ => cases h
        | _ => cases h
    | _ => cases h
theorem rowE_inv {w0 : ByteArray} {b c : Int} {K : KV} (h : rowE (asks w0) b c K = true) : ∃ q : Nat, c = .ofNat q ∧ q < 256 ∧ ∃ a, 1000000000 ≤ a ∧ K (.string (mkR (q % 64 + 1) b)) (St.far a) = true := by
  unfold rowE at h
  cases ha : (asks w0).a b c with
  | true =>
    rw [ha] at h
    obtain ⟨h1, h2, h3, _⟩ := yes_p ha
    obtain ⟨q, rfl⟩ := Int.eq_ofNat_of_zero_le h1
    have h3 : mkR (q % 64 + 1) b = w0 := h3
    refine ⟨q, rfl, by omega, _, Nat.le_refl _, ?_⟩
    rw [h3]; exact h
  | false =>
    rw [ha] at h
    obtain ⟨hb, h⟩ := cond_inv (show (bif (asks w0).b b c then _ else false) = true from h)
    obtain ⟨h1, h2, h3⟩ := yes_p hb
    obtain ⟨q, rfl⟩ := Int.eq_ofNat_of_zero_le h1
    have hs : (res b (q : Int)).size = q % 64 + 1 := size_mkR _ _
    obtain ⟨n, hn, hle, _⟩ := h3
    rw [hs] at hle
    have hm : q % 64 < 32 := by
      have : 2 ^ n ≤ 2 ^ 5 := Nat.pow_le_pow_right (by decide) (by omega)
      omega
    have hk := allU_all h (q % 64) hm
    rw [show (asks w0).m (q % 64) b (q : Int) = true from yes_t rfl] at hk
    exact ⟨q, rfl, by omega, _, by decide, hk⟩
theorem clrA_inv {w0 : ByteArray} {l : List Value} {s : St} {K : KV} (h : clrA (asks w0) l s K = true) : ∃ w, l = [.string w] ∧ good w ∧ K (den (clV w)) s = true := by
  unfold clrA at h
  match l, h with
  | [x], h =>
    cases x with
    | string w =>
      refine ⟨w, rfl, ?_⟩
      cases hn : Nat.ble 2000000000 s.nx with
      | true =>
        rw [hn] at h
        obtain ⟨h1, h⟩ := cond_inv (show (bif (asks w0).b2 w then _ else false) = true from h)
        obtain ⟨hg, n, hn, hle, hc⟩ := yes_p h1
        have hk := allU_all h n hn
        rw [show Nat.ble w.size (Nat.pow 2 n) = true from Nat.ble_eq_true_of_le hle] at hk
        rw [hc]
        exact ⟨hg, hk⟩
      | false =>
        rw [hn] at h
        obtain ⟨h1, h⟩ := cond_inv (show (bif (asks w0).a2 w then _ else false) = true from h)
        obtain ⟨h2, h3⟩ := cond_inv h
        obtain ⟨hg, hl⟩ := yes_p h1
        refine ⟨hg, ?_⟩
        rcases hl with hc | ⟨n, hn, hc⟩
        · rw [hc]; exact h2
        · rw [hc]; exact allU_all h3 n hn
    | _ => cases h
theorem VsR.one_inv {ρ : Ren} {a : Value} {L : List Value} (h : VsR ρ [a] L) (hp : pureC 4 a = true) : L = [a] := pureC_eqs 4 h fun v hv => by rw [List.mem_singleton.1 hv]; exact hp
theorem extR_ok (w0 : ByteArray) (call : CallT) (hc : CallOK Try.prog call) : CallOK Try.prog (extR (asks w0) call) := by
  intro v args K s h ρ V Args W hv ha hsr
  unfold extR at h
  cases v with
  | func fnv first captured =>
    cases fnv with
    | func g =>
      have key : ∀ (fn : Func), Try.prog.funcs[g]? = some fn → fn.body.isNone = false →
          (∀ F C : List Value, VsR ρ first.toList F → VsR ρ captured.toList C → Calls Try.prog g ⟨F ++ Args ++ C⟩ W fun e W' => ∃ X, e = .returned X ∧ Post Try.prog ρ s W K X W') →
          ∃ d, (Deferred.ofValue V ⟨Args⟩).run Try.prog W = .ok d W ∧
            ((∃ g as1, (invoke d.target d.args).run Try.prog W = .ok (.enter g as1) W ∧ ∀ r m, CallsIn (WF r) m Try.prog g as1 W fun e W' => ∃ X, e = .returned X ∧ Post Try.prog ρ s W K X W') ∨
             (isFn (.func (.func g) first captured) = false ∧ ∃ l fn tmps asg body, (invoke d.target d.args).run Try.prog W = .ok (.round l fn tmps asg body) W ∧ ∀ r m, RoundIn (WF r) m Try.prog l fn tmps asg body W fun e W' => ∃ X, e = .returned X ∧ Post Try.prog ρ s W K X W')) := by
        intro fn hf hb hcl
        obtain ⟨first⟩ := first
        obtain ⟨captured⟩ := captured
        cases hv with
        | func hfn hf' hc' =>
          rename_i fn' F C
          have hfn : fn' = .func g := hfn
          subst hfn
          refine ⟨{ target := .fn (.func g) ⟨C⟩, args := (⟨F⟩ : Array Value) ++ ⟨Args⟩ }, rfl, .inl ⟨g, ⟨F ++ Args ++ C⟩, ?_, fun r m => ?_⟩⟩
          · have hnn : (fn.name == "runtime.NumGoroutine") = false := by simpa using name_ok g fn hf
            have e1 : (⟨F⟩ : Array Value) ++ (⟨Args⟩ : Array Value) ++ (⟨C⟩ : Array Value) = ⟨F ++ Args ++ C⟩ := by simp
            simp only [invoke, callFunc, Sem.run_bind, run_program, Result.andThen_ok, hf, hnn, hb, Bool.false_eq_true, if_false, Sem.run_pure, e1]
          · show CallsIn Fence.wide m Try.prog g _ W _
            exact callsIn_wide.2 (hcl F C hf' hc')
      simp only at h
      cases hg : Nat.beq g 33 with
      | true =>
        rw [hg] at h
        have hg := beq_true hg
        subst hg
        simp only [cond_true] at h
        obtain ⟨b, c, he, hnx, hE⟩ := rowA_inv h
        obtain ⟨q, rfl, hq, a, hna, hK⟩ := rowE_inv hE
        refine key _ Try.func33 (by kernel_rfl) fun F C hF hC => ?_
        have hL := (hF.append ha).append hC
        rw [he] at hL
        rw [pureC_eqs 4 hL (fun x hx => by
          simp only [List.mem_cons, List.not_mem_nil, or_false] at hx
          rcases hx with rfl | rfl | rfl <;> rfl)]
        exact (calls_row b q hq W).mono fun e W' ⟨g1, g2⟩ => ⟨_, g1, ρ, _, St.far a, Stp.far hsr g2 (Nat.le_trans hnx hna), .string _, hK⟩
      | false =>
        rw [hg] at h
        simp only [cond_false] at h
        cases hg2 : Nat.beq g 19 && Nat.ble 1000000000 s.nx with
        | false => rw [hg2] at h; exact hc _ _ _ _ h ρ V Args W hv ha hsr
        | true =>
          rw [hg2] at h
          have hg2 := beq_true (and_true hg2).1
          subst hg2
          simp only [cond_true] at h
          obtain ⟨w, he, ⟨hw, h0, h64⟩, hK⟩ := clrA_inv h
          refine key _ Try.func19 (by kernel_rfl) fun F C hF hC => ?_
          have hL := (hF.append ha).append hC
          rw [he] at hL
          rw [pureC_eqs 4 hL (fun x hx => by rw [List.mem_singleton.1 hx]; rfl)]
          refine (calls_clear w hw h0 h64 W).mono fun e W' ⟨g1, g2⟩ => ?_
          have hp : pureC 4 (den (clV w)) = true := by unfold clV; split <;> rfl
          exact ⟨_, g1, ρ, _, s, .of_below hsr g2, pureC_VR _ 4 _ hp, hK⟩
    | _ => exact hc _ _ _ _ h ρ V Args W hv ha hsr
  | _ => exact hc _ _ _ _ h ρ V Args W hv ha hsr
theorem ext2_ok (w0 : ByteArray) (call : CallT) (hc : CallOK Try.prog call) : CallOK Try.prog (ext2 (asks w0) call) := extR_ok w0 _ (ext1_ok call hc)
theorem cnd_t (x y : Bool) : cnd true x y = x := rfl
theorem cnd_f (x y : Bool) : cnd false x y = y := rfl
theorem allV_of {p : Nat → Bool} : ∀ {n : Nat}, (∀ q, q < n → p q = true) → allV n p = true
  | 0, _ => rfl
  | n + 1, h => by
    show cnd (p n) (allV n p) false = true
    rw [h n (by omega)]
    exact allV_of fun q hq => h q (by omega)
theorem ends_t (b : Int) (c : Nat) (hc : c < 256) : ends (asks (res b (c : Int))) b (.ofNat c) = true := by
  have hg := good_res b (c : Int)
  have h0 : (0 : Int) ≤ (c : Int) := Int.natCast_nonneg c
  have h1 : (c : Int) < 256 := by omega
  show cnd (yes (0 ≤ (c : Int) ∧ (c : Int) < 256 ∧ res b (c : Int) = res b (c : Int) ∧ late (res b (c : Int)))) (cnd (yes (good (res b (c : Int)) ∧ late (res b (c : Int)))) true false)
    (cnd (yes (0 ≤ (c : Int) ∧ (c : Int) < 256 ∧ soon (res b (c : Int)))) (allV 32 (fun m => cnd (yes (res b (c : Int) = mkR (m + 1) b)) (cnd (yes (good (mkR (m + 1) b) ∧ soon (mkR (m + 1) b))) true false) true)) false) = true
  by_cases hl : late (res b (c : Int))
  · have hA : yes (0 ≤ (c : Int) ∧ (c : Int) < 256 ∧ res b (c : Int) = res b (c : Int) ∧ late (res b (c : Int))) = true := yes_t ⟨h0, h1, rfl, hl⟩
    have hB : yes (good (res b (c : Int)) ∧ late (res b (c : Int))) = true := yes_t ⟨hg, hl⟩
    rw [hA, hB]; rfl
  · have hs : soon (res b (c : Int)) := (late_soon hg).resolve_left hl
    have hA : yes (0 ≤ (c : Int) ∧ (c : Int) < 256 ∧ res b (c : Int) = res b (c : Int) ∧ late (res b (c : Int))) = false := yes_f fun h => hl h.2.2.2
    have hB : yes (0 ≤ (c : Int) ∧ (c : Int) < 256 ∧ soon (res b (c : Int))) = true := yes_t ⟨h0, h1, hs⟩
    rw [hA, hB, cnd_f, cnd_t]
    refine allV_of fun m hm => ?_
    by_cases he : res b (c : Int) = mkR (m + 1) b
    · rw [yes_t he, ← he]
      have hC : yes (good (res b (c : Int)) ∧ soon (res b (c : Int))) = true := yes_t ⟨hg, hs⟩
      rw [hC]; rfl
    · rw [yes_f he]; rfl
end Go.Proofs.Ytfcgfnlifdjfjaa
namespace Go.Proofs.Ytfcgfnlifdjfjaa
open Go.Ab Go.RowKit
theorem ring_run (q : Nat) (hq : q < 256) (b : Int) (c : Nat) (hc : c < 256) : argRun Try.prog (ext2 (asks (res b (c : Int)))) 9 [.int .u8 (Int.ofNat q), .agg ⟨[.int .u64 b, .int .u8 (.ofNat c)]⟩] = true := by
  refine Eq.trans ?_ (ends_t b c hc)
  have hr : q % 6 < 6 := Nat.mod_lt _ (by decide)
  generalize h : q % 6 = r at hr
  match r, hr with
  | 0, _ => exact law_0 _ b _ q hq h
  | 1, _ => exact law_1 _ b _ q hq h
  | 2, _ => exact law_2 _ b _ q hq h
  | 3, _ => exact law_3 _ b _ q hq h
  | 4, _ => exact law_4 _ b _ q hq h
  | 5, _ => exact law_5 _ b _ q hq h
  | r + 6, hr => exact absurd hr (by omega)
end Go.Proofs.Ytfcgfnlifdjfjaa
