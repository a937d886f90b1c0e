/- Swing: rows by numbers; they are answered by what is known of them. -/
import Derived.Test.YtfcgfnlifdjfjaaSwHp
import Derived.Test.YtfcgfnlifdjfjaaSwHq
import Derived.KernelRfl
namespace Go.Proofs.Ytfcgfnlifdjfjaa
open Go.Ab Go.RowKit
theorem row_all (b : Int) (c : Nat) (hc : c < 256) (K' : Value → Bool) : rowRun b c K' = K' (.string (mkR (c % 64 + 1) b)) := by
  have hr : c % 16 < 16 := Nat.mod_lt _ (by decide)
  have e : c = 16 * (c / 16) + c % 16 := by omega
  have ha : c / 16 < 16 := by omega
  generalize c / 16 = a at e ha
  generalize c % 16 = r at e hr
  subst e
  match a, ha with
  | 0, _ => exact rows_0 b r hr K'
  | 1, _ => exact rows_1 b r hr K'
  | 2, _ => exact rows_2 b r hr K'
  | 3, _ => exact rows_3 b r hr K'
  | 4, _ => exact rows_4 b r hr K'
  | 5, _ => exact rows_5 b r hr K'
  | 6, _ => exact rows_6 b r hr K'
  | 7, _ => exact rows_7 b r hr K'
  | 8, _ => exact rows_8 b r hr K'
  | 9, _ => exact rows_9 b r hr K'
  | 10, _ => exact rows_10 b r hr K'
  | 11, _ => exact rows_11 b r hr K'
  | 12, _ => exact rows_12 b r hr K'
  | 13, _ => exact rows_13 b r hr K'
  | 14, _ => exact rows_14 b r hr K'
  | 15, _ => exact rows_15 b r hr K'
  | a + 16, ha => exact absurd ha (by omega)
theorem and_1 (x : Int) : andI .u64 x 1 = 0 ∨ andI .u64 x 1 = 1 := by
  unfold andI
  have h : (BitVec.ofInt IntKind.u64.bits x &&& BitVec.ofInt IntKind.u64.bits 1).toNat ≤ 1 := by
    rw [BitVec.toNat_and]
    exact Nat.le_trans Nat.and_le_right (by decide)
  generalize (BitVec.ofInt IntKind.u64.bits x &&& BitVec.ofInt IntKind.u64.bits 1).toNat = n at h
  have : n = 0 ∨ n = 1 := by omega
  rcases this with rfl | rfl
  · exact .inl (by decide)
  · exact .inr (by decide)
theorem byt_ok (b : Int) (i : Nat) : UInt8.ofNat (bytI b i).toNat = 48 ∨ UInt8.ofNat (bytI b i).toNat = 49 := by
  unfold bytI anB
  rcases and_1 (shrV .u64 b i) with h | h <;> rw [h]
  · exact .inl (by decide)
  · exact .inr (by decide)
theorem marks_l (b : Int) : ∀ (n i : Nat) (x : UInt8), x ∈ bytesU8 (intsM b n i) → x = 48 ∨ x = 49
  | 0, i, x, h => by cases h
  | n + 1, i, x, h => by
    simp only [intsM, bytesU8, List.mem_cons] at h
    rcases h with rfl | h
    · exact byt_ok b i
    · exact marks_l b n (i + 1) x h
theorem len_l (b : Int) : ∀ (n i : Nat), (bytesU8 (intsM b n i)).length = n
  | 0, i => rfl
  | n + 1, i => by simp only [intsM, bytesU8, List.length_cons, len_l b n (i + 1)]
theorem marks_mkR (m : Nat) (b : Int) : marks (mkR m b) := fun x hx => marks_l b m 0 x hx
theorem size_mkR (m : Nat) (b : Int) : (mkR m b).size = m := len_l b m 0
set_option maxRecDepth 100000 in
theorem calls_row (b : Int) (c : Nat) (hc : c < 256) (W : World) : Calls Try.prog 33 #[.agg ⟨[.int .u64 b, .int .u8 (.ofNat c)]⟩, .int .i64 1, .int .i64 64] W fun e W' => e = .returned (.string (mkR (c % 64 + 1) b)) ∧ Below W.heap.size W W' :=
  calls_pure draws name_ok ext1_ok (F := 1000) (D := 3) rfl (fun x hx => by
    simp only [List.mem_cons, List.not_mem_nil, or_false] at hx
    rcases hx with rfl | rfl | rfl <;> rfl) (fun K' => row_all b c hc K') W
end Go.Proofs.Ytfcgfnlifdjfjaa
namespace Go.Proofs.Ytfcgfnlifdjfjaa
open Go.Ab Go.RowKit
def rowQ (l : List Value) (s : St) (K : KV) : Bool := match l with
  | [x, a, b] => match x with
    | .agg cs => match cs with
      | ⟨cl⟩ => match cl with
        | [y, z] => match y with
          | .int k bits => match k with
            | .u64 => match z with
              | .int k c => match k with
                | .u8 => match a with
                  | .int k p => match k with
                    | .i64 => match b with
                      | .int k q => match k with
                        | .i64 => bif iEq p 1 && iEq q 64 && decide (0 ≤ c ∧ c < 256) then K (.string (mkR (c.toNat % 64 + 1) bits)) s else false
                        | _ => false
                      | _ => false
                    | _ => false
                  | _ => false
                | _ => false
              | _ => false
            | _ => false
          | _ => false
        | _ => false
    | _ => false
  | _ => false
def extQ (call : CallT) : CallT := fun v args K s => match v with
  | .func fn first captured => match fn with
    | .func g => bif Nat.beq g 33 then rowQ (first.toList ++ args ++ captured.toList) s K else call v args K s
    | _ => call v args K s
  | _ => call v args K s
def libS : LibT := ⟨[33, 80, 54], fun call => extQ ((libL 80 54).ext call), fun g hg call a b args K s => by
    obtain ⟨h1, hg⟩ := memF_cons hg
    unfold extQ
    simp only [h1, cond_false]
    exact (libL 80 54).out g hg call a b args K s, fun _ _ _ _ _ _ _ => rfl⟩
theorem rowQ_inv {l : List Value} {s : St} {K : KV} (h : rowQ l s K = true) : ∃ b c, l = [.agg ⟨[.int .u64 b, .int .u8 c]⟩, .int .i64 1, .int .i64 64] ∧ (0 ≤ c ∧ c < 256) ∧ K (.string (mkR (c.toNat % 64 + 1) b)) s = true := by
  unfold rowQ at h
  match l, h with
  | [x, a, b], h =>
    cases x with
    | agg cs =>
      obtain ⟨cl⟩ := cs
      match cl, h with
      | [y, z], h =>
        cases y with
        | int k bits =>
          cases k with
          | u64 =>
            cases z with
            | int k c =>
              cases k with
              | u8 =>
                cases a with
                | int k p =>
                  cases k with
                  | i64 =>
                    cases b with
                    | int k q =>
                      cases k with
                      | i64 =>
                        obtain ⟨h0, hr⟩ := cond_inv h
                        obtain ⟨h0, hc⟩ := and_true h0
                        obtain ⟨hp, hq⟩ := and_true h0
                        rw [iEq_eq] at hp hq
                        have hp := of_decide_eq_true hp
                        have hq := of_decide_eq_true hq
                        subst hp hq
                        exact ⟨bits, c, rfl, of_decide_eq_true hc, hr⟩
                      | _ => cases h
                    | _ => cases h
                  | _ => cases h
                | _ => cases h
              | _ => cases h
            | _ => cases h
          | _ => cases h
        | _ => cases h
    | _ => cases h
theorem extQ_ok (call : CallT) (hc : CallOK Try.prog call) : CallOK Try.prog (extQ call) := by
  intro v args K s h ρ V Args W hv ha hsr
  unfold extQ at h
  cases v with
  | func fnv first captured =>
    cases fnv with
    | func g =>
      simp only at h
      cases hg : Nat.beq g 33 with
      | false => rw [hg] at h; exact hc _ _ _ _ h ρ V Args W hv ha hsr
      | true =>
        rw [hg] at h
        have hg := beq_true hg
        subst hg
        simp only [cond_true] at h
        obtain ⟨b, c, he, ⟨hc0, hc1⟩, hK⟩ := rowQ_inv h
        obtain ⟨q, rfl⟩ := Int.eq_ofNat_of_zero_le hc0
        obtain ⟨first⟩ := first
        obtain ⟨captured⟩ := captured
        cases hv with
        | func hfn hf' hc' =>
          rename_i fn' F C
          have hfn : fn' = .func 33 := hfn
          subst hfn
          have hL := (hf'.append ha).append hc'
          rw [show first ++ args ++ captured = _ from he] at hL
          have hL := pureC_eqs 4 hL (fun x hx => by
            simp only [List.mem_cons, List.not_mem_nil, or_false] at hx
            rcases hx with rfl | rfl | rfl <;> rfl)
          have hf := Try.func33
          refine ⟨{ target := .fn (.func 33) ⟨C⟩, args := (⟨F⟩ : Array Value) ++ ⟨Args⟩ }, rfl, .inl ⟨33, ⟨F ++ Args ++ C⟩, ?_, fun r m => ?_⟩⟩
          · have hb : Try.f33.body.isNone = false := by kernel_rfl
            have hnn : (Try.f33.name == "runtime.NumGoroutine") = false := by simpa using name_ok 33 _ hf
            have e1 : (⟨F⟩ : Array Value) ++ (⟨Args⟩ : Array Value) ++ (⟨C⟩ : Array Value) = ⟨F ++ Args ++ C⟩ := by simp
            simp only [invoke, callFunc, Sem.run_bind, run_program, Result.andThen_ok, hf, hnn, hb, Bool.false_eq_true, if_false, Sem.run_pure, e1]
          · show CallsIn Fence.wide m Try.prog 33 _ W _
            rw [hL]
            exact callsIn_wide.2 ((calls_row b q (by omega) W).mono fun e W' ⟨g1, g2⟩ => ⟨_, g1, ρ, _, s, .of_below hsr g2, .string _, hK⟩)
    | _ => exact hc _ _ _ _ h ρ V Args W hv ha hsr
  | _ => exact hc _ _ _ _ h ρ V Args W hv ha hsr
theorem extS_ok (call : CallT) (h : CallOK Try.prog call) : CallOK Try.prog (extX libS 14 call) :=
  extQ_ok _ (extL_ok name_ok lib_ok _ (extK_ok name_ok Try.func14 (by kernel_rfl) returns_works call h))
end Go.Proofs.Ytfcgfnlifdjfjaa
