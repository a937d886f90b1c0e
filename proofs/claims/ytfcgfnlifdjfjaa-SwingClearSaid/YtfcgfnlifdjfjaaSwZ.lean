/- SwingClear: differ, windows, the law. -/
import Derived.Test.YtfcgfnlifdjfjaaSwX
import Derived.KernelRfl
import Derived.Test.YtfcgfnlifdjfjaaSwY
namespace Go.Proofs.Ytfcgfnlifdjfjaa
open Go.Ab
attribute [local irreducible] aggOk drwOK
set_option maxRecDepth 100000
set_option maxHeartbeats 4000000
set_option linter.unusedVariables false
set_option linter.unusedSimpArgs false
/-- rows met so far -/
def FX (x : Nat → ByteArray) (k : Nat) (a : Nat) : Option SV := bif (List.range k).any (fun q => Nat.beq (en (x q)) a) then some (.bool true) else none
theorem FX_upd (x : Nat → ByteArray) (k : Nat) : updM (FX x k) (en (x k)) (.bool true) = FX x (k + 1) := by
  funext a
  unfold updM FX
  rw [List.range_succ, List.any_append]
  cases h : Nat.beq a (en (x k)) with
  | true =>
    have := beq_true h
    subst this
    simp
  | false =>
    have h2 := beq_symm h
    simp [h2]
theorem FX_ne {x : Nat → ByteArray} {k a : Nat} : FX x k a ≠ none ↔ ∃ q, q < k ∧ en (x q) = a := by
  unfold FX
  constructor
  · intro h
    cases hb : (List.range k).any (fun q => Nat.beq (en (x q)) a) with
    | false => rw [hb] at h; exact absurd rfl h
    | true =>
      obtain ⟨q, hq, he⟩ := List.any_eq_true.1 hb
      exact ⟨q, List.mem_range.1 hq, beq_true he⟩
  · rintro ⟨q, hq, rfl⟩
    rw [show (List.range k).any (fun q' => Nat.beq (en (x q')) (en (x q))) = true from List.any_eq_true.2 ⟨q, List.mem_range.2 hq, Nat.beq_refl _⟩]
    simp
open Classical in
/-- the different rows, as numbers -/
noncomputable def LX (x : Nat → ByteArray) : Nat → List Nat
  | 0 => []
  | k + 1 => if en (x k) ∈ LX x k then LX x k else en (x k) :: LX x k
theorem LX_mem {x : Nat → ByteArray} : ∀ {k a : Nat}, a ∈ LX x k ↔ ∃ q, q < k ∧ en (x q) = a
  | 0, a => by simp [LX]
  | k + 1, a => by
    have ih := LX_mem (x := x) (k := k) (a := a)
    have step : (∃ q, q < k + 1 ∧ en (x q) = a) ↔ (en (x k) = a ∨ ∃ q, q < k ∧ en (x q) = a) := by
      constructor
      · rintro ⟨q, hq, he⟩
        by_cases e : q = k
        · subst e; exact .inl he
        · exact .inr ⟨q, by omega, he⟩
      · rintro (he | ⟨q, hq, he⟩)
        · exact ⟨k, by omega, he⟩
        · exact ⟨q, by omega, he⟩
    rw [step, ← ih, LX]
    by_cases h : en (x k) ∈ LX x k
    · rw [if_pos h]
      exact ⟨.inr, fun h2 => h2.elim (fun e => e ▸ h) id⟩
    · rw [if_neg h, List.mem_cons]
      exact ⟨fun h2 => h2.imp Eq.symm id, fun h2 => h2.imp Eq.symm id⟩
theorem LX_nodup (x : Nat → ByteArray) : ∀ k, (LX x k).Nodup
  | 0 => List.nodup_nil
  | k + 1 => by
    rw [LX]
    by_cases h : en (x k) ∈ LX x k
    · rw [if_pos h]; exact LX_nodup x k
    · rw [if_neg h]; exact List.nodup_cons.2 ⟨h, LX_nodup x k⟩
theorem LX_le (x : Nat → ByteArray) : ∀ k, (LX x k).length ≤ k
  | 0 => Nat.le_refl _
  | k + 1 => by
    have := LX_le x k
    rw [LX]
    by_cases h : en (x k) ∈ LX x k
    · rw [if_pos h]; omega
    · rw [if_neg h, List.length_cons]; omega
theorem len_le : ∀ {L M : List Nat}, L.Nodup → (∀ a, a ∈ L → a ∈ M) → L.length ≤ M.length
  | [], _, _, _ => Nat.zero_le _
  | a :: L, M, hn, h => by
    obtain ⟨h1, h2⟩ := List.nodup_cons.1 hn
    have ha := h a (by simp)
    have h3 := len_le (L := L) (M := M.erase a) h2 fun b hb => (List.mem_erase_of_ne (fun e => h1 (by rw [← e]; exact hb))).2 (h b (by simp [hb]))
    rw [List.length_erase_of_mem ha] at h3
    have : 0 < M.length := List.length_pos_of_mem ha
    rw [List.length_cons]; omega
/-- whether rows differ -/
def dfX (x : Nat → ByteArray) (n : Nat) : Bool := decide (∀ q, q < n → ∀ p, p < q → x p ≠ x q)
theorem LX_df (x : Nat → ByteArray) : ∀ n, (LX x n).length = n ↔ ∀ q, q < n → ∀ p, p < q → x p ≠ x q
  | 0 => ⟨fun _ q hq => absurd hq (Nat.not_lt_zero _), fun _ => rfl⟩
  | n + 1 => by
    have ih := LX_df x n
    have hle := LX_le x n
    rw [LX]
    by_cases h : en (x n) ∈ LX x n
    · rw [if_pos h]
      obtain ⟨q, hq, he⟩ := LX_mem.1 h
      exact ⟨fun h2 => by omega, fun h2 => absurd (en_inj he) (h2 n (by omega) q hq)⟩
    · rw [if_neg h, List.length_cons]
      constructor
      · intro h2 q hq p hp
        by_cases e : q = n
        · subst e; exact fun he => h (LX_mem.2 ⟨p, hp, by rw [he]⟩)
        · exact ih.1 (by omega) q (by omega) p hp
      · intro h2
        rw [ih.2 fun q hq p hp => h2 q (by omega) p hp]
theorem LX_len {x : Nat → ByteArray} {n : Nat} : ∀ L : List Nat, L.Nodup → (∀ a, a ∈ L ↔ FX x n a ≠ none) → L.length = (LX x n).length := fun L hL h =>
  Nat.le_antisymm (len_le hL fun a ha => LX_mem.2 (FX_ne.1 ((h a).1 ha))) (len_le (LX_nodup x n) fun a ha => (h a).2 (FX_ne.2 (LX_mem.1 ha)))
theorem c36 (F d : Nat) (hF : 200 < F) (a : Option Addr) (n e c : Nat) (hn : n ≤ 150) (x : Nat → ByteArray) : ReadC (CL F (d + 1)) 36 [.sl 1000 a n c] [(1000, .ro a n e 1 (fun j => [.val (.string (x j))]))] (20000 + 200) (.bool (dfX x n)) := by
  intro R
  rw [show 20000 + 200 = (20000) + 200 from rfl, addL_eq, ← Nat.add_assoc, ← addL_eq _ 200, Nat.add_comm R (20000)]
  refine call_in (n := 21) Try.func36 rfl rfl rfl rfl rfl rfl rfl ?_
  repeat' ((conv => whnf); first | refine eqS_rfl ?_ | refine eqA_rfl ?_ | refine eqA_of (by assumption) ?_ | refine eqS_of (by rfl) ?_ | refine eqL_rfl ?_ | refine eqJ_rfl ?_ | refine gE ?_ | refine seS_rfl ?_ | refine lsS_of hup ?_ | refine lsS_rfl ?_ | refine brS_tt ?_ | refine brS_ff ?_ | refine brS_not ?_ | refine gI ?_ | refine gT ?_ | refine gF ?_ | refine brS_intro (fun _ => ?_) (fun _ => ?_) | refine gL ?_ | refine gX ?_ | refine gO ?_ | refine gN ?_ | intro _)
  rename_i bm
  conv => whnf
  refine loS_i (fun jj f mm R' ni => ∃ (j : Nat) (kv : Nat → SV), j ≤ n ∧ (j ≠ 0 → kv = kvS) ∧ jj = n - j + 1 ∧ f = [(0, .sl 1000 a n c), (3, .mpv 0 bm), (7, .sl 1000 a n c), (8, .int .i64 (Int.ofNat n)), (9, .int .i64 (Int.ofNat j))] ∧ mm = [(0, .mp bm kv (FX x j)), (1000, .ro a n e 1 (fun j => [.val (.string (x j))]))] ∧ R' = (addL (60 * (n - j) + R) 60) ∧ ni = 10) (n + 1) (by omega)
    ⟨[(0, .sl 1000 a n c), (3, .mpv 0 bm), (7, .sl 1000 a n c), (8, .int .i64 (Int.ofNat n)), (9, .int .i64 (Int.ofNat 0))], [(0, .mp bm jkM noM), (1000, .ro a n e 1 (fun j => [.val (.string (x j))]))], (addL (60 * (n - 0) + R) 60), 10, ⟨eqF_rfl _, eqF_rfl _, eqF_rfl _, eqF_rfl _, eqF_rfl _, trivial⟩, WS, nM1, 0, jkM, by omega, fun h => absurd rfl h, by omega, rfl, rfl, rfl, rfl⟩ ?_
  rintro _ _ _ _ _ ⟨j, kv, hj, hkv, rfl, rfl, rfl, rfl, rfl⟩
  by_cases hlt : j < n
  · have d1 := iLt_t hlt
    have hb : 60 * (n - j) = 60 * (n - (j + 1)) + 60 := by omega
    have hup := FX_upd x j
    rcases Nat.eq_zero_or_pos j with rfl | hj0
    · skip
      repeat' ((conv => whnf); first | refine eqS_rfl ?_ | refine eqA_rfl ?_ | refine eqA_of (by assumption) ?_ | refine eqS_of (by rfl) ?_ | refine eqL_rfl ?_ | refine eqJ_rfl ?_ | refine gE ?_ | refine seS_rfl ?_ | refine lsS_of hup ?_ | refine lsS_rfl ?_ | refine brS_tt ?_ | refine brS_ff ?_ | refine brS_not ?_ | refine gI ?_ | refine gT ?_ | refine gF ?_ | refine brS_intro (fun _ => ?_) (fun _ => ?_) | refine gL ?_ | refine gX ?_ | refine gO ?_ | refine gN ?_ | refine gM ?_ | refine gY ?_ | refine kyS_new kvS (en (x 0)) (fun _ => rfl) (keyS _ rfl) (kvS_en _) ?_ | intro _)
      conv => whnf
      have hup0 : updM (fun x => none) (en (x 0)) (.bool true) = FX x (0 + 1) := FX_upd x 0
      exact ⟨n - (0 + 1) + 1, [(0, .sl 1000 a n c), (3, .mpv 0 bm), (7, .sl 1000 a n c), (8, .int .i64 (Int.ofNat n)), (9, .int .i64 (Int.ofNat (0 + 1)))], [(0, .mp bm kvS (FX x (0 + 1))), (1000, .ro a n e 1 (fun j => [.val (.string (x j))]))], (addL (60 * (n - (0 + 1)) + R) 60), 10, by omega, ⟨eqF_rfl _, eqF_rfl _, eqF_rfl _, eqF_rfl _, ⟨congrArg (Value.int .i64) (smn (i := 0 + 1) (by omega)), rfl⟩, trivial⟩, by rw [← hup0]; exact WS, nM1, 0 + 1, kvS, by omega, fun _ => rfl, rfl, rfl, rfl, rfl, rfl⟩
    · have e := hkv (by omega)
      subst e
      repeat' ((conv => whnf); first | refine eqS_rfl ?_ | refine eqA_rfl ?_ | refine eqA_of (by assumption) ?_ | refine eqS_of (by rfl) ?_ | refine eqL_rfl ?_ | refine eqJ_rfl ?_ | refine gE ?_ | refine seS_rfl ?_ | refine lsS_of hup ?_ | refine lsS_rfl ?_ | refine brS_tt ?_ | refine brS_ff ?_ | refine brS_not ?_ | refine gI ?_ | refine gT ?_ | refine gF ?_ | refine brS_intro (fun _ => ?_) (fun _ => ?_) | refine gL ?_ | refine gX ?_ | refine gO ?_ | refine gN ?_ | refine gM ?_ | refine gY ?_ | refine kyS_of (en (x j)) (keyS _ rfl) (kvS_en _) ?_ | intro _)
      conv => whnf
      exact ⟨n - (j + 1) + 1, [(0, .sl 1000 a n c), (3, .mpv 0 bm), (7, .sl 1000 a n c), (8, .int .i64 (Int.ofNat n)), (9, .int .i64 (Int.ofNat (j + 1)))], [(0, .mp bm kvS (FX x (j + 1))), (1000, .ro a n e 1 (fun j => [.val (.string (x j))]))], (addL (60 * (n - (j + 1)) + R) 60), 10, by omega, ⟨eqF_rfl _, eqF_rfl _, eqF_rfl _, eqF_rfl _, ⟨congrArg (Value.int .i64) (smn (i := j + 1) (by omega)), rfl⟩, trivial⟩, by rw [← hup]; exact WS, nM1, j + 1, kvS, by omega, fun _ => rfl, rfl, rfl, rfl, rfl, rfl⟩
  · have e2 : j = n := by omega
    subst e2
    have d1 := iLt_f (Nat.le_refl j)
    repeat' ((conv => whnf); first | refine eqS_rfl ?_ | refine eqA_rfl ?_ | refine eqA_of (by assumption) ?_ | refine eqS_of (by rfl) ?_ | refine eqL_rfl ?_ | refine eqJ_rfl ?_ | refine gE ?_ | refine seS_rfl ?_ | refine lsS_of hup ?_ | refine lsS_rfl ?_ | refine brS_tt ?_ | refine brS_ff ?_ | refine brS_not ?_ | refine gI ?_ | refine gT ?_ | refine gF ?_ | refine brS_intro (fun _ => ?_) (fun _ => ?_) | refine gL ?_ | refine gX ?_ | refine gO ?_ | refine gN ?_ | refine lnS_of (LX x j).length LX_len ?_ | intro _)
    conv => whnf
    refine ⟨congrArg Value.bool ?_, nM1⟩
    rw [iEq_n]
    exact decide_eq_decide.2 (LX_df x j)
end Go.Proofs.Ytfcgfnlifdjfjaa
namespace Go.Proofs.Ytfcgfnlifdjfjaa
open Go.Ab
attribute [local irreducible] aggOk drwOK
set_option maxRecDepth 100000
set_option maxHeartbeats 4000000
set_option linter.unusedVariables false
set_option linter.unusedSimpArgs false
theorem WV {m m' : Mem} (h : WkM m m' := by refine Sel.wk ?_; (try simp only [List.cons_append, List.nil_append]); repeat' (first | exact Sel.nil | exact Sel.all | exact Sel.left | refine Sel.cons pH ?_ | refine Sel.cons (pT pH) ?_ | refine Sel.cons (pT (pT pH)) ?_ | refine Sel.cons (pT (pT (pT pH))) ?_ | refine Sel.cons (pT (pT (pT (pT pH)))) ?_ | refine Sel.cons (pT (pT (pT (pT (pT pH))))) ?_ | refine Sel.cons (pT (pT (pT (pT (pT (pT pH)))))) ?_ | refine Sel.cons (pT (pT (pT (pT (pT (pT (pT pH))))))) ?_ | refine Sel.cons (pT (pT (pT (pT (pT (pT (pT (pT pH)))))))) ?_ | refine Sel.cons (pT (pT (pT (pT (pT (pT (pT (pT (pT pH))))))))) ?_ | refine Sel.cons (pT (pT (pT (pT (pT (pT (pT (pT (pT (pT pH)))))))))) ?_ | refine Sel.cons (pT (pT (pT (pT (pT (pT (pT (pT (pT (pT (pT pH))))))))))) ?_ | refine Sel.cons (pT (pT (pT (pT (pT (pT (pT (pT (pT (pT (pT (pT pH)))))))))))) ?_ | refine Sel.cons (pT (pT (pT (pT (pT (pT (pT (pT (pT (pT (pT (pT (pT pH))))))))))))) ?_ | refine Sel.cons (pT (pT (pT (pT (pT (pT (pT (pT (pT (pT (pT (pT (pT (pT pH)))))))))))))) ?_ | refine Sel.cons (pT (pT (pT (pT (pT (pT (pT (pT (pT (pT (pT (pT (pT (pT (pT pH))))))))))))))) ?_ | refine Sel.consw pH ⟨rfl, rfl, rfl⟩ ?_ | refine Sel.consw (pT pH) ⟨rfl, rfl, rfl⟩ ?_ | refine Sel.consw (pT (pT pH)) ⟨rfl, rfl, rfl⟩ ?_ | refine Sel.consw (pT (pT (pT pH))) ⟨rfl, rfl, rfl⟩ ?_ | refine Sel.consw (pT (pT (pT (pT pH)))) ⟨rfl, rfl, rfl⟩ ?_ | refine Sel.consw (pT (pT (pT (pT (pT pH))))) ⟨rfl, rfl, rfl⟩ ?_ | refine Sel.consw (pT (pT (pT (pT (pT (pT pH)))))) ⟨rfl, rfl, rfl⟩ ?_ | refine Sel.consw (pT (pT (pT (pT (pT (pT (pT pH))))))) ⟨rfl, rfl, rfl⟩ ?_ | refine Sel.consw (pT (pT (pT (pT (pT (pT (pT (pT pH)))))))) ⟨rfl, rfl, rfl⟩ ?_ | refine Sel.consw (pT (pT (pT (pT (pT (pT (pT (pT (pT pH))))))))) ⟨rfl, rfl, rfl⟩ ?_ | refine Sel.consw (pT (pT (pT (pT (pT (pT (pT (pT (pT (pT pH)))))))))) ⟨rfl, rfl, rfl⟩ ?_ | refine Sel.consw (pT (pT (pT (pT (pT (pT (pT (pT (pT (pT (pT pH))))))))))) ⟨rfl, rfl, rfl⟩ ?_ | refine Sel.consw (pT (pT (pT (pT (pT (pT (pT (pT (pT (pT (pT (pT pH)))))))))))) ⟨rfl, rfl, rfl⟩ ?_ | refine Sel.consw (pT (pT (pT (pT (pT (pT (pT (pT (pT (pT (pT (pT (pT pH))))))))))))) ⟨rfl, rfl, rfl⟩ ?_ | refine Sel.consw (pT (pT (pT (pT (pT (pT (pT (pT (pT (pT (pT (pT (pT (pT pH)))))))))))))) ⟨rfl, rfl, rfl⟩ ?_ | refine Sel.consw (pT (pT (pT (pT (pT (pT (pT (pT (pT (pT (pT (pT (pT (pT (pT pH))))))))))))))) ⟨rfl, rfl, rfl⟩ ?_ | refine Sel.consw pH ⟨rfl, rfl, rfl, rfl, by assumption⟩ ?_ | refine Sel.consw (pT pH) ⟨rfl, rfl, rfl, rfl, by assumption⟩ ?_ | refine Sel.consw (pT (pT pH)) ⟨rfl, rfl, rfl, rfl, by assumption⟩ ?_ | refine Sel.consw (pT (pT (pT pH))) ⟨rfl, rfl, rfl, rfl, by assumption⟩ ?_ | refine Sel.consw (pT (pT (pT (pT pH)))) ⟨rfl, rfl, rfl, rfl, by assumption⟩ ?_ | refine Sel.consw (pT (pT (pT (pT (pT pH))))) ⟨rfl, rfl, rfl, rfl, by assumption⟩ ?_ | refine Sel.consw (pT (pT (pT (pT (pT (pT pH)))))) ⟨rfl, rfl, rfl, rfl, by assumption⟩ ?_ | refine Sel.consw (pT (pT (pT (pT (pT (pT (pT pH))))))) ⟨rfl, rfl, rfl, rfl, by assumption⟩ ?_ | refine Sel.consw (pT (pT (pT (pT (pT (pT (pT (pT pH)))))))) ⟨rfl, rfl, rfl, rfl, by assumption⟩ ?_ | refine Sel.consw (pT (pT (pT (pT (pT (pT (pT (pT (pT pH))))))))) ⟨rfl, rfl, rfl, rfl, by assumption⟩ ?_ | refine Sel.consw (pT (pT (pT (pT (pT (pT (pT (pT (pT (pT pH)))))))))) ⟨rfl, rfl, rfl, rfl, by assumption⟩ ?_ | refine Sel.consw (pT (pT (pT (pT (pT (pT (pT (pT (pT (pT (pT pH))))))))))) ⟨rfl, rfl, rfl, rfl, by assumption⟩ ?_ | refine Sel.consw (pT (pT (pT (pT (pT (pT (pT (pT (pT (pT (pT (pT pH)))))))))))) ⟨rfl, rfl, rfl, rfl, by assumption⟩ ?_ | refine Sel.consw (pT (pT (pT (pT (pT (pT (pT (pT (pT (pT (pT (pT (pT pH))))))))))))) ⟨rfl, rfl, rfl, rfl, by assumption⟩ ?_ | refine Sel.consw (pT (pT (pT (pT (pT (pT (pT (pT (pT (pT (pT (pT (pT (pT pH)))))))))))))) ⟨rfl, rfl, rfl, rfl, by assumption⟩ ?_ | refine Sel.consw (pT (pT (pT (pT (pT (pT (pT (pT (pT (pT (pT (pT (pT (pT (pT pH))))))))))))))) ⟨rfl, rfl, rfl, rfl, by assumption⟩ ?_ | refine Sel.consw pH ⟨rfl, rfl, rfl, .inl rfl, fun _ _ => rfl⟩ ?_ | refine Sel.consw (pT pH) ⟨rfl, rfl, rfl, .inl rfl, fun _ _ => rfl⟩ ?_ | refine Sel.consw (pT (pT pH)) ⟨rfl, rfl, rfl, .inl rfl, fun _ _ => rfl⟩ ?_ | refine Sel.consw (pT (pT (pT pH))) ⟨rfl, rfl, rfl, .inl rfl, fun _ _ => rfl⟩ ?_ | refine Sel.consw (pT (pT (pT (pT pH)))) ⟨rfl, rfl, rfl, .inl rfl, fun _ _ => rfl⟩ ?_ | refine Sel.consw (pT (pT (pT (pT (pT pH))))) ⟨rfl, rfl, rfl, .inl rfl, fun _ _ => rfl⟩ ?_ | refine Sel.consw (pT (pT (pT (pT (pT (pT pH)))))) ⟨rfl, rfl, rfl, .inl rfl, fun _ _ => rfl⟩ ?_ | refine Sel.consw (pT (pT (pT (pT (pT (pT (pT pH))))))) ⟨rfl, rfl, rfl, .inl rfl, fun _ _ => rfl⟩ ?_ | refine Sel.consw (pT (pT (pT (pT (pT (pT (pT (pT pH)))))))) ⟨rfl, rfl, rfl, .inl rfl, fun _ _ => rfl⟩ ?_ | refine Sel.consw (pT (pT (pT (pT (pT (pT (pT (pT (pT pH))))))))) ⟨rfl, rfl, rfl, .inl rfl, fun _ _ => rfl⟩ ?_ | refine Sel.consw (pT (pT (pT (pT (pT (pT (pT (pT (pT (pT pH)))))))))) ⟨rfl, rfl, rfl, .inl rfl, fun _ _ => rfl⟩ ?_ | refine Sel.consw (pT (pT (pT (pT (pT (pT (pT (pT (pT (pT (pT pH))))))))))) ⟨rfl, rfl, rfl, .inl rfl, fun _ _ => rfl⟩ ?_ | refine Sel.consw (pT (pT (pT (pT (pT (pT (pT (pT (pT (pT (pT (pT pH)))))))))))) ⟨rfl, rfl, rfl, .inl rfl, fun _ _ => rfl⟩ ?_ | refine Sel.consw (pT (pT (pT (pT (pT (pT (pT (pT (pT (pT (pT (pT (pT pH))))))))))))) ⟨rfl, rfl, rfl, .inl rfl, fun _ _ => rfl⟩ ?_ | refine Sel.consw (pT (pT (pT (pT (pT (pT (pT (pT (pT (pT (pT (pT (pT (pT pH)))))))))))))) ⟨rfl, rfl, rfl, .inl rfl, fun _ _ => rfl⟩ ?_ | refine Sel.consw (pT (pT (pT (pT (pT (pT (pT (pT (pT (pT (pT (pT (pT (pT (pT pH))))))))))))))) ⟨rfl, rfl, rfl, .inl rfl, fun _ _ => rfl⟩ ?_ | refine Sel.consw pH ⟨rfl, rfl, rfl, .inr rfl, fun _ _ => rfl⟩ ?_ | refine Sel.consw (pT pH) ⟨rfl, rfl, rfl, .inr rfl, fun _ _ => rfl⟩ ?_ | refine Sel.consw (pT (pT pH)) ⟨rfl, rfl, rfl, .inr rfl, fun _ _ => rfl⟩ ?_ | refine Sel.consw (pT (pT (pT pH))) ⟨rfl, rfl, rfl, .inr rfl, fun _ _ => rfl⟩ ?_ | refine Sel.consw (pT (pT (pT (pT pH)))) ⟨rfl, rfl, rfl, .inr rfl, fun _ _ => rfl⟩ ?_ | refine Sel.consw (pT (pT (pT (pT (pT pH))))) ⟨rfl, rfl, rfl, .inr rfl, fun _ _ => rfl⟩ ?_ | refine Sel.consw (pT (pT (pT (pT (pT (pT pH)))))) ⟨rfl, rfl, rfl, .inr rfl, fun _ _ => rfl⟩ ?_ | refine Sel.consw (pT (pT (pT (pT (pT (pT (pT pH))))))) ⟨rfl, rfl, rfl, .inr rfl, fun _ _ => rfl⟩ ?_ | refine Sel.consw (pT (pT (pT (pT (pT (pT (pT (pT pH)))))))) ⟨rfl, rfl, rfl, .inr rfl, fun _ _ => rfl⟩ ?_ | refine Sel.consw (pT (pT (pT (pT (pT (pT (pT (pT (pT pH))))))))) ⟨rfl, rfl, rfl, .inr rfl, fun _ _ => rfl⟩ ?_ | refine Sel.consw (pT (pT (pT (pT (pT (pT (pT (pT (pT (pT pH)))))))))) ⟨rfl, rfl, rfl, .inr rfl, fun _ _ => rfl⟩ ?_ | refine Sel.consw (pT (pT (pT (pT (pT (pT (pT (pT (pT (pT (pT pH))))))))))) ⟨rfl, rfl, rfl, .inr rfl, fun _ _ => rfl⟩ ?_ | refine Sel.consw (pT (pT (pT (pT (pT (pT (pT (pT (pT (pT (pT (pT pH)))))))))))) ⟨rfl, rfl, rfl, .inr rfl, fun _ _ => rfl⟩ ?_ | refine Sel.consw (pT (pT (pT (pT (pT (pT (pT (pT (pT (pT (pT (pT (pT pH))))))))))))) ⟨rfl, rfl, rfl, .inr rfl, fun _ _ => rfl⟩ ?_ | refine Sel.consw (pT (pT (pT (pT (pT (pT (pT (pT (pT (pT (pT (pT (pT (pT pH)))))))))))))) ⟨rfl, rfl, rfl, .inr rfl, fun _ _ => rfl⟩ ?_ | refine Sel.consw (pT (pT (pT (pT (pT (pT (pT (pT (pT (pT (pT (pT (pT (pT (pT pH))))))))))))))) ⟨rfl, rfl, rfl, .inr rfl, fun _ _ => rfl⟩ ?_ | refine Sel.consw pH ⟨rfl, .inl ⟨rfl, by assumption⟩⟩ ?_ | refine Sel.consw (pT pH) ⟨rfl, .inl ⟨rfl, by assumption⟩⟩ ?_ | refine Sel.consw (pT (pT pH)) ⟨rfl, .inl ⟨rfl, by assumption⟩⟩ ?_ | refine Sel.consw (pT (pT (pT pH))) ⟨rfl, .inl ⟨rfl, by assumption⟩⟩ ?_ | refine Sel.consw (pT (pT (pT (pT pH)))) ⟨rfl, .inl ⟨rfl, by assumption⟩⟩ ?_ | refine Sel.consw (pT (pT (pT (pT (pT pH))))) ⟨rfl, .inl ⟨rfl, by assumption⟩⟩ ?_ | refine Sel.consw (pT (pT (pT (pT (pT (pT pH)))))) ⟨rfl, .inl ⟨rfl, by assumption⟩⟩ ?_ | refine Sel.consw (pT (pT (pT (pT (pT (pT (pT pH))))))) ⟨rfl, .inl ⟨rfl, by assumption⟩⟩ ?_ | refine Sel.consw pH ⟨rfl, .inr ⟨fun _ => rfl, fun _ => rfl⟩⟩ ?_ | refine Sel.consw (pT pH) ⟨rfl, .inr ⟨fun _ => rfl, fun _ => rfl⟩⟩ ?_ | refine Sel.consw (pT (pT pH)) ⟨rfl, .inr ⟨fun _ => rfl, fun _ => rfl⟩⟩ ?_ | refine Sel.consw (pT (pT (pT pH))) ⟨rfl, .inr ⟨fun _ => rfl, fun _ => rfl⟩⟩ ?_ | refine Sel.consw (pT (pT (pT (pT pH)))) ⟨rfl, .inr ⟨fun _ => rfl, fun _ => rfl⟩⟩ ?_ | refine Sel.consw (pT (pT (pT (pT (pT pH))))) ⟨rfl, .inr ⟨fun _ => rfl, fun _ => rfl⟩⟩ ?_ | refine Sel.consw (pT (pT (pT (pT (pT (pT pH)))))) ⟨rfl, .inr ⟨fun _ => rfl, fun _ => rfl⟩⟩ ?_ | refine Sel.consw (pT (pT (pT (pT (pT (pT (pT pH))))))) ⟨rfl, .inr ⟨fun _ => rfl, fun _ => rfl⟩⟩ ?_ | refine Sel.snoc pH ?_ | refine Sel.snoc (pT pH) ?_ | refine Sel.snoc (pT (pT pH)) ?_ | refine Sel.snoc (pT (pT (pT pH))) ?_ | refine Sel.snoc (pT (pT (pT (pT pH)))) ?_ | refine Sel.snoc (pT (pT (pT (pT (pT pH))))) ?_ | refine Sel.snoc (pT (pT (pT (pT (pT (pT pH)))))) ?_ | refine Sel.snoc (pT (pT (pT (pT (pT (pT (pT pH))))))) ?_ | refine Sel.snoc (pT (pT (pT (pT (pT (pT (pT (pT pH)))))))) ?_ | refine Sel.snoc (pT (pT (pT (pT (pT (pT (pT (pT (pT pH))))))))) ?_ | refine Sel.snoc (pT (pT (pT (pT (pT (pT (pT (pT (pT (pT pH)))))))))) ?_ | refine Sel.snoc (pT (pT (pT (pT (pT (pT (pT (pT (pT (pT (pT pH))))))))))) ?_ | refine Sel.snoc (pT (pT (pT (pT (pT (pT (pT (pT (pT (pT (pT (pT pH)))))))))))) ?_ | refine Sel.snoc (pT (pT (pT (pT (pT (pT (pT (pT (pT (pT (pT (pT (pT pH))))))))))))) ?_ | refine Sel.snoc (pT (pT (pT (pT (pT (pT (pT (pT (pT (pT (pT (pT (pT (pT pH)))))))))))))) ?_ | refine Sel.snoc (pT (pT (pT (pT (pT (pT (pT (pT (pT (pT (pT (pT (pT (pT (pT pH))))))))))))))) ?_ | refine Sel.drop ?_)) : WkM m m' := h
abbrev wf (w : ByteArray) (k : Nat) (j : Nat) : List SV := [.val (.string (wn w k j))]
def QW (i : Nat) (w : ByteArray) (k : Nat) (wv : SV) (mm : Mem) : Prop := ∃ a, wv = .sl i a w.size w.size ∧ mm = [(i, .gr a w.size 9 1 (wf w k))]
theorem callQW {call : CallT} {g : FuncId} {args args0 : List SV} {m0 : Mem} {N i k : Nat} {w : ByteArray} (h : ∀ R, callS call (.fn g [] []) args0 m0 (addL R N) 0 fun wv m' R' _ => (∃ v mm, QW i w k v mm ∧ den wv = den v ∧ WkM m' mm) ∧ R ≤ R') (R2 : Nat) {m : Mem} {R ni : Nat} {K : SV → Mem → Nat → Nat → Prop} (ha : dens args = dens args0) (hs : SeesM m m0) (hN : R2 + N ≤ R)
    (hK : ∀ a, K (.sl i a w.size w.size) ((i, .gr a w.size 9 1 (wf w k)) :: m) R2 ni) : callS call (.fn g [] []) args m R ni K :=
  call_freshL (QW i w k) h (fun wv mm hq => by obtain ⟨a, _, rfl⟩ := hq; intro x hx; rw [List.mem_singleton.1 hx]; exact ⟨_, _, _, _, _, rfl⟩) R2 ha hs hN (fun wv mm hq => by obtain ⟨a, rfl, rfl⟩ := hq; exact hK a)
theorem blt_nx {a b : Nat} (h : b ≤ a) : Nat.blt a b = false := by
  cases hb : Nat.blt a b with
  | false => rfl
  | true => have := blt_true hb; omega
theorem ext_data (w : ByteArray) (a b : Nat) : (w.extract a b).data.toList = (w.data.toList.drop a).take (b - a) := by
  rw [ByteArray.data_extract, Array.toList_extract, List.extract_eq_take_drop]
theorem win0 (w : ByteArray) (j : Nat) : w.extract j (j + 0) = wn w 0 j := data_inj (by
  rw [ext_data, wn_data, show j + 0 - j = 0 by omega, List.take_zero, List.take_zero])
theorem win2 {w : ByteArray} {k j : Nat} (hk : k ≤ w.size) (hj : j ≤ w.size) : (w ++ w).extract j (j + k) = wn w k j := data_inj (by
  have h : w.size = w.data.toList.length := Array.length_toList.symm
  rw [ext_data, wn_data, tn_data, ByteArray.data_append, Array.toList_append, show j + k - j = k by omega]
  rw [List.drop_append_of_le_length (by omega)]
  apply List.ext_getElem?
  intro i
  by_cases hi : i < k
  · rw [List.getElem?_take_of_lt hi, List.getElem?_take_of_lt hi]
    by_cases h2 : i < w.data.toList.length - j
    · rw [List.getElem?_append_left (by rw [List.length_drop]; exact h2), List.getElem?_append_left (by rw [List.length_drop]; exact h2)]
    · rw [List.getElem?_append_right (by rw [List.length_drop]; omega), List.getElem?_append_right (by rw [List.length_drop]; omega), List.length_drop, List.getElem?_take_of_lt (by omega)]
  · rw [List.getElem?_eq_none (by rw [List.length_take]; omega), List.getElem?_eq_none (by rw [List.length_take]; omega)])
theorem c37 (F d q : Nat) (hF : 200 < F) (w : ByteArray) (hw : marks w) (h0 : 0 < w.size) (h64 : w.size ≤ 64) (k : Nat) (hk : k ≤ w.size) (R : Nat) : callS (CL F (d + 1)) (.fn 37 [] []) [.val (.string w), .int .i64 (Int.ofNat k)] [] (addL R (50000 + 400)) 0 fun wv m' R' _ => (∃ v mm, QW q w k v mm ∧ den wv = den v ∧ WkM m' mm) ∧ R ≤ R' := by
  rw [show 50000 + 400 = (50000) + 400 from rfl, addL_eq, ← Nat.add_assoc, ← addL_eq _ 400, Nat.add_comm R (50000)]
  have hnk : wr .i64 (Int.add (Int.ofNat w.size) (Int.ofNat k)) = Int.ofNat (w.size + k) := smn (i := w.size + k) (by omega)
  by_cases hk0 : k = 0
  · have d1 : iLt (Int.ofNat w.size) (wr .i64 (Int.add (Int.ofNat w.size) (Int.ofNat k))) = false := by rw [hnk]; exact iLt_f (by omega)
    have hLsz : w.size = w.size := rfl
    have hLL : ∀ j, j ≤ w.size → w.extract j (j + k) = wn w k j := fun j _ => by rw [hk0]; exact win0 w j
    refine call_in (n := 34) Try.func37 rfl rfl rfl rfl rfl rfl rfl ?_
    repeat' ((conv => whnf); first | refine eqS_rfl ?_ | refine eqA_rfl ?_ | refine eqA_of (by assumption) ?_ | refine eqS_of (by rfl) ?_ | refine eqL_rfl ?_ | refine eqJ_rfl ?_ | refine gE ?_ | refine seS_rfl ?_ | refine lsS_of hup ?_ | refine lsS_rfl ?_ | refine brS_tt ?_ | refine brS_ff ?_ | refine brS_not ?_ | refine gI ?_ | refine gT ?_ | refine gF ?_ | refine brS_intro (fun _ => ?_) (fun _ => ?_) | refine gL ?_ | refine gX ?_ | refine gO ?_ | refine gN ?_ | refine gM ?_ | refine gY ?_ | intro _)
    conv => whnf
    refine loS_u 1 (by omega) ?_
    repeat' ((conv => whnf); first | refine eqS_rfl ?_ | refine eqA_rfl ?_ | refine eqA_of (by assumption) ?_ | refine eqS_of (by rfl) ?_ | refine eqL_rfl ?_ | refine eqJ_rfl ?_ | refine gE ?_ | refine seS_rfl ?_ | refine lsS_of hup ?_ | refine lsS_rfl ?_ | refine brS_tt ?_ | refine brS_ff ?_ | refine brS_not ?_ | refine gI ?_ | refine gT ?_ | refine gF ?_ | refine brS_intro (fun _ => ?_) (fun _ => ?_) | refine gL ?_ | refine gX ?_ | refine gO ?_ | refine gN ?_ | refine gM ?_ | refine gY ?_ | intro _)
    rename_i bi1
    conv => whnf
    refine loS_i (fun jj f mm R' ni => ∃ (j : Nat) (a1 : Option Addr), j ≤ w.size ∧ jj = w.size - j + 1 ∧ f = [(1, .int .i64 (Int.ofNat k)), (5, .val (.string w)), (6, .sl 600 a1 j j), (20, .ptr 0 bi1 0)] ∧ mm = [(600, .gr a1 j 9 1 (wf w k)), (0, .it bi1 w j)] ∧ R' = (addL (300 * (w.size - j) + R) 200) ∧ ni = 700) (w.size + 1) (by omega)
      ⟨[(1, .int .i64 (Int.ofNat k)), (5, .val (.string w)), (6, .sl 600 none 0 0), (20, .ptr 0 bi1 0)], [(600, .gr none 0 9 1 (wf w k)), (0, .it bi1 w 0)], (addL (300 * (w.size - 0) + R) 200), 700, ⟨eqF_rfl _, eqF_rfl _, ⟨rfl, rfl⟩, eqF_rfl _, trivial⟩, by exact WkM.gr0 WG, by rw [Nat.sub_zero]; (first | (simp only [addL_eq, addL_rec]; omega) | omega | exact Nat.le_refl _), 0, none, by omega, by omega, rfl, rfl, rfl, rfl⟩ ?_
    rintro _ _ _ _ _ ⟨j, a1, hj, rfl, rfl, rfl, rfl, rfl⟩
    by_cases hlt : j < w.size
    · have d0 : Nat.blt j w.size = true := blt_of hlt
      obtain ⟨ch, _, hd⟩ := decode_mark hw hlt
      have hb : 300 * (w.size - j) = 300 * (w.size - (j + 1)) + 300 := by omega
      have hjk : wr .i64 (Int.add (Int.ofNat j) (Int.ofNat k)) = Int.ofNat (j + k) := smn (i := j + k) (by omega)
      have hex := hLL j (by omega)
      have hszL : j + k < w.size + 1 := by rw [hLsz]; omega
      have hg := growE (n := j) (sz := 1) (f := wf w k) (l := [.val (.string (w.extract j (j + k)))]) rfl (by rw [hex])
      repeat' ((conv => whnf); first | refine eqS_rfl ?_ | refine eqA_rfl ?_ | refine eqA_of (by assumption) ?_ | refine eqS_of (by rfl) ?_ | refine eqL_rfl ?_ | refine eqJ_rfl ?_ | refine gE ?_ | refine seS_rfl ?_ | refine lsS_of hup ?_ | refine lsS_rfl ?_ | refine brS_tt ?_ | refine brS_ff ?_ | refine brS_not ?_ | refine gI ?_ | refine gT ?_ | refine gF ?_ | refine brS_intro (fun _ => ?_) (fun _ => ?_) | refine gL ?_ | refine gX ?_ | refine gO ?_ | refine gN ?_ | refine gM ?_ | refine gY ?_ | refine ixS_of rfl (by show _ < _ + 1; omega) ?_ | refine ltS_intro (tn_sz w _ (by omega)) ?_ | refine dcS_of hd ?_ | refine ixS_of hjk hszL ?_ | refine ltS_intro (show j * 1 + 1 < 32769 by omega) ?_ | intro _)
      conv => whnf
      exact ⟨w.size - (j + 1) + 1, [(1, .int .i64 (Int.ofNat k)), (5, .val (.string w)), (6, .sl 600 _ (j + 1) (j + 1)), (20, .ptr 0 bi1 0)], [(600, .gr _ (j + 1) 9 1 (wf w k)), (0, .it bi1 w (j + 1))], (addL (300 * (w.size - (j + 1)) + R) 200), 700, by omega, ⟨eqF_rfl _, eqF_rfl _, ⟨rfl, rfl⟩, eqF_rfl _, trivial⟩, by exact WG, nM1, j + 1, _, by omega, rfl, rfl, rfl, rfl, rfl⟩
    · have e2 : w.size = j := by omega
      subst e2
      have d0 : Nat.blt w.size w.size = false := blt_nx (Nat.le_refl _)
      repeat' ((conv => whnf); first | refine eqS_rfl ?_ | refine eqA_rfl ?_ | refine eqA_of (by assumption) ?_ | refine eqS_of (by rfl) ?_ | refine eqL_rfl ?_ | refine eqJ_rfl ?_ | refine gE ?_ | refine seS_rfl ?_ | refine lsS_of hup ?_ | refine lsS_rfl ?_ | refine brS_tt ?_ | refine brS_ff ?_ | refine brS_not ?_ | refine gI ?_ | refine gT ?_ | refine gF ?_ | refine brS_intro (fun _ => ?_) (fun _ => ?_) | refine gL ?_ | refine gX ?_ | refine gO ?_ | refine gN ?_ | intro _)
      conv => whnf
      exact ⟨⟨_, _, ⟨a1, rfl, rfl⟩, rfl, by exact WG⟩, nM1⟩

  · have d1 : iLt (Int.ofNat w.size) (wr .i64 (Int.add (Int.ofNat w.size) (Int.ofNat k))) = true := by rw [hnk]; exact iLt_t (by omega)
    have hLsz : (w ++ w).size = w.size + w.size := ByteArray.size_append
    have d2 : iLt (Int.ofNat (w ++ w).size) (wr .i64 (Int.add (Int.ofNat w.size) (Int.ofNat k))) = false := by rw [hnk, hLsz]; exact iLt_f (by omega)
    have hLL : ∀ j, j ≤ w.size → (w ++ w).extract j (j + k) = wn w k j := fun j hj => win2 hk hj
    have hcat : Nat.add w.size w.size < 9223372036854775808 := by show w.size + w.size < _; omega
    refine call_in (n := 34) Try.func37 rfl rfl rfl rfl rfl rfl rfl ?_
    repeat' ((conv => whnf); first | refine eqS_rfl ?_ | refine eqA_rfl ?_ | refine eqA_of (by assumption) ?_ | refine eqS_of (by rfl) ?_ | refine eqL_rfl ?_ | refine eqJ_rfl ?_ | refine gE ?_ | refine seS_rfl ?_ | refine lsS_of hup ?_ | refine lsS_rfl ?_ | refine brS_tt ?_ | refine brS_ff ?_ | refine brS_not ?_ | refine gI ?_ | refine gT ?_ | refine gF ?_ | refine brS_intro (fun _ => ?_) (fun _ => ?_) | refine gL ?_ | refine gX ?_ | refine gO ?_ | refine gN ?_ | refine gM ?_ | refine gY ?_ | intro _)
    conv => whnf
    refine loS_u 2 (by omega) ?_
    repeat' ((conv => whnf); first | refine eqS_rfl ?_ | refine eqA_rfl ?_ | refine eqA_of (by assumption) ?_ | refine eqS_of (by rfl) ?_ | refine eqL_rfl ?_ | refine eqJ_rfl ?_ | refine gE ?_ | refine seS_rfl ?_ | refine lsS_of hup ?_ | refine lsS_rfl ?_ | refine brS_tt ?_ | refine brS_ff ?_ | refine brS_not ?_ | refine gI ?_ | refine gT ?_ | refine gF ?_ | refine brS_intro (fun _ => ?_) (fun _ => ?_) | refine gL ?_ | refine gX ?_ | refine gO ?_ | refine gN ?_ | refine gM ?_ | refine gY ?_ | refine ltS_intro hcat ?_ | intro _)
    rename_i bi1
    conv => whnf
    refine loS_i (fun jj f mm R' ni => ∃ (j : Nat) (a1 : Option Addr), j ≤ w.size ∧ jj = w.size - j + 1 ∧ f = [(1, .int .i64 (Int.ofNat k)), (5, .val (.string (w ++ w))), (6, .sl 600 a1 j j), (20, .ptr 0 bi1 0)] ∧ mm = [(600, .gr a1 j 9 1 (wf w k)), (0, .it bi1 w j)] ∧ R' = (addL (300 * (w.size - j) + R) 200) ∧ ni = 700) (w.size + 1) (by omega)
      ⟨[(1, .int .i64 (Int.ofNat k)), (5, .val (.string (w ++ w))), (6, .sl 600 none 0 0), (20, .ptr 0 bi1 0)], [(600, .gr none 0 9 1 (wf w k)), (0, .it bi1 w 0)], (addL (300 * (w.size - 0) + R) 200), 700, ⟨eqF_rfl _, eqF_rfl _, ⟨rfl, rfl⟩, eqF_rfl _, trivial⟩, by exact WkM.gr0 WG, by rw [Nat.sub_zero]; (first | (simp only [addL_eq, addL_rec]; omega) | omega | exact Nat.le_refl _), 0, none, by omega, by omega, rfl, rfl, rfl, rfl⟩ ?_
    rintro _ _ _ _ _ ⟨j, a1, hj, rfl, rfl, rfl, rfl, rfl⟩
    by_cases hlt : j < w.size
    · have d0 : Nat.blt j w.size = true := blt_of hlt
      obtain ⟨ch, _, hd⟩ := decode_mark hw hlt
      have hb : 300 * (w.size - j) = 300 * (w.size - (j + 1)) + 300 := by omega
      have hjk : wr .i64 (Int.add (Int.ofNat j) (Int.ofNat k)) = Int.ofNat (j + k) := smn (i := j + k) (by omega)
      have hex := hLL j (by omega)
      have hszL : j + k < (w ++ w).size + 1 := by rw [hLsz]; omega
      have hg := growE (n := j) (sz := 1) (f := wf w k) (l := [.val (.string ((w ++ w).extract j (j + k)))]) rfl (by rw [hex])
      repeat' ((conv => whnf); first | refine eqS_rfl ?_ | refine eqA_rfl ?_ | refine eqA_of (by assumption) ?_ | refine eqS_of (by rfl) ?_ | refine eqL_rfl ?_ | refine eqJ_rfl ?_ | refine gE ?_ | refine seS_rfl ?_ | refine lsS_of hup ?_ | refine lsS_rfl ?_ | refine brS_tt ?_ | refine brS_ff ?_ | refine brS_not ?_ | refine gI ?_ | refine gT ?_ | refine gF ?_ | refine brS_intro (fun _ => ?_) (fun _ => ?_) | refine gL ?_ | refine gX ?_ | refine gO ?_ | refine gN ?_ | refine gM ?_ | refine gY ?_ | refine ixS_of rfl (by show _ < _ + 1; omega) ?_ | refine ltS_intro (tn_sz w _ (by omega)) ?_ | refine dcS_of hd ?_ | refine ixS_of hjk hszL ?_ | refine ltS_intro (show j * 1 + 1 < 32769 by omega) ?_ | intro _)
      conv => whnf
      exact ⟨w.size - (j + 1) + 1, [(1, .int .i64 (Int.ofNat k)), (5, .val (.string (w ++ w))), (6, .sl 600 _ (j + 1) (j + 1)), (20, .ptr 0 bi1 0)], [(600, .gr _ (j + 1) 9 1 (wf w k)), (0, .it bi1 w (j + 1))], (addL (300 * (w.size - (j + 1)) + R) 200), 700, by omega, ⟨eqF_rfl _, eqF_rfl _, ⟨rfl, rfl⟩, eqF_rfl _, trivial⟩, by exact WG, nM1, j + 1, _, by omega, rfl, rfl, rfl, rfl, rfl⟩
    · have e2 : w.size = j := by omega
      subst e2
      have d0 : Nat.blt w.size w.size = false := blt_nx (Nat.le_refl _)
      repeat' ((conv => whnf); first | refine eqS_rfl ?_ | refine eqA_rfl ?_ | refine eqA_of (by assumption) ?_ | refine eqS_of (by rfl) ?_ | refine eqL_rfl ?_ | refine eqJ_rfl ?_ | refine gE ?_ | refine seS_rfl ?_ | refine lsS_of hup ?_ | refine lsS_rfl ?_ | refine brS_tt ?_ | refine brS_ff ?_ | refine brS_not ?_ | refine gI ?_ | refine gT ?_ | refine gF ?_ | refine brS_intro (fun _ => ?_) (fun _ => ?_) | refine gL ?_ | refine gX ?_ | refine gO ?_ | refine gN ?_ | intro _)
      conv => whnf
      exact ⟨⟨_, _, ⟨a1, rfl, rfl⟩, rfl, by exact WG⟩, nM1⟩

end Go.Proofs.Ytfcgfnlifdjfjaa
namespace Go.Proofs.Ytfcgfnlifdjfjaa
open Go.Ab
theorem mod_if {a s : Nat} (h : a < 2 * s) : a % s = if a < s then a else a - s := by
  by_cases h1 : a < s
  · rw [if_pos h1, Nat.mod_eq_of_lt h1]
  · rw [if_neg h1, Nat.mod_eq_sub_mod (by omega), Nat.mod_eq_of_lt (by omega)]
theorem dfB_of {v w : ByteArray} {n : Nat} (σ : Nat → Nat) (hs : v.size = w.size) (hσ : ∀ p, p < w.size → σ p < w.size) (hi : ∀ p q, p < w.size → q < w.size → σ p = σ q → p = q) (h : ∀ p q, p < w.size → q < w.size → wn v n p = wn v n q → wn w n (σ p) = wn w n (σ q)) (hw : dfB w n = true) : dfB v n = true := by
  have h1 := of_decide_eq_true hw
  refine decide_eq_true fun q hq p hp he => ?_
  have hq' : q < w.size := by omega
  have hp' : p < w.size := by omega
  have h2 := h p q hp' hq' he
  have hne : σ p ≠ σ q := fun e => by have := hi p q hp' hq' e; omega
  rcases Nat.lt_or_gt_of_ne hne with hl | hl
  · exact h1 (σ q) (hσ q hq') (σ p) hl h2
  · exact h1 (σ p) (hσ p hp') (σ q) hl h2.symm
theorem bool_iff {a b : Bool} (h : a = true → b = true) (k : b = true → a = true) : a = b := by cases a <;> cases b <;> simp_all
theorem wn_tn {w : ByteArray} {n r p : Nat} (hr : r ≤ w.size) (hp : p ≤ w.size) : wn (tn w r) n p = wn w n ((r + p) % w.size) := by
  unfold wn
  rw [tn_tn hr hp]
theorem dfB_tn1 {w : ByteArray} {n r : Nat} (hr : r < w.size) (h : dfB w n = true) : dfB (tn w r) n = true := by
  refine dfB_of (fun p => (r + p) % w.size) (tn_size w r (by omega)) (fun p _ => Nat.mod_lt _ (by omega)) (fun p q hp hq he => ?_) (fun p q hp hq he => ?_) h
  · have he : (r + p) % w.size = (r + q) % w.size := he
    rw [mod_if (by omega), mod_if (by omega)] at he
    split at he <;> split at he <;> omega
  · rw [wn_tn (by omega) (by omega), wn_tn (by omega) (by omega)] at he
    exact he
theorem dfB_tn {w : ByteArray} {n r : Nat} (hr : r < w.size) : dfB (tn w r) n = dfB w n := by
  refine bool_iff (fun h => ?_) (dfB_tn1 hr)
  by_cases h0 : r = 0
  · rw [h0, tn_0] at h; exact h
  · have hs := tn_size w r (by omega)
    have h2 := dfB_tn1 (w := tn w r) (n := n) (r := w.size - r) (by omega) h
    rw [tn_tn (by omega) (by omega), show r + (w.size - r) = w.size by omega, Nat.mod_self, tn_0] at h2
    exact h2
/-- a window's marks -/
theorem wn_get {w : ByteArray} {n p i : Nat} (hp : p ≤ w.size) (hn : n ≤ w.size) (hi : i < n) : (wn w n p).data.toList[i]? = w.data.toList[(p + i) % w.size]? := by
  have h : w.size = w.data.toList.length := Array.length_toList.symm
  rw [wn_data, tn_rot, List.getElem?_take_of_lt hi, h, rot_get (by omega) (by omega)]
/-- backwards -/
def bk (w : ByteArray) : ByteArray := ⟨⟨w.data.toList.reverse⟩⟩
theorem bk_size (w : ByteArray) : (bk w).size = w.size := by
  show (w.data.toList.reverse).length = w.size
  rw [List.length_reverse]; exact Array.length_toList
theorem bk_bk (w : ByteArray) : bk (bk w) = w := data_inj (by show (w.data.toList.reverse).reverse = _; rw [List.reverse_reverse])
theorem marks_bk {w : ByteArray} (hw : marks w) : marks (bk w) := fun x hx => hw x (List.mem_reverse.1 hx)
theorem wn_bk {w : ByteArray} {n p : Nat} (hp : p < w.size) (hn : n ≤ w.size) : (wn (bk w) n p).data.toList = (wn w n ((2 * w.size - p - n) % w.size)).data.toList.reverse := by
  have hs := bk_size w
  have hl : w.data.toList.length = w.size := Array.length_toList
  have ht : (2 * w.size - p - n) % w.size < w.size := Nat.mod_lt _ (by omega)
  have l1 := wn_len (w := bk w) (n := n) (k := p) (by omega) (by omega)
  have l2 := wn_len (w := w) (n := n) (k := (2 * w.size - p - n) % w.size) (by omega) hn
  apply List.ext_getElem?
  intro i
  by_cases hi : i < n
  · rw [wn_get (by omega) (by omega) hi, List.getElem?_reverse (by omega), l2, wn_get (by omega) hn (by omega), hs]
    show (w.data.toList.reverse)[(p + i) % w.size]? = _
    have h3 : (p + i) % w.size < w.size := Nat.mod_lt _ (by omega)
    rw [List.getElem?_reverse (by omega), hl]
    congr 1
    rw [mod_if (a := p + i) (by omega)]
    by_cases hz : 2 * w.size - p - n < 2 * w.size
    · rw [mod_if (a := 2 * w.size - p - n) hz]
      rw [mod_if (by split <;> omega)]
      split <;> split <;> split <;> omega
    · have e1 : p = 0 := by omega
      have e2 : n = 0 := by omega
      omega
  · rw [List.getElem?_eq_none (by omega), List.getElem?_eq_none (by rw [List.length_reverse]; omega)]
theorem dfB_bk1 {w : ByteArray} {n : Nat} (hn : n ≤ w.size) (h : dfB w n = true) : dfB (bk w) n = true := by
  by_cases h0 : w.size = 0
  · refine decide_eq_true fun q hq => ?_
    rw [bk_size] at hq; omega
  refine dfB_of (fun p => (2 * w.size - p - n) % w.size) (bk_size w) (fun p _ => Nat.mod_lt _ (by omega)) (fun p q hp hq he => ?_) (fun p q hp hq he => ?_) h
  · have he : (2 * w.size - p - n) % w.size = (2 * w.size - q - n) % w.size := he
    by_cases hz : 0 < p + n <;> by_cases hz2 : 0 < q + n
    · rw [mod_if (by omega), mod_if (by omega)] at he
      split at he <;> split at he <;> omega
    · rw [mod_if (a := 2 * w.size - p - n) (by omega), show 2 * w.size - q - n = w.size + w.size by omega, Nat.add_mod_right, Nat.mod_self] at he
      split at he <;> omega
    · rw [mod_if (a := 2 * w.size - q - n) (by omega), show 2 * w.size - p - n = w.size + w.size by omega, Nat.add_mod_right, Nat.mod_self] at he
      split at he <;> omega
    · omega
  · have h1 := congrArg (fun z : ByteArray => z.data.toList) he
    simp only [wn_bk hp hn, wn_bk hq hn] at h1
    exact data_inj (List.reverse_inj.1 h1)
theorem dfB_bk {w : ByteArray} {n : Nat} (hn : n ≤ w.size) : dfB (bk w) n = dfB w n :=
  bool_iff (fun h => by have := dfB_bk1 (w := bk w) (n := n) (by rw [bk_size]; exact hn) h; rw [bk_bk] at this; exact this) (dfB_bk1 hn)
/-- light and dark exchanged -/
def ng (b : UInt8) : UInt8 := if b = 48 then 49 else 48
def ot (w : ByteArray) : ByteArray := ⟨⟨w.data.toList.map ng⟩⟩
theorem ot_size (w : ByteArray) : (ot w).size = w.size := by
  show (w.data.toList.map ng).length = w.size
  rw [List.length_map]; exact Array.length_toList
theorem marks_ot (w : ByteArray) : marks (ot w) := fun x hx => by
  obtain ⟨y, _, rfl⟩ := List.mem_map.1 hx
  unfold ng
  by_cases h : y = 48
  · rw [if_pos h]; exact .inr rfl
  · rw [if_neg h]; exact .inl rfl
theorem ng_ng {b : UInt8} (h : b = 48 ∨ b = 49) : ng (ng b) = b := by rcases h with rfl | rfl <;> decide
theorem ot_ot {w : ByteArray} (hw : marks w) : ot (ot w) = w := data_inj (by
  show (w.data.toList.map ng).map ng = _
  rw [List.map_map]
  exact (List.map_congr_left fun x hx => ng_ng (hw x hx)).trans (List.map_id _))
theorem wn_ot (w : ByteArray) (n p : Nat) : wn (ot w) n p = ot (wn w n p) := data_inj (by
  rw [wn_data, tn_data]
  show _ = (wn w n p).data.toList.map ng
  rw [wn_data, tn_data, List.map_take, List.map_append, List.map_drop, List.map_take]
  rfl)
theorem dfB_ot1 {w : ByteArray} (hw : marks w) {n : Nat} (h : dfB w n = true) : dfB (ot w) n = true := by
  refine dfB_of (fun p => p) (ot_size w) (fun p hp => hp) (fun p q _ _ he => he) (fun p q hp hq he => ?_) h
  rw [wn_ot, wn_ot] at he
  have h1 := congrArg ot he
  rw [ot_ot (marks_wn hw n p), ot_ot (marks_wn hw n q)] at h1
  exact h1
theorem dfB_ot {w : ByteArray} (hw : marks w) {n : Nat} : dfB (ot w) n = dfB w n :=
  bool_iff (fun h => by have := dfB_ot1 (marks_ot w) (n := n) h; rw [ot_ot hw] at this; exact this) (dfB_ot1 hw)
theorem clV_congr {v w : ByteArray} (hs : v.size = w.size) (h : ∀ n, n < w.size → dfB v n = dfB w n) : clV v = clV w := by
  unfold clV
  rw [hs, show (List.range w.size).find? (fun n => dfB v n) = (List.range w.size).find? (fun n => dfB w n) from Go.Lib.find_congr fun n hn => h n (List.mem_range.1 hn)]
/-- if all turns differ, they do so without their last marks -/
theorem last_eq : ∀ {a b : List UInt8}, a.length = b.length → (∀ x, x ∈ a → x = 48 ∨ x = 49) → (∀ x, x ∈ b → x = 48 ∨ x = 49) → a.count 49 = b.count 49 → a.take (a.length - 1) = b.take (b.length - 1) → a = b
  | [], [], _, _, _, _, _ => rfl
  | [], _ :: _, h, _, _, _, _ => by simp at h
  | _ :: _, [], h, _, _, _, _ => by simp at h
  | [x], [y], _, h1, h2, h3, _ => by
    rcases h1 x (by simp) with rfl | rfl <;> rcases h2 y (by simp) with rfl | rfl <;> first | rfl | (exact absurd h3 (by decide))
  | [_], _ :: _ :: _, h, _, _, _, _ => by simp at h
  | _ :: _ :: _, [_], h, _, _, _, _ => by simp at h
  | x :: x' :: l, y :: y' :: l', h, h1, h2, h3, h4 => by
    simp only [List.length_cons, Nat.add_sub_cancel, List.take_succ_cons, List.cons.injEq] at h4
    obtain ⟨rfl, h4⟩ := h4
    have h5 : (x' :: l).count 49 = (y' :: l').count 49 := by
      have c1 := List.count_cons (a := (49 : UInt8)) (b := x) (l := x' :: l)
      have c2 := List.count_cons (a := (49 : UInt8)) (b := x) (l := y' :: l')
      omega
    rw [last_eq (a := x' :: l) (b := y' :: l') (by simpa using h) (fun z hz => h1 z (List.mem_cons_of_mem _ hz)) (fun z hz => h2 z (List.mem_cons_of_mem _ hz)) h5 (by simpa using h4)]
theorem rot_count (l : List UInt8) (r : Nat) : (rot l r).count 49 = l.count 49 := by
  unfold rot
  rw [List.count_append, Nat.add_comm, ← List.count_append, List.take_append_drop]
theorem dfB_last {w : ByteArray} (hw : marks w) (h : dfB w w.size = true) : dfB w (w.size - 1) = true := by
  have h1 := of_decide_eq_true h
  have hl : w.data.toList.length = w.size := Array.length_toList
  have full : ∀ p, (wn w w.size p).data.toList = rot w.data.toList p := fun p => by
    rw [wn_data, tn_rot, List.take_of_length_le (by rw [rot_len]; omega)]
  refine decide_eq_true fun q hq p hp he => h1 q hq p hp (data_inj ?_)
  have e1 := congrArg (fun z : ByteArray => z.data.toList) he
  simp only [wn_data, tn_rot] at e1
  rw [full, full]
  have m : ∀ p, ∀ x, x ∈ rot w.data.toList p → x = 48 ∨ x = 49 := fun p x hx => by
    rcases List.mem_append.1 hx with hx | hx
    · exact hw x (List.mem_of_mem_drop hx)
    · exact hw x (List.mem_of_mem_take hx)
  exact last_eq (by rw [rot_len, rot_len]) (m p) (m q) (by rw [rot_count, rot_count]) (by rw [rot_len, rot_len, hl]; exact e1)
end Go.Proofs.Ytfcgfnlifdjfjaa
namespace Go.Proofs.Ytfcgfnlifdjfjaa
open Go.Ab
attribute [local irreducible] aggOk drwOK
set_option maxRecDepth 100000
set_option maxHeartbeats 4000000
set_option linter.unusedVariables false
set_option linter.unusedSimpArgs false
def bkp (w : ByteArray) (j : Nat) : ByteArray := ⟨⟨(w.data.toList.take j).reverse⟩⟩
def otp (w : ByteArray) (j : Nat) : ByteArray := ⟨⟨(w.data.toList.take j).map ng⟩⟩
theorem bkp_f (w : ByteArray) : bkp w w.size = bk w := data_inj (by
  show (w.data.toList.take w.size).reverse = w.data.toList.reverse
  have hl : w.data.toList.length = w.size := Array.length_toList
  rw [List.take_of_length_le (Nat.le_of_eq hl)])
theorem otp_f (w : ByteArray) : otp w w.size = ot w := data_inj (by
  show (w.data.toList.take w.size).map ng = w.data.toList.map ng
  have hl : w.data.toList.length = w.size := Array.length_toList
  rw [List.take_of_length_le (Nat.le_of_eq hl)])
theorem mark_at {w : ByteArray} (hw : marks w) {j : Nat} (h : j < w.size) : ∃ c, w.data.toList[j]? = some c ∧ (c = 48 ∨ c = 49) := by
  have hl : j < w.data.toList.length := by rw [Array.length_toList]; exact h
  exact ⟨_, List.getElem?_eq_getElem hl, hw _ (List.getElem_mem hl)⟩
theorem bkp_s {w : ByteArray} {j : Nat} {c : UInt8} (h : w.data.toList[j]? = some c) : w.extract j (j + 1) ++ bkp w j = bkp w (j + 1) := data_inj (by
  rw [ByteArray.data_append, Array.toList_append, ext_data]
  show _ ++ (w.data.toList.take j).reverse = (w.data.toList.take (j + 1)).reverse
  rw [List.take_add_one, h, List.reverse_append, show j + 1 - j = 1 by omega]
  congr 1
  obtain ⟨hl, he⟩ := List.getElem?_eq_some_iff.1 h
  rw [List.drop_eq_getElem_cons hl, he]
  rfl)
theorem otp_s {w : ByteArray} {j : Nat} {c : UInt8} (h : w.data.toList[j]? = some c) (hc : c = 48 ∨ c = 49) : otp w j ++ ⟨⟨bytesU8 [xorI .u8 (Int.ofNat c.toNat) 1]⟩⟩ = otp w (j + 1) := data_inj (by
  rw [ByteArray.data_append, Array.toList_append]
  show (w.data.toList.take j).map ng ++ bytesU8 [xorI .u8 (Int.ofNat c.toNat) 1] = (w.data.toList.take (j + 1)).map ng
  rw [List.take_add_one, h, List.map_append]
  congr 1
  rcases hc with rfl | rfl <;> decide)
theorem sz_bk (w : ByteArray) (j : Nat) (h : w.size ≤ 64 := by assumption) : Nat.add (w.extract j (j + 1)).size (bkp w j).size < 9223372036854775808 := by
  show (w.extract j (j + 1)).size + ((w.data.toList.take j).reverse).length < _
  rw [ByteArray.size_extract, List.length_reverse, List.length_take, Array.length_toList]
  have : w.data.size = w.size := rfl
  omega
theorem sz_ot (w : ByteArray) (j : Nat) (c : UInt8) (h : w.size ≤ 64 := by assumption) : Nat.add (otp w j).size (ByteArray.mk ⟨bytesU8 [xorI .u8 (Int.ofNat c.toNat) 1]⟩).size < 9223372036854775808 := by
  show ((w.data.toList.take j).map ng).length + 1 < _
  rw [List.length_map, List.length_take, Array.length_toList]
  have : w.data.size = w.size := rfl
  omega
theorem clV_cases (w : ByteArray) : (clV w = .tup [.int .i64 0, .int .i64 14] ∧ ∀ q, q < w.size → dfB w q = false) ∨ ∃ n, n < w.size ∧ clV w = .tup [.int .i64 (Int.ofNat n), .int .i64 0] ∧ dfB w n = true ∧ ∀ q, q < n → dfB w q = false := by
  unfold clV
  split
  · rename_i n hf
    obtain ⟨h1, h2, h3⟩ := List.find?_range_eq_some.1 hf
    exact .inr ⟨n, List.mem_range.1 h2, rfl, h1, fun q hq => by have := h3 q hq; simpa using this⟩
  · rename_i hf
    exact .inl ⟨rfl, fun q hq => by have := List.find?_eq_none.1 hf q (List.mem_range.2 hq); simpa using this⟩
theorem l8 (F d : Nat) (hF : 200 < F) (b : Int) (q r : Nat) (hq : q < 256) (hr : r < 256) : ReadC (CL F (d + 8)) 8 [.agg [.int .u64 b, .int .u8 (Int.ofNat q)], .int .u8 (Int.ofNat r)] [] (11000000 + 400) (.bool true) := by
  intro R
  rw [show 11000000 + 400 = (11000000) + 400 from rfl, addL_eq, ← Nat.add_assoc, ← addL_eq _ 400, Nat.add_comm R (11000000)]
  obtain ⟨w, hwd⟩ : ∃ w, w = mkR (q % 64 + 1) b := ⟨_, rfl⟩
  have hw : marks w := hwd ▸ marks_mkR _ _
  have hz : w.size = q % 64 + 1 := hwd ▸ size_mkR _ _
  have h0 : 0 < w.size := by omega
  have h64 : w.size ≤ 64 := by omega
  have hnz : Int.ofNat w.size ≠ 0 := by intro h; have : (w.size : Int) = 0 := h; omega
  have hrz : r % w.size < w.size := Nat.mod_lt _ h0
  have hsz := tn_size w (r % w.size) (by omega)
  have kr := c35 F (d + 6) w h64 (r % w.size) (by omega)
  have harg : dens [.val (.string w), .int .i64 (Int.tmod (wr .i64 (Int.ofNat r)) (Int.ofNat w.size))] = dens [.val (.string w), .int .i64 (Int.ofNat (r % w.size))] := by
    rw [smn (i := r) (by omega)]; rfl
  have hbkf := bkp_f w
  have hotf := otp_f w
  rcases clV_cases w with ⟨hcl, hall⟩ | ⟨n, hn, hcl, hdt, hdf⟩
  · have hno : dfX (wn w w.size) w.size = false := by
      show dfB w w.size = false
      cases h : dfB w w.size with
      | false => rfl
      | true => have := dfB_last hw h; rw [hall (w.size - 1) (by omega)] at this; cases this
    have k36 := fun a e => c36 F (d + 6) hF a w.size e w.size (by omega) (wn w w.size)
    simp only [hno] at k36
    have k19 := c19 F d hF w hw h0 h64
    rw [hcl] at k19
    have kA := c19 F d hF (tn w (r % w.size)) (marks_tn hw _) (by omega) (by omega)
    rw [clV_congr hsz (fun n hn => dfB_tn hrz), hcl, hsz] at kA
    have kB := c19 F d hF (bk w) (marks_bk hw) (by rw [bk_size]; omega) (by rw [bk_size]; omega)
    rw [clV_congr (bk_size w) (fun n hn => dfB_bk (by omega)), hcl, bk_size, ← hbkf] at kB
    have kC := c19 F d hF (ot w) (marks_ot w) (by rw [ot_size]; omega) (by rw [ot_size]; omega)
    rw [clV_congr (ot_size w) (fun n hn => dfB_ot hw), hcl, ot_size, ← hotf] at kC
    refine call_in (n := 115) Try.func8 rfl rfl rfl rfl rfl rfl rfl ?_
    repeat' ((conv => whnf); first | refine eqS_rfl ?_ | refine eqA_rfl ?_ | refine eqA_of (by assumption) ?_ | refine eqS_of (by rfl) ?_ | refine eqL_rfl ?_ | refine eqJ_rfl ?_ | refine gE ?_ | refine seS_rfl ?_ | refine lsS_of hup ?_ | refine lsS_rfl ?_ | refine brS_tt ?_ | refine brS_ff ?_ | refine brS_not ?_ | refine gI ?_ | refine gT ?_ | refine gF ?_ | refine brS_intro (fun _ => ?_) (fun _ => ?_) | refine gL ?_ | refine gX ?_ | refine gO ?_ | refine gN ?_ | refine gM ?_ | refine gY ?_ | refine call_row hwd hq ?_ | refine call_readL k19 (addL (9500000 + R) 350) (by rfl) (SeesM.nil _) (nM1) ?_ | intro _)
    rename_i bx bi1
    conv => whnf
    refine loS_i (fun jj f mm R' ni => ∃ j : Nat, j ≤ w.size ∧ jj = w.size - j + 1 ∧ f = [(1, .int .u8 (Int.ofNat r)), (5, .val (.string w)), (6, .int .i64 0), (7, .int .i64 14), (8, .val (.string (bkp w j))), (9, .val (.string (otp w j))), (23, .ptr 1 bi1 0)] ∧ mm = [(1, .it bi1 w j), (0, .own bx 46 [.int .u64 b, .int .u8 (Int.ofNat q)])] ∧ R' = (addL (1000 * (w.size - j) + (9000000 + R)) 300) ∧ ni = 100) (w.size + 1) (by omega)
      ⟨[(1, .int .u8 (Int.ofNat r)), (5, .val (.string w)), (6, .int .i64 0), (7, .int .i64 14), (8, .val (.string (bkp w 0))), (9, .val (.string (otp w 0))), (23, .ptr 1 bi1 0)], [(1, .it bi1 w 0), (0, .own bx 46 [.int .u64 b, .int .u8 (Int.ofNat q)])], (addL (1000 * (w.size - 0) + (9000000 + R)) 300), 100, ⟨eqF_rfl _, eqF_rfl _, eqF_rfl _, eqF_rfl _, eqF_rfl _, eqF_rfl _, eqF_rfl _, trivial⟩, WS, by rw [Nat.sub_zero]; (first | (simp only [addL_eq, addL_rec]; omega) | omega | exact Nat.le_refl _), 0, by omega, by omega, rfl, rfl, rfl, rfl⟩ ?_
    rintro _ _ _ _ _ ⟨j, hjw, rfl, rfl, rfl, rfl, rfl⟩
    by_cases hlt : j < w.size
    · have d0 : Nat.blt j w.size = true := blt_of hlt
      obtain ⟨ch, _, hd⟩ := decode_mark hw hlt
      have hb : 1000 * (w.size - j) = 1000 * (w.size - (j + 1)) + 1000 := by omega
      have hj1 : wr .i64 (Int.add (Int.ofNat j) 1) = Int.ofNat (j + 1) := smn (i := j + 1) (by omega)
      obtain ⟨cb, hch, hcm⟩ := mark_at hw hlt
      have hs1 := sz_bk w j
      have hs2 := sz_ot w j cb
      repeat' ((conv => whnf); first | refine eqS_rfl ?_ | refine eqA_rfl ?_ | refine eqA_of (by assumption) ?_ | refine eqS_of (by rfl) ?_ | refine eqL_rfl ?_ | refine eqJ_rfl ?_ | refine gE ?_ | refine seS_rfl ?_ | refine lsS_of hup ?_ | refine lsS_rfl ?_ | refine brS_tt ?_ | refine brS_ff ?_ | refine brS_not ?_ | refine gI ?_ | refine gT ?_ | refine gF ?_ | refine brS_intro (fun _ => ?_) (fun _ => ?_) | refine gL ?_ | refine gX ?_ | refine gO ?_ | refine gN ?_ | refine gM ?_ | refine gY ?_ | refine ixS_of rfl (by show _ < _ + 1; omega) ?_ | refine ltS_intro (tn_sz w _ (by omega)) ?_ | refine dcS_of hd ?_ | refine ixS_of hj1 (by show _ < _ + 1; omega) ?_ | refine ltS_intro hs1 ?_ | rw [hch] | refine bytL_of [xorI .u8 (Int.ofNat cb.toNat) 1] rfl ?_ | refine ltS_intro hs2 ?_ | intro _)
      conv => whnf
      exact ⟨w.size - (j + 1) + 1, [(1, .int .u8 (Int.ofNat r)), (5, .val (.string w)), (6, .int .i64 0), (7, .int .i64 14), (8, .val (.string (bkp w (j + 1)))), (9, .val (.string (otp w (j + 1)))), (23, .ptr 1 bi1 0)], [(1, .it bi1 w (j + 1)), (0, .own bx 46 [.int .u64 b, .int .u8 (Int.ofNat q)])], (addL (1000 * (w.size - (j + 1)) + (9000000 + R)) 300), 100, by omega, ⟨eqF_rfl _, eqF_rfl _, eqF_rfl _, eqF_rfl _, ⟨congrArg Value.string (bkp_s hch), rfl⟩, ⟨congrArg Value.string (otp_s hch hcm), rfl⟩, eqF_rfl _, trivial⟩, WS, nM1, j + 1, by omega, rfl, rfl, rfl, rfl, rfl⟩
    · have e2 : j = w.size := by omega
      subst e2
      have d0 : Nat.blt w.size w.size = false := blt_no (Nat.le_refl _)
      repeat' ((conv => whnf); first | refine eqS_rfl ?_ | refine eqA_rfl ?_ | refine eqA_of (by assumption) ?_ | refine eqS_of (by rfl) ?_ | refine eqL_rfl ?_ | refine eqJ_rfl ?_ | refine gE ?_ | refine seS_rfl ?_ | refine lsS_of hup ?_ | refine lsS_rfl ?_ | refine brS_tt ?_ | refine brS_ff ?_ | refine brS_not ?_ | refine gI ?_ | refine gT ?_ | refine gF ?_ | refine brS_intro (fun _ => ?_) (fun _ => ?_) | refine gL ?_ | refine gX ?_ | refine gO ?_ | refine gN ?_ | refine gM ?_ | refine gY ?_ | refine callS.cast (fv' := .fn 35 [] []) (args' := [.val (.string w), .int .i64 (Int.ofNat (r % w.size))]) rfl harg (call_pure kr ?_) | intro _)
      conv => whnf
      refine loS_u 4 (by omega) ?_
      repeat' ((conv => whnf); first | refine eqS_rfl ?_ | refine eqA_rfl ?_ | refine eqA_of (by assumption) ?_ | refine eqS_of (by rfl) ?_ | refine eqL_rfl ?_ | refine eqJ_rfl ?_ | refine gE ?_ | refine seS_rfl ?_ | refine lsS_of hup ?_ | refine lsS_rfl ?_ | refine brS_tt ?_ | refine brS_ff ?_ | refine brS_not ?_ | refine gI ?_ | refine gT ?_ | refine gF ?_ | refine brS_intro (fun _ => ?_) (fun _ => ?_) | refine gL ?_ | refine gX ?_ | refine gO ?_ | refine gN ?_ | refine gM ?_ | refine gY ?_ | refine call_readL kA (addL (7000000 + R) 250) (by rfl) (SeesM.nil _) (nM1) ?_ | refine call_readL kB (addL (5000000 + R) 200) (by rfl) (SeesM.nil _) (nM1) ?_ | refine call_readL kC (addL (3000000 + R) 150) (by rfl) (SeesM.nil _) (nM1) ?_ | refine call_w rfl ?_ | refine callQW (c37 F _ 800 hF w hw h0 h64 w.size (Nat.le_refl _)) (addL (1000000 + R) 120) (by rfl) (SeesM.nil _) (nM1) ?_ | refine call_readL (k36 _ 10) (addL R 100) (by rfl) (by exact SeesM.cons 1000 (sees_gr (i := 800) (by rfl)) (SeesM.nil _) (fun _ _ _ _ _ _ x hx => by cases hx)) (nM1) ?_ | intro _)
      conv => whnf

      exact ⟨rfl, nM1⟩

  · have hda : dfX (wn w n) w.size = true := hdt
    have k36a := fun a e => c36 F (d + 6) hF a w.size e w.size (by omega) (wn w n)
    simp only [hda] at k36a
    have f1 : iLt (Int.ofNat n) 0 = false := iLt_0 _
    have f2 : iLt (Int.ofNat w.size) (Int.ofNat n) = false := iLt_f (by omega)
    by_cases hn0 : n = 0
    · subst hn0
      have k19 := c19 F d hF w hw h0 h64
      rw [hcl] at k19
      have kA := c19 F d hF (tn w (r % w.size)) (marks_tn hw _) (by omega) (by omega)
      rw [clV_congr hsz (fun n hn => dfB_tn hrz), hcl, hsz] at kA
      have kB := c19 F d hF (bk w) (marks_bk hw) (by rw [bk_size]; omega) (by rw [bk_size]; omega)
      rw [clV_congr (bk_size w) (fun n hn => dfB_bk (by omega)), hcl, bk_size, ← hbkf] at kB
      have kC := c19 F d hF (ot w) (marks_ot w) (by rw [ot_size]; omega) (by rw [ot_size]; omega)
      rw [clV_congr (ot_size w) (fun n hn => dfB_ot hw), hcl, ot_size, ← hotf] at kC
      refine call_in (n := 115) Try.func8 rfl rfl rfl rfl rfl rfl rfl ?_
      repeat' ((conv => whnf); first | refine eqS_rfl ?_ | refine eqA_rfl ?_ | refine eqA_of (by assumption) ?_ | refine eqS_of (by rfl) ?_ | refine eqL_rfl ?_ | refine eqJ_rfl ?_ | refine gE ?_ | refine seS_rfl ?_ | refine lsS_of hup ?_ | refine lsS_rfl ?_ | refine brS_tt ?_ | refine brS_ff ?_ | refine brS_not ?_ | refine gI ?_ | refine gT ?_ | refine gF ?_ | refine brS_intro (fun _ => ?_) (fun _ => ?_) | refine gL ?_ | refine gX ?_ | refine gO ?_ | refine gN ?_ | refine gM ?_ | refine gY ?_ | refine call_row hwd hq ?_ | refine call_readL k19 (addL (9500000 + R) 350) (by rfl) (SeesM.nil _) (nM1) ?_ | intro _)
      rename_i bx bi1
      conv => whnf
      refine loS_i (fun jj f mm R' ni => ∃ j : Nat, j ≤ w.size ∧ jj = w.size - j + 1 ∧ f = [(1, .int .u8 (Int.ofNat r)), (5, .val (.string w)), (6, .int .i64 0), (7, .int .i64 0), (8, .val (.string (bkp w j))), (9, .val (.string (otp w j))), (23, .ptr 1 bi1 0)] ∧ mm = [(1, .it bi1 w j), (0, .own bx 46 [.int .u64 b, .int .u8 (Int.ofNat q)])] ∧ R' = (addL (1000 * (w.size - j) + (9000000 + R)) 300) ∧ ni = 100) (w.size + 1) (by omega)
        ⟨[(1, .int .u8 (Int.ofNat r)), (5, .val (.string w)), (6, .int .i64 0), (7, .int .i64 0), (8, .val (.string (bkp w 0))), (9, .val (.string (otp w 0))), (23, .ptr 1 bi1 0)], [(1, .it bi1 w 0), (0, .own bx 46 [.int .u64 b, .int .u8 (Int.ofNat q)])], (addL (1000 * (w.size - 0) + (9000000 + R)) 300), 100, ⟨eqF_rfl _, eqF_rfl _, eqF_rfl _, eqF_rfl _, eqF_rfl _, eqF_rfl _, eqF_rfl _, trivial⟩, WS, by rw [Nat.sub_zero]; (first | (simp only [addL_eq, addL_rec]; omega) | omega | exact Nat.le_refl _), 0, by omega, by omega, rfl, rfl, rfl, rfl⟩ ?_
      rintro _ _ _ _ _ ⟨j, hjw, rfl, rfl, rfl, rfl, rfl⟩
      by_cases hlt : j < w.size
      · have d0 : Nat.blt j w.size = true := blt_of hlt
        obtain ⟨ch, _, hd⟩ := decode_mark hw hlt
        have hb : 1000 * (w.size - j) = 1000 * (w.size - (j + 1)) + 1000 := by omega
        have hj1 : wr .i64 (Int.add (Int.ofNat j) 1) = Int.ofNat (j + 1) := smn (i := j + 1) (by omega)
        obtain ⟨cb, hch, hcm⟩ := mark_at hw hlt
        have hs1 := sz_bk w j
        have hs2 := sz_ot w j cb
        repeat' ((conv => whnf); first | refine eqS_rfl ?_ | refine eqA_rfl ?_ | refine eqA_of (by assumption) ?_ | refine eqS_of (by rfl) ?_ | refine eqL_rfl ?_ | refine eqJ_rfl ?_ | refine gE ?_ | refine seS_rfl ?_ | refine lsS_of hup ?_ | refine lsS_rfl ?_ | refine brS_tt ?_ | refine brS_ff ?_ | refine brS_not ?_ | refine gI ?_ | refine gT ?_ | refine gF ?_ | refine brS_intro (fun _ => ?_) (fun _ => ?_) | refine gL ?_ | refine gX ?_ | refine gO ?_ | refine gN ?_ | refine gM ?_ | refine gY ?_ | refine ixS_of rfl (by show _ < _ + 1; omega) ?_ | refine ltS_intro (tn_sz w _ (by omega)) ?_ | refine dcS_of hd ?_ | refine ixS_of hj1 (by show _ < _ + 1; omega) ?_ | refine ltS_intro hs1 ?_ | rw [hch] | refine bytL_of [xorI .u8 (Int.ofNat cb.toNat) 1] rfl ?_ | refine ltS_intro hs2 ?_ | intro _)
        conv => whnf
        exact ⟨w.size - (j + 1) + 1, [(1, .int .u8 (Int.ofNat r)), (5, .val (.string w)), (6, .int .i64 0), (7, .int .i64 0), (8, .val (.string (bkp w (j + 1)))), (9, .val (.string (otp w (j + 1)))), (23, .ptr 1 bi1 0)], [(1, .it bi1 w (j + 1)), (0, .own bx 46 [.int .u64 b, .int .u8 (Int.ofNat q)])], (addL (1000 * (w.size - (j + 1)) + (9000000 + R)) 300), 100, by omega, ⟨eqF_rfl _, eqF_rfl _, eqF_rfl _, eqF_rfl _, ⟨congrArg Value.string (bkp_s hch), rfl⟩, ⟨congrArg Value.string (otp_s hch hcm), rfl⟩, eqF_rfl _, trivial⟩, WS, nM1, j + 1, by omega, rfl, rfl, rfl, rfl, rfl⟩
      · have e2 : j = w.size := by omega
        subst e2
        have d0 : Nat.blt w.size w.size = false := blt_no (Nat.le_refl _)
        repeat' ((conv => whnf); first | refine eqS_rfl ?_ | refine eqA_rfl ?_ | refine eqA_of (by assumption) ?_ | refine eqS_of (by rfl) ?_ | refine eqL_rfl ?_ | refine eqJ_rfl ?_ | refine gE ?_ | refine seS_rfl ?_ | refine lsS_of hup ?_ | refine lsS_rfl ?_ | refine brS_tt ?_ | refine brS_ff ?_ | refine brS_not ?_ | refine gI ?_ | refine gT ?_ | refine gF ?_ | refine brS_intro (fun _ => ?_) (fun _ => ?_) | refine gL ?_ | refine gX ?_ | refine gO ?_ | refine gN ?_ | refine gM ?_ | refine gY ?_ | refine callS.cast (fv' := .fn 35 [] []) (args' := [.val (.string w), .int .i64 (Int.ofNat (r % w.size))]) rfl harg (call_pure kr ?_) | intro _)
        conv => whnf
        refine loS_u 4 (by omega) ?_
        repeat' ((conv => whnf); first | refine eqS_rfl ?_ | refine eqA_rfl ?_ | refine eqA_of (by assumption) ?_ | refine eqS_of (by rfl) ?_ | refine eqL_rfl ?_ | refine eqJ_rfl ?_ | refine gE ?_ | refine seS_rfl ?_ | refine lsS_of hup ?_ | refine lsS_rfl ?_ | refine brS_tt ?_ | refine brS_ff ?_ | refine brS_not ?_ | refine gI ?_ | refine gT ?_ | refine gF ?_ | refine brS_intro (fun _ => ?_) (fun _ => ?_) | refine gL ?_ | refine gX ?_ | refine gO ?_ | refine gN ?_ | refine gM ?_ | refine gY ?_ | refine call_readL kA (addL (7000000 + R) 250) (by rfl) (SeesM.nil _) (nM1) ?_ | refine call_readL kB (addL (5000000 + R) 200) (by rfl) (SeesM.nil _) (nM1) ?_ | refine call_readL kC (addL (3000000 + R) 150) (by rfl) (SeesM.nil _) (nM1) ?_ | refine call_w rfl ?_ | refine callQW (c37 F _ 800 hF w hw h0 h64 0 (by omega)) (addL (1000000 + R) 120) (by rfl) (SeesM.nil _) (nM1) ?_ | refine call_readL (k36a _ 10) (addL R 100) (by rfl) (by exact SeesM.cons 1000 (sees_gr (i := 800) (by rfl)) (SeesM.nil _) (fun _ _ _ _ _ _ x hx => by cases hx)) (nM1) ?_ | intro _)
        conv => whnf

        exact ⟨rfl, nM1⟩

    · have f4 : iEq (Int.ofNat n) 0 = false := (iEq_n (a := n) (b := 0)).trans (decide_eq_false hn0)
      have hdb : dfX (wn w (n - 1)) w.size = false := hdf (n - 1) (by omega)
      have k36b := fun a e => c36 F (d + 6) hF a w.size e w.size (by omega) (wn w (n - 1))
      simp only [hdb] at k36b
      have hb1 : dens [.val (.string w), .int .i64 (wr .i64 (Int.sub (Int.ofNat n) 1))] = dens [.val (.string w), .int .i64 (Int.ofNat (n - 1))] := by
        rw [show Int.sub (Int.ofNat n) 1 = Int.ofNat (n - 1) by show (n : Int) - 1 = ((n - 1 : Nat) : Int); omega, smn (i := n - 1) (by omega)]
      have k19 := c19 F d hF w hw h0 h64
      rw [hcl] at k19
      have kA := c19 F d hF (tn w (r % w.size)) (marks_tn hw _) (by omega) (by omega)
      rw [clV_congr hsz (fun n hn => dfB_tn hrz), hcl, hsz] at kA
      have kB := c19 F d hF (bk w) (marks_bk hw) (by rw [bk_size]; omega) (by rw [bk_size]; omega)
      rw [clV_congr (bk_size w) (fun n hn => dfB_bk (by omega)), hcl, bk_size, ← hbkf] at kB
      have kC := c19 F d hF (ot w) (marks_ot w) (by rw [ot_size]; omega) (by rw [ot_size]; omega)
      rw [clV_congr (ot_size w) (fun n hn => dfB_ot hw), hcl, ot_size, ← hotf] at kC
      refine call_in (n := 115) Try.func8 rfl rfl rfl rfl rfl rfl rfl ?_
      repeat' ((conv => whnf); first | refine eqS_rfl ?_ | refine eqA_rfl ?_ | refine eqA_of (by assumption) ?_ | refine eqS_of (by rfl) ?_ | refine eqL_rfl ?_ | refine eqJ_rfl ?_ | refine gE ?_ | refine seS_rfl ?_ | refine lsS_of hup ?_ | refine lsS_rfl ?_ | refine brS_tt ?_ | refine brS_ff ?_ | refine brS_not ?_ | refine gI ?_ | refine gT ?_ | refine gF ?_ | refine brS_intro (fun _ => ?_) (fun _ => ?_) | refine gL ?_ | refine gX ?_ | refine gO ?_ | refine gN ?_ | refine gM ?_ | refine gY ?_ | refine call_row hwd hq ?_ | refine call_readL k19 (addL (9500000 + R) 350) (by rfl) (SeesM.nil _) (nM1) ?_ | intro _)
      rename_i bx bi1
      conv => whnf
      refine loS_i (fun jj f mm R' ni => ∃ j : Nat, j ≤ w.size ∧ jj = w.size - j + 1 ∧ f = [(1, .int .u8 (Int.ofNat r)), (5, .val (.string w)), (6, .int .i64 (Int.ofNat n)), (7, .int .i64 0), (8, .val (.string (bkp w j))), (9, .val (.string (otp w j))), (23, .ptr 1 bi1 0)] ∧ mm = [(1, .it bi1 w j), (0, .own bx 46 [.int .u64 b, .int .u8 (Int.ofNat q)])] ∧ R' = (addL (1000 * (w.size - j) + (9000000 + R)) 300) ∧ ni = 100) (w.size + 1) (by omega)
        ⟨[(1, .int .u8 (Int.ofNat r)), (5, .val (.string w)), (6, .int .i64 (Int.ofNat n)), (7, .int .i64 0), (8, .val (.string (bkp w 0))), (9, .val (.string (otp w 0))), (23, .ptr 1 bi1 0)], [(1, .it bi1 w 0), (0, .own bx 46 [.int .u64 b, .int .u8 (Int.ofNat q)])], (addL (1000 * (w.size - 0) + (9000000 + R)) 300), 100, ⟨eqF_rfl _, eqF_rfl _, eqF_rfl _, eqF_rfl _, eqF_rfl _, eqF_rfl _, eqF_rfl _, trivial⟩, WS, by rw [Nat.sub_zero]; (first | (simp only [addL_eq, addL_rec]; omega) | omega | exact Nat.le_refl _), 0, by omega, by omega, rfl, rfl, rfl, rfl⟩ ?_
      rintro _ _ _ _ _ ⟨j, hjw, rfl, rfl, rfl, rfl, rfl⟩
      by_cases hlt : j < w.size
      · have d0 : Nat.blt j w.size = true := blt_of hlt
        obtain ⟨ch, _, hd⟩ := decode_mark hw hlt
        have hb : 1000 * (w.size - j) = 1000 * (w.size - (j + 1)) + 1000 := by omega
        have hj1 : wr .i64 (Int.add (Int.ofNat j) 1) = Int.ofNat (j + 1) := smn (i := j + 1) (by omega)
        obtain ⟨cb, hch, hcm⟩ := mark_at hw hlt
        have hs1 := sz_bk w j
        have hs2 := sz_ot w j cb
        repeat' ((conv => whnf); first | refine eqS_rfl ?_ | refine eqA_rfl ?_ | refine eqA_of (by assumption) ?_ | refine eqS_of (by rfl) ?_ | refine eqL_rfl ?_ | refine eqJ_rfl ?_ | refine gE ?_ | refine seS_rfl ?_ | refine lsS_of hup ?_ | refine lsS_rfl ?_ | refine brS_tt ?_ | refine brS_ff ?_ | refine brS_not ?_ | refine gI ?_ | refine gT ?_ | refine gF ?_ | refine brS_intro (fun _ => ?_) (fun _ => ?_) | refine gL ?_ | refine gX ?_ | refine gO ?_ | refine gN ?_ | refine gM ?_ | refine gY ?_ | refine ixS_of rfl (by show _ < _ + 1; omega) ?_ | refine ltS_intro (tn_sz w _ (by omega)) ?_ | refine dcS_of hd ?_ | refine ixS_of hj1 (by show _ < _ + 1; omega) ?_ | refine ltS_intro hs1 ?_ | rw [hch] | refine bytL_of [xorI .u8 (Int.ofNat cb.toNat) 1] rfl ?_ | refine ltS_intro hs2 ?_ | intro _)
        conv => whnf
        exact ⟨w.size - (j + 1) + 1, [(1, .int .u8 (Int.ofNat r)), (5, .val (.string w)), (6, .int .i64 (Int.ofNat n)), (7, .int .i64 0), (8, .val (.string (bkp w (j + 1)))), (9, .val (.string (otp w (j + 1)))), (23, .ptr 1 bi1 0)], [(1, .it bi1 w (j + 1)), (0, .own bx 46 [.int .u64 b, .int .u8 (Int.ofNat q)])], (addL (1000 * (w.size - (j + 1)) + (9000000 + R)) 300), 100, by omega, ⟨eqF_rfl _, eqF_rfl _, eqF_rfl _, eqF_rfl _, ⟨congrArg Value.string (bkp_s hch), rfl⟩, ⟨congrArg Value.string (otp_s hch hcm), rfl⟩, eqF_rfl _, trivial⟩, WS, nM1, j + 1, by omega, rfl, rfl, rfl, rfl, rfl⟩
      · have e2 : j = w.size := by omega
        subst e2
        have d0 : Nat.blt w.size w.size = false := blt_no (Nat.le_refl _)
        repeat' ((conv => whnf); first | refine eqS_rfl ?_ | refine eqA_rfl ?_ | refine eqA_of (by assumption) ?_ | refine eqS_of (by rfl) ?_ | refine eqL_rfl ?_ | refine eqJ_rfl ?_ | refine gE ?_ | refine seS_rfl ?_ | refine lsS_of hup ?_ | refine lsS_rfl ?_ | refine brS_tt ?_ | refine brS_ff ?_ | refine brS_not ?_ | refine gI ?_ | refine gT ?_ | refine gF ?_ | refine brS_intro (fun _ => ?_) (fun _ => ?_) | refine gL ?_ | refine gX ?_ | refine gO ?_ | refine gN ?_ | refine gM ?_ | refine gY ?_ | refine callS.cast (fv' := .fn 35 [] []) (args' := [.val (.string w), .int .i64 (Int.ofNat (r % w.size))]) rfl harg (call_pure kr ?_) | intro _)
        conv => whnf
        refine loS_u 4 (by omega) ?_
        repeat' ((conv => whnf); first | refine eqS_rfl ?_ | refine eqA_rfl ?_ | refine eqA_of (by assumption) ?_ | refine eqS_of (by rfl) ?_ | refine eqL_rfl ?_ | refine eqJ_rfl ?_ | refine gE ?_ | refine seS_rfl ?_ | refine lsS_of hup ?_ | refine lsS_rfl ?_ | refine brS_tt ?_ | refine brS_ff ?_ | refine brS_not ?_ | refine gI ?_ | refine gT ?_ | refine gF ?_ | refine brS_intro (fun _ => ?_) (fun _ => ?_) | refine gL ?_ | refine gX ?_ | refine gO ?_ | refine gN ?_ | refine gM ?_ | refine gY ?_ | refine call_readL kA (addL (7000000 + R) 250) (by rfl) (SeesM.nil _) (nM1) ?_ | refine call_readL kB (addL (5000000 + R) 200) (by rfl) (SeesM.nil _) (nM1) ?_ | refine call_readL kC (addL (3000000 + R) 150) (by rfl) (SeesM.nil _) (nM1) ?_ | refine call_w rfl ?_ | refine callQW (c37 F _ 800 hF w hw h0 h64 n (by omega)) (addL (2000000 + R) 140) (by rfl) (SeesM.nil _) (nM1) ?_ | refine call_readL (k36a _ 10) (addL (1500000 + R) 130) (by rfl) (by exact SeesM.cons 1000 (sees_gr (i := 800) (by rfl)) (SeesM.nil _) (fun _ _ _ _ _ _ x hx => by cases hx)) (nM1) ?_ | refine callS.cast (fv' := .fn 37 [] []) (args' := [.val (.string w), .int .i64 (Int.ofNat (n - 1))]) rfl hb1 (callQW (c37 F _ 801 hF w hw h0 h64 (n - 1) (by omega)) (addL (1000000 + R) 120) (by rfl) (SeesM.nil _) (nM1) ?_) | refine call_readL (k36b _ 10) (addL R 100) (by rfl) (by exact SeesM.cons 1000 (sees_gr (i := 801) (by rfl)) (SeesM.nil _) (fun _ _ _ _ _ _ x hx => by cases hx)) (nM1) ?_ | intro _)
        conv => whnf

        exact ⟨rfl, nM1⟩

end Go.Proofs.Ytfcgfnlifdjfjaa
namespace Go.Proofs.Ytfcgfnlifdjfjaa
open Go.Ab
attribute [local irreducible] aggOk drwOK
set_option maxRecDepth 100000
set_option maxHeartbeats 4000000
set_option linter.unusedVariables false
set_option linter.unusedSimpArgs false
attribute [local irreducible] callF cFun
theorem clear_calls (b : Int) (q : Nat) (hq : q < 256) (r : Nat) (hr : r < 256) (W : World) : Calls Try.prog 8 ⟨[.agg ⟨[.int .u64 b, .int .u8 (Int.ofNat q)]⟩, .int .u8 (Int.ofNat r)]⟩ W fun e W' => e = .returned (.bool true) ∧ Go.RowKit.Below W.heap.size W W' := by
  have hs : (stOf W []).nx + (11000000 + 400) ≤ 4398046511104 := by rw [stOf_nx]; decide
  have h1 := (l8 1000 0 (by decide) b q r hq hr).runs (d := 7) rfl rfl hs (stOf_fl W []) (fun x hx => by cases hx) (fun x hx => by cases hx)
  exact calls_open (F := 1000) (D := 7) (ext := extX libS 14) (f := 8) (args := [.agg ⟨[.int .u64 b, .int .u8 (Int.ofNat q)]⟩, .int .u8 (Int.ofNat r)]) (W := W) (Bs := []) draws name_ok extS_ok List.nodup_nil (Nat.zero_le _) h1
end Go.Proofs.Ytfcgfnlifdjfjaa
