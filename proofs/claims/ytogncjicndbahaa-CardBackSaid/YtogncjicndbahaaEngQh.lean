/- Open runs: slices that grow. -/
import Derived.Test.YtogncjicndbahaaEngQg
namespace Go.Ab
/-- a block that may be written, with all that it holds and its elements' type -/
def OwnE (s : St) (b : Nat) (e : TypeId) (L : List Value) : Prop := (b < s.nx ∧ s.ok b = true) ∧ b < 4398046511104 ∧ ∃ k n t g, s.at b = some (.cells k n t e g) ∧ Nat.beq e ro = false ∧ n = L.length ∧ n ≤ pow8 k ∧ gets k t 0 n = L
theorem OwnE.own {s : St} {b : Nat} {e : TypeId} {L : List Value} (h : OwnE s b e L) : Own s b L := by
  obtain ⟨h1, h0, k, n, t, g, h2, h3⟩ := h
  exact ⟨h1, h0, k, n, t, e, g, h2, h3⟩
theorem OwnE.fr {X : Nat → Prop} {s s' : St} (h : Fr X s s') {b : Nat} {e : TypeId} {L : List Value} (hA : OwnE s b e L) (hx : ¬ X b) : OwnE s' b e L := by
  obtain ⟨⟨h1, hok⟩, h0, k, n, t, g, h2, h3⟩ := hA
  exact ⟨⟨Nat.lt_of_lt_of_le h1 h.1, by unfold St.ok at hok ⊢; rw [h.2.2]; exact hok⟩, h0, k, n, t, g, (h.2.1 b h1 hx).trans h2, h3⟩
theorem OwnE.push {s : St} {l : List Value} {e : TypeId} {g : Bool} (hl : l.length ≤ 32768) (h : s.nx < 4398046511104) (hfl : s.fl ≤ s.nx) (he : Nat.beq e ro = false) : OwnE (s.push (mkC l e g)) s.nx e l := by
  refine ⟨⟨by rw [St.nx_push]; omega, ok_of hfl⟩, h, _, _, _, _, by rw [St.at_push h, if_pos rfl]; rfl, he, rfl, le_lvl _ hl, ?_⟩
  rcases gets_puts0 (l := l) with h | h
  · exact h
  · omega
/-- a slice that reads as a list of cells, and fills its block -/
def SlV (e sz : Nat) (s : St) (v : Value) (L : List Value) : Prop := (v = .slice none 0 0 ∧ L = []) ∨ ∃ b n, v = slc b 0 n n ∧ OwnE s b e L ∧ L.length = n * sz
/-- the block of a slice -/
def slB : Value → Nat → Prop
  | .slice (some ⟨c, _, _⟩) _ _, b => c = b
  | _, _ => False
theorem SlV.fr {X : Nat → Prop} {s s' : St} (h : Fr X s s') {e sz : Nat} {v : Value} {L : List Value} (hA : SlV e sz s v L) (hx : ∀ b, slB v b → ¬ X b) : SlV e sz s' v L := by
  rcases hA with hA | ⟨b, n, rfl, h1, h2⟩
  · exact .inl hA
  · exact .inr ⟨b, n, rfl, h1.fr h (hx b rfl), h2⟩
theorem SlV.lt {e sz : Nat} {s : St} {v : Value} {L : List Value} (h : SlV e sz s v L) : ∀ b, slB v b → b < s.nx := by
  rcases h with ⟨rfl, _⟩ | ⟨b, n, rfl, h1, h2⟩
  · intro b hb; cases hb
  · intro b' hb; have : b = b' := hb; subst this; exact h1.1.1
theorem gets_puts_end {k : Nat} {t : Fm Value k} {n : Nat} {L l : List Value} (h : gets k t 0 n = L) (hn : n = L.length) (hle : n + l.length ≤ pow8 k) : gets k (puts k n l t) 0 (n + l.length) = L ++ l := by
  refine List.ext_getElem? fun i => ?_
  by_cases hi : i < n + l.length
  · rw [gets_get _ _ _ _ _ hi, puts_get _ _ _ _ _ (by omega) (by omega), Nat.zero_add]
    by_cases hin : i < n
    · rw [if_neg (by omega), List.getElem?_append_left (by omega), ← h, gets_get _ _ _ _ _ hin, Nat.zero_add]
    · rw [if_pos (by omega), List.getElem?_append_right (by omega), List.getD_eq_getElem?_getD, List.getElem?_eq_getElem (by omega), ← hn]
      rw [List.getElem?_eq_getElem (by omega)]; rfl
  · rw [List.getElem?_eq_none (by rw [gets_length]; omega), List.getElem?_eq_none (by simp only [List.length_append]; omega)]
/-- an append of at least one element -/
theorem SlV.app {e sz : Nat} {s : St} {v : Value} {L : List Value} (h : SlV e sz s v L) {n : Nat} {l : List Value} (hl : l.length = n * sz) (hn : 1 ≤ n) (hsz : 1 ≤ sz) (hf : l.all flat1 = true) (hlen : L.length + l.length ≤ 32768) (hnx : s.nx < 4398046511104)
    (hfl : s.fl ≤ s.nx) (he : Nat.beq e ro = false) {K : KV} {r : Bool} (hK : ∀ v' s', s'.nx = s.nx + 1 → Fr (slB v) s s' → SlV e sz s' v' (L ++ l) → (∀ b, slB v' b → b = s.nx) → K v' s' = r) : appS e sz v n l s K = r := by
  unfold appS
  rw [hf]
  simp only [cond_true]
  have hn0 : Nat.beq n 0 = false := by cases n with | zero => omega | succ n => rfl
  rcases h with ⟨rfl, rfl⟩ | ⟨b, m, rfl, hO, hm⟩
  · show (bif Nat.beq n 0 then K (.slice none 0 0) s else newC s l e true fun b s' => K (slc b 0 n n) s') = r
    rw [hn0]
    simp only [cond_false, newC, blt_of hnx]
    have hll : Nat.ble l.length 32768 = true := Nat.ble_eq_true_of_le (by simpa using hlen)
    rw [hll]
    refine hK _ _ (St.nx_push _ _) (Fr.of_keep (Keep.push _ hnx)) (.inr ⟨s.nx, n, rfl, ?_, hl⟩) (fun b hb => hb.symm)
    exact OwnE.push (by simpa using hlen) hnx hfl he
  · show (bif Nat.ble (Nat.add m n) m then stN s b (Nat.add 0 (Nat.mul m sz)) l (fun s' => K (slc b 0 (Nat.add m n) m) s') else growS s e sz b 0 m n l K) = r
    have h1 : Nat.ble (Nat.add m n) m = false := by
      cases h : Nat.ble (Nat.add m n) m with
      | false => rfl
      | true => have := ble_true h; have : m + n ≤ m := this; omega
    rw [h1]
    obtain ⟨⟨hb1, hok⟩, h0, k, cn, t, g, h2, h3, h4, h5, h6⟩ := hO
    have hmn : (m + n) * sz = L.length + l.length := by rw [Nat.add_mul, ← hm, ← hl]
    have hmn1 : m + n ≤ (m + n) * sz := Nat.le_mul_of_pos_right _ hsz
    have hb2 : Nat.ble (Nat.add m n) 32768 = true := Nat.ble_eq_true_of_le (by show m + n ≤ 32768; omega)
    have hb3 : Nat.ble (Nat.add 0 (Nat.mul m sz)) cn = true := Nat.ble_eq_true_of_le (by show 0 + m * sz ≤ cn; omega)
    simp only [cond_false, growS, hb2, cond_true, onCells, h2, Nat.beq_refl, hok, Bool.true_and, Bool.true_or, hb3]
    have hs1 : ∀ (o : AObj), Fr (slB (slc b 0 m m)) s ((bif g then s.set b none else s).push o) := fun o => by
      have hnx' : (bif g then s.set b none else s).nx = s.nx := by cases g <;> rfl
      refine ⟨by rw [St.nx_push, hnx']; omega, fun c hc hx => ?_, by cases g <;> rfl⟩
      rw [St.at_push (by rw [hnx']; exact hnx), hnx', if_neg (by omega)]
      clear h2
      cases g with
      | false => rfl
      | true => exact (St.at_set h0).trans (if_neg fun e => hx e.symm)
    have hnx' : (bif g then s.set b none else s).nx = s.nx := by cases g <;> rfl
    have hfl' : (bif g then s.set b none else s).fl = s.fl := by cases g <;> rfl
    have htot : Nat.mul (Nat.add m n) sz = L.length + l.length := hmn
    have hmm : Nat.mul m sz = L.length := hm.symm
    rw [htot, hmm]
    cases hfit : Nat.ble (L.length + l.length) (pow8 k) with
    | true =>
      have hfit := ble_true hfit
      simp only [cond_true, blt_of hnx]
      refine hK _ _ ?_ (hs1 _) (.inr ⟨s.nx, m + n, rfl, ?_, by rw [List.length_append]; exact hmn.symm⟩) (fun b hb => hb.symm)
      · rw [St.nx_push, hnx']
      · have hlt : (bif g then s.set b none else s).nx < 4398046511104 := by rw [hnx']; exact hnx
        refine ⟨⟨by rw [St.nx_push, hnx']; omega, ?_⟩, hnx, k, L.length + l.length, _, true, by rw [St.at_push hlt, hnx', if_pos rfl], he, by rw [List.length_append], hfit, ?_⟩
        · refine ok_of ?_
          show (bif g then s.set b none else s).fl ≤ s.nx
          rw [hfl']; exact hfl
        · have := gets_puts_end (l := l) h6 h4 (by rw [h4]; exact hfit)
          rw [h4] at this
          exact this
    | false =>
      simp only [cond_false, newC, hnx', blt_of hnx]
      have e0 : gets k t 0 L.length = L := by rw [← h4]; exact h6
      rw [e0]
      have hll : Nat.ble (L ++ l).length 32768 = true := Nat.ble_eq_true_of_le (by rw [List.length_append]; exact hlen)
      rw [hll]
      refine hK _ _ ?_ (hs1 _) (.inr ⟨s.nx, m + n, rfl, ?_, by rw [List.length_append]; exact hmn.symm⟩) (fun b hb => hb.symm)
      · rw [St.nx_push, hnx']
      · have := OwnE.push (s := (bif g then s.set b none else s)) (l := L ++ l) (e := e) (g := true) (by rw [List.length_append]; exact hlen) (by rw [hnx']; exact hnx) (by rw [hfl', hnx']; exact hfl) he
        rw [hnx'] at this
        exact this
/-- what is read once more beside a call -/
theorem recheck_t {mask : Nat} {l : List (Nat × (St → Bool))} {s : St} {A r : Bool} (h : recheck mask l s = true) (hA : A = r) : (recheck mask l s && A) = r := by rw [h]; exact hA
theorem recheck_nil {mask : Nat} {s : St} : recheck mask [] s = true := rfl
theorem recheck_skip {mask i : Nat} {c : St → Bool} {l : List (Nat × (St → Bool))} {s : St} (hi : Nat.testBit mask i = true) (h : recheck mask l s = true) : recheck mask ((i, c) :: l) s = true := by
  unfold recheck; rw [hi, h]; rfl
theorem recheck_cons {mask i : Nat} {c : St → Bool} {l : List (Nat × (St → Bool))} {s : St} (hc : c s = true) (h : recheck mask l s = true) : recheck mask ((i, c) :: l) s = true := by
  unfold recheck; rw [hc, h]; cases Nat.testBit mask i <;> rfl
theorem veq_int (f : Nat) (k : IntKind) (a : Int) : veq (f + 1) (.int k a) (.int k a) = true := by
  show (Nat.beq (kIdx k) (kIdx k) && iEq a a) = true
  rw [Nat.beq_refl, iEq_self]; rfl
theorem veq_slc (f b n c : Nat) : veq (f + 1) (slc b 0 n c) (slc b 0 n c) = true := by
  show (Nat.beq b b && Nat.beq 0 0 && Nat.beq n n && Nat.beq c c) = true
  simp [Nat.beq_refl]
theorem veqs_nil (f : Nat) : veqs (f + 1) [] [] = true := rfl
theorem veqs_cons (f : Nat) {x : Value} {l : List Value} (h : veq f x x = true) (hl : veqs f l l = true) : veqs (f + 1) (x :: l) (x :: l) = true := by
  show (veq f x x && veqs f l l) = true
  rw [h, hl]; rfl
theorem veq_agg (f : Nat) {l : List Value} (h : veqs f l l = true) : veq (f + 1) (.agg ⟨l⟩) (.agg ⟨l⟩) = true := h
theorem Keep.fr {X : Nat → Prop} {s0 s s' : St} (h : Keep s0 s) (k : Fr X s s') (hx : ∀ b, X b → s0.nx ≤ b) : Keep s0 s' :=
  ⟨Nat.le_trans h.1 k.1, fun b hb => (k.2.1 b (Nat.lt_of_lt_of_le hb h.1) fun hX => by have := hx b hX; omega).trans (h.2.1 b hb), k.2.2.trans h.2.2⟩
theorem OwnE.keep {s s' : St} (h : Keep s s') {b : Nat} {e : TypeId} {L : List Value} (hA : OwnE s b e L) : OwnE s' b e L := hA.fr (Fr.of_keep (X := fun _ => False) h) (fun h => h)
theorem SlV.keep {s s' : St} (h : Keep s s') {e sz : Nat} {v : Value} {L : List Value} (hA : SlV e sz s v L) : SlV e sz s' v L := hA.fr (Fr.of_keep (X := fun _ => False) h) (fun _ _ h => h)
end Go.Ab
