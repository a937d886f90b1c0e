/- Open runs: blocks that a run laid itself; what a run comes to. -/
import Derived.Test.YtogncjicndbahaaEngQa
namespace Go.Ab
/-- what a run comes to, whatever follows -/
def Sat (g : KV → Bool) (Post : Value → St → Prop) : Prop := ∀ K r, (∀ v s', Post v s' → K v s' = r) → g K = r
/-- memory has grown by so much at most -/
def Kp (N : Nat) (s s' : St) : Prop := Keep s s' ∧ s'.nx ≤ s.nx + N
theorem Kp.refl (s : St) : Kp 0 s s := ⟨.refl s, Nat.le_refl _⟩
theorem Kp.trans {N M : Nat} {s s' s'' : St} (h : Kp N s s') (k : Kp M s' s'') : Kp (N + M) s s'' := ⟨h.1.trans k.1, by have := h.2; have := k.2; omega⟩
theorem Kp.mono {N M : Nat} {s s' : St} (h : Kp N s s') (hle : N ≤ M) : Kp M s s' := ⟨h.1, by have := h.2; omega⟩
theorem Kp.push {s : St} (o : AObj) (h : s.nx < 4398046511104) : Kp 1 s (s.push o) := ⟨.push o h, by rw [St.nx_push]; exact Nat.le_refl _⟩
theorem Kp.more {s : St} {n N : Nat} (h : n ≤ N) : Kp N s ⟨s.h, Nat.add s.nx n, s.fl⟩ := ⟨⟨Nat.le_add_right _ _, fun _ _ => rfl, rfl⟩, Nat.add_le_add_left h _⟩
/-- a block that may be written, with all that it holds -/
def Own (s : St) (b : Nat) (L : List Value) : Prop := (b < s.nx ∧ s.ok b = true) ∧ b < 4398046511104 ∧ ∃ k n t e g, s.at b = some (.cells k n t e g) ∧ Nat.beq e ro = false ∧ n = L.length ∧ n ≤ pow8 k ∧ gets k t 0 n = L
theorem gets_part (k : Nat) (t : Fm Value k) {n a m : Nat} {L : List Value} (h : gets k t 0 n = L) (hm : a + m ≤ n) : gets k t a m = (L.drop a).take m := by
  subst h
  refine List.ext_getElem? fun i => ?_
  by_cases hi : i < m
  · rw [gets_get _ _ _ _ _ hi, List.getElem?_take_of_lt hi, List.getElem?_drop, gets_get _ _ _ _ _ (by omega), Nat.zero_add]
  · rw [List.getElem?_eq_none (by rw [gets_length]; omega), List.getElem?_eq_none (by rw [List.length_take, List.length_drop, gets_length]; omega)]
theorem Own.at {s : St} {b : Nat} {L : List Value} (h : Own s b L) : AtN s b 0 L := by
  obtain ⟨⟨h1, _⟩, _, k, n, t, e, g, h2, _, h4, _, h5⟩ := h
  exact ⟨h1, k, n, t, e, g, h2, by omega, by rw [← h4]; exact h5⟩
theorem Own.part {s : St} {b : Nat} {L : List Value} (h : Own s b L) {a m : Nat} (hm : a + m ≤ L.length) : AtN s b a ((L.drop a).take m) := by
  obtain ⟨⟨h1, _⟩, _, k, n, t, e, g, h2, _, h4, _, h5⟩ := h
  have hl : ((L.drop a).take m).length = m := by rw [List.length_take, List.length_drop]; omega
  exact ⟨h1, k, n, t, e, g, h2, by omega, by rw [hl]; exact gets_part k t h5 (by omega)⟩
theorem Own.keep {s s' : St} (h : Keep s s') {b : Nat} {L : List Value} (hA : Own s b L) : Own s' b L := by
  obtain ⟨⟨h1, hok⟩, h0, k, n, t, e, g, h2, h3⟩ := hA
  exact ⟨⟨Nat.lt_of_lt_of_le h1 h.1, by unfold St.ok at hok ⊢; rw [h.2.2]; exact hok⟩, h0, k, n, t, e, g, (h.2.1 b h1).trans h2, h3⟩
theorem gets_puts0 {l : List Value} : gets (lvl l.length) (puts (lvl l.length) 0 l (ini undef (lvl l.length))) 0 l.length = l ∨ 32768 < l.length := by
  rcases Nat.lt_or_ge 32768 l.length with h | h
  · exact .inr h
  · left
    have hle := le_lvl l.length h
    refine List.ext_getElem? fun i => ?_
    by_cases hi : i < l.length
    · rw [gets_get _ _ _ _ _ hi, puts_get _ _ 0 _ _ (by omega) (by omega), if_pos (by omega), List.getElem?_eq_getElem hi, List.getD_eq_getElem?_getD]
      simp [hi]
    · rw [List.getElem?_eq_none (by rw [gets_length]; omega), List.getElem?_eq_none (by omega)]
theorem ok_of {s : St} {b : Nat} (h : s.fl ≤ b) : s.ok b = true := by
  unfold St.ok
  cases hb : Nat.blt b s.fl with
  | false => rfl
  | true => have := blt_true hb; omega
theorem Own.push {s : St} {l : List Value} {e : TypeId} {g : Bool} (hl : l.length ≤ 32768) (h : s.nx < 4398046511104) (hfl : s.fl ≤ s.nx) (he : Nat.beq e ro = false) : Own (s.push (mkC l e g)) s.nx l := by
  refine ⟨⟨by rw [St.nx_push]; omega, ok_of hfl⟩, h, _, _, _, _, _, by rw [St.at_push h, if_pos rfl]; rfl, he, rfl, le_lvl _ hl, ?_⟩
  rcases gets_puts0 (l := l) with h | h
  · exact h
  · omega
theorem AtN.push {s : St} {l : List Value} {e : TypeId} {g : Bool} (hl : l.length ≤ 32768) (h : s.nx < 4398046511104) : AtN (s.push (mkC l e g)) s.nx 0 l := by
  refine ⟨by rw [St.nx_push]; omega, _, _, _, _, _, by rw [St.at_push h, if_pos rfl]; rfl, by omega, ?_⟩
  rcases gets_puts0 (l := l) with h | h
  · exact h
  · omega
/-- a block written -/
theorem Own.stN {s : St} {b : Nat} {L : List Value} (h : Own s b L) {o : Nat} {l : List Value} (hl : o + l.length ≤ L.length) (hf : l.all flat1 = true) {K : St → Bool} {r : Bool}
    (hk : ∀ s', s'.nx = s.nx → s'.fl = s.fl → (∀ s0 : St, s0.nx ≤ b → Keep s0 s → Keep s0 s') → (∀ c, c ≠ b → s'.at c = s.at c) → Own s' b (L.take o ++ l ++ L.drop (o + l.length)) → K s' = r) {o' : Nat} (ho : o' = o) : stN s b o' l K = r := by
  subst ho
  obtain ⟨⟨h1, hok⟩, h0, k, n, t, e, g, h2, h3, h4, h5, h6⟩ := h
  unfold Ab.stN onCellsW onCells
  rw [h2]
  have hble : Nat.ble (Nat.add o' l.length) n = true := Nat.ble_eq_true_of_le (by show o' + l.length ≤ n; omega)
  simp only [h3, hok, Bool.not_false, Bool.and_self, cond_true, hble, hf]
  refine hk _ rfl rfl (fun s0 hs0 hk0 => hk0.set hs0 h0) (fun c hc => by rw [St.at_set h0, if_neg hc]) ⟨⟨h1, hok⟩, h0, _, _, _, _, _, by rw [St.at_set h0, if_pos rfl], h3, ?_, h5, ?_⟩
  · simp only [List.length_append, List.length_take, List.length_drop]; omega
  · refine List.ext_getElem? fun i => ?_
    by_cases hi : i < n
    · rw [gets_get _ _ _ _ _ hi, puts_get _ _ _ _ _ (by omega) (by omega), Nat.zero_add]
      have hLi : L[i]? = some ((getW k i).g t) := by rw [← h6, gets_get _ _ _ _ _ hi, Nat.zero_add]
      have hto : (L.take o').length = o' := by rw [List.length_take]; omega
      by_cases hin : o' ≤ i ∧ i < o' + l.length
      · rw [if_pos hin, List.append_assoc, List.getElem?_append_right (by omega), List.getElem?_append_left (by omega), hto, List.getD_eq_getElem?_getD, List.getElem?_eq_getElem (by omega)]; rfl
      · rw [if_neg hin]
        by_cases h' : i < o'
        · rw [List.append_assoc, List.getElem?_append_left (by omega), List.getElem?_take_of_lt h', hLi]
        · rw [List.getElem?_append_right (by simp only [List.length_append]; omega), List.getElem?_drop, List.length_append, hto, show o' + l.length + (i - (o' + l.length)) = i from by omega, hLi]
    · rw [List.getElem?_eq_none (by rw [gets_length]; omega), List.getElem?_eq_none (by simp only [List.length_append, List.length_take, List.length_drop]; omega)]
theorem st1_eq (s : St) (b o : Nat) (v : Value) (K : St → Bool) : st1 s b o v K = Ab.stN s b o [v] K := by
  unfold st1 Ab.stN
  congr 1
  funext k n t e g
  have h1 : Nat.ble (Nat.add o [v].length) n = Nat.blt o n := rfl
  have h2 : ([v].all flat1) = flat1 v := by simp
  rw [h1, h2]; rfl
theorem Own.st1 {s : St} {b : Nat} {L : List Value} (h : Own s b L) {o : Nat} {v : Value} (hl : o < L.length) (hf : flat1 v = true) {K : St → Bool} {r : Bool}
    (hk : ∀ s', s'.nx = s.nx → s'.fl = s.fl → (∀ s0 : St, s0.nx ≤ b → Keep s0 s → Keep s0 s') → (∀ c, c ≠ b → s'.at c = s.at c) → Own s' b (L.set o v) → K s' = r) {o' : Nat} (ho : o' = o) : Ab.st1 s b o' v K = r := by
  rw [st1_eq]
  refine h.stN (l := [v]) hl (by simpa using hf) (fun s' h1 hfl h2 h3 h4 => hk s' h1 hfl h2 h3 ?_) ho
  have : L.set o v = L.take o ++ [v] ++ L.drop (o + [v].length) := by
    rw [List.set_eq_take_append_cons_drop, if_pos hl]; simp
  rw [this]; exact h4
theorem Own.same {s s' : St} {b : Nat} {L : List Value} (h : Own s b L) (hn : s'.nx = s.nx) (hfl : s'.fl = s.fl) (ha : s'.at b = s.at b) : Own s' b L := by
  obtain ⟨⟨h1, hok⟩, h0, k, n, t, e, g, h2, h3⟩ := h
  exact ⟨⟨by rw [hn]; exact h1, by unfold St.ok at hok ⊢; rw [hfl]; exact hok⟩, h0, k, n, t, e, g, ha.trans h2, h3⟩
theorem AtN.same {s s' : St} {b a : Nat} {L : List Value} (h : AtN s b a L) (hn : s'.nx = s.nx) (ha : s'.at b = s.at b) : AtN s' b a L := by
  obtain ⟨h1, k, n, t, e, g, h2, h3⟩ := h
  exact ⟨by rw [hn]; exact h1, k, n, t, e, g, ha.trans h2, h3⟩
theorem recheck_of {mask : Nat} {s : St} : ∀ {reads : List (Nat × (St → Bool))}, (∀ x ∈ reads, x.2 s = true) → recheck mask reads s = true
  | [], _ => rfl
  | (i, c) :: l, h => by
    have h1 := h (i, c) (by simp)
    have h2 := recheck_of (mask := mask) (reads := l) fun x hx => h x (by simp [hx])
    have h1 : c s = true := h1
    unfold recheck
    rw [h1, h2]
    cases Nat.testBit mask i <;> rfl
theorem iEq_self (a : Int) : iEq a a = true := by rw [iEq_eq]; simp
/-! small steps, where a run's next step is large -/
theorem cond_t {c A B r : Bool} (h : c = true) (hA : A = r) : cond c A B = r := by rw [h]; exact hA
theorem cond_f {c A B r : Bool} (h : c = false) (hB : B = r) : cond c A B = r := by rw [h]; exact hB
section
variable {P : Program} {F k n d : Nat} {call : CallT} {rd : Option Nat} {K : KC k} {m : List Nat} {t : Fm Value k} {s : St}
theorem run_skip : (cCode P F k n (d + 1) .skip).run call rd K m t s = K.n m t s := rfl
theorem run_skip' {kn : List Nat → Fm Value k → St → Bool} {kx : AExit → List Nat → Fm Value k → St → Bool} : (cCode P F k n (d + 1) .skip).run call rd ⟨kn, kx⟩ m t s = kn m t s := rfl
theorem run_seq {x y : Code} : (cCode P F k n (d + 1) (.seq x y)).run call rd K m t s = (cCode P F k n d x).run call rd ⟨fun m' t' s' => (cCode P F k n d y).run call rd K m' t' s', K.x⟩ m t s := rfl
theorem run_block {id : Nat} {x : Code} : (cCode P F k n (d + 1) (.block id x)).run call rd K m t s = (cCode P F k n d x).run call rd ⟨K.n, fun e m' t' s' => match e with
        | .exit id' => bif Nat.beq id' id then K.n m' t' s' else K.x (.exit id') m' t' s'
        | e => K.x e m' t' s'⟩ m t s := rfl
def drawMasks (ops : Array Oper) : List Nat := mkMasks [] ops.toList
def drawOrd (P : Program) (k n : Nat) (ops : Array Oper) : List (Nat × Oper) :=
  orderOf P k n (drawMasks ops) (((number 0 ops.toList).filter fun x => isEffO P k n x.2).map (·.1)) (number 0 ops.toList) 0 ((number 0 ops.toList).filter fun x => isEffO P k n x.2)
def drawChk (P : Program) (k n : Nat) (ops : Array Oper) : Bool := rowsOk ops.toList (drawMasks ops) 0 ops.toList && orderOk P k n (drawMasks ops) 0 none (drawOrd P k n ops) && covers (drawOrd P k n ops) ops.toList.length
theorem run_draw {ops : Array Oper} (hc : drawChk P k n ops = true) (hn : s.nx + ops.toList.length ≤ 4398046511104) {K : Fm Value k → St → Bool} {r : Bool}
    (h : (cDrs P k n ops.toList (drawMasks ops) (drawOrd P k n ops)).run call s.nx K [] [] t ⟨s.h, Nat.add s.nx ops.toList.length, s.fl⟩ = r) : (cDraw P k n ops).run call K t s = r := by
  have e : cDraw P k n ops = bif drawChk P k n ops then ⟨fun call K t s => bif Nat.ble (Nat.add s.nx ops.toList.length) 4398046511104 then (cDrs P k n ops.toList (drawMasks ops) (drawOrd P k n ops)).run call s.nx K [] [] t ⟨s.h, Nat.add s.nx ops.toList.length, s.fl⟩ else false⟩ else ⟨fun _ _ _ _ => false⟩ := rfl
  rw [e, hc]
  have hb : Nat.ble (Nat.add s.nx ops.toList.length) 4398046511104 = true := Nat.ble_eq_true_of_le hn
  simp only [cond_true, hb]
  exact h
theorem run_region {id : Nat} {ops : Array Oper} : (cCode P F k n (d + 1) (.region id ops true)).run call rd K m t s = (cDraw P k n ops).run call (fun t' s' => K.n m t' s') t s := rfl
end
end Go.Ab
