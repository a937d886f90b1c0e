/- Regions whose order is drawn: the check of the order; frames by what is listed. -/
import Derived.Test.YtogncjicndbahaaEngU
namespace Go.Ab
variable {P : Program} {k n : Nat}

theorem lor_bit (a b j : Nat) : Nat.testBit (Nat.lor a b) j = (Nat.testBit a j || Nat.testBit b j) := Nat.testBit_or a b j
theorem land_bit (a b j : Nat) : Nat.testBit (Nat.land a b) j = (Nat.testBit a j && Nat.testBit b j) := Nat.testBit_and a b j
theorem pow_bit (i j : Nat) : Nat.testBit (Nat.pow 2 i) j = decide (i = j) := Nat.testBit_two_pow

theorem edgesLt_spec {i : Nat} : ∀ {es : List Edge}, edgesLt i es = true → ∀ e ∈ es, Region.binds .any e = true → e.on < i
  | [], _, _, hx, _ => nomatch hx
  | e :: es, h, x, hx, hb => by
    simp only [edgesLt, Bool.and_eq_true, Bool.or_eq_true, Bool.not_eq_true'] at h
    rcases List.mem_cons.1 hx with rfl | hx
    · rcases h.1 with h1 | h1
      · rw [hb] at h1; cases h1
      · exact blt_true h1
    · exact edgesLt_spec h.2 x hx hb
theorem maskOf_spec {masks : List Nat} {j : Nat} : ∀ {es : List Edge}, Nat.testBit (maskOf masks es) j = true → ∃ e ∈ es, Region.binds .any e = true ∧ (e.on = j ∨ Nat.testBit (masks.getD e.on 0) j = true)
  | [], h => by simp [maskOf] at h
  | e :: es, h => by
    simp only [maskOf] at h
    cases hb : Region.binds .any e with
    | true =>
      rw [hb] at h
      simp only [cond_true, lor_bit, pow_bit, Bool.or_eq_true, decide_eq_true_eq] at h
      rcases h with h | h
      · exact ⟨e, by simp, hb, h⟩
      · obtain ⟨x, h1, h2, h3⟩ := maskOf_spec h; exact ⟨x, by simp [h1], h2, h3⟩
    | false =>
      rw [hb] at h
      obtain ⟨x, h1, h2, h3⟩ := maskOf_spec h; exact ⟨x, by simp [h1], h2, h3⟩
theorem apartFrom_spec {ops : List Oper} {mask : Nat} {o : Oper} : ∀ {qs : List Oper} {i : Nat}, apartFrom ops mask o i qs = true → ∀ x q, qs[x]? = some q → Nat.testBit mask (i + x) = true ∨ clash ops q o = false
  | [], _, _, _, _, hx => by simp at hx
  | q :: qs, i, h, x, y, hx => by
    simp only [apartFrom, Bool.and_eq_true, Bool.or_eq_true, Bool.not_eq_true'] at h
    cases x with
    | zero => simp at hx; subst hx; exact h.1
    | succ x =>
      have := apartFrom_spec h.2 x y (by simpa using hx)
      rw [show i + (x + 1) = Nat.add i 1 + x from by rw [Nat.add_eq]; omega]; exact this
theorem memN_false {d : Nat} : ∀ {l : List Nat}, memN d l = false → d ∉ l
  | [], _ => by simp
  | x :: xs, h => by
    simp only [memN, Bool.or_eq_false_iff] at h
    intro hm
    rcases List.mem_cons.1 hm with rfl | hm
    · rw [Nat.beq_refl] at h; cases h.1
    · exact memN_false h.2 hm
/-- neither writes what the other one looks at, nor both the same slot -/
structure Calm (ops : List Oper) (a b : Oper) : Prop where
  ab : ∀ d, a.dst = some d → d ∉ looks ops b
  ba : ∀ d, b.dst = some d → d ∉ looks ops a
  ww : ∀ d, a.dst = some d → b.dst ≠ some d
theorem Calm.symm {ops : List Oper} {a b : Oper} (h : Calm ops a b) : Calm ops b a := ⟨h.ba, h.ab, fun d h1 h2 => h.ww d h2 h1⟩
theorem clash_false {ops : List Oper} {a b : Oper} (h : clash ops a b = false) : Calm ops a b := by
  simp only [clash, Bool.or_eq_false_iff] at h
  obtain ⟨⟨h1, h2⟩, h3⟩ := h
  refine ⟨fun d hd => ?_, fun d hd => ?_, fun d hd hb => ?_⟩
  · rw [hd] at h1; exact memN_false h1
  · rw [hd] at h2; exact memN_false h2
  · rw [hb, hd] at h3
    have := memN_false (d := d) (l := (some d).toList) h3
    simp at this
structure Rows (l : List Oper) (masks : List Nat) : Prop where
  edge : ∀ i o, l[i]? = some o → ∀ e ∈ o.after, Region.binds .any e = true → e.on < i
  mask : ∀ i o, l[i]? = some o → ∀ j, Nat.testBit (masks.getD i 0) j = true → ∃ e ∈ o.after, Region.binds .any e = true ∧ (e.on = j ∨ Nat.testBit (masks.getD e.on 0) j = true)
  apart : ∀ i o j q, l[i]? = some o → l[j]? = some q → j < i → Nat.testBit (masks.getD i 0) j = true ∨ Calm l q o
theorem rowsOk_spec {l : List Oper} {masks : List Nat} : ∀ (os : List Oper) (i : Nat), rowsOk l masks i os = true → ∀ x o, os[x]? = some o →
    edgesLt (i + x) o.after.toList = true ∧ masks.getD (i + x) 0 = maskOf masks o.after.toList ∧ apartFrom l (masks.getD (i + x) 0) o 0 (l.take (i + x)) = true
  | [], _, _, _, _, hx => by simp at hx
  | q :: os, i, h, x, o, hx => by
    simp only [rowsOk, Bool.and_eq_true] at h
    cases x with
    | zero => simp at hx; subst hx; exact ⟨h.1.1.1, beq_true h.1.1.2, h.1.2⟩
    | succ x =>
      have := rowsOk_spec os (Nat.add i 1) h.2 x o (by simpa using hx)
      rw [show i + (x + 1) = Nat.add i 1 + x from by rw [Nat.add_eq]; omega]; exact this
theorem Rows.of {l : List Oper} {masks : List Nat} (h : rowsOk l masks 0 l = true) : Rows l masks := by
  have H := rowsOk_spec l 0 h
  simp only [Nat.zero_add] at H
  refine ⟨fun i o ho e he hb => edgesLt_spec (H i o ho).1 e (by simpa using he) hb, fun i o ho j hj => ?_, fun i o j q ho hq hji => ?_⟩
  · rw [(H i o ho).2.1] at hj
    obtain ⟨e, h1, h2, h3⟩ := maskOf_spec hj
    exact ⟨e, by simpa using h1, h2, h3⟩
  · have := apartFrom_spec (H i o ho).2.2 j q (by rw [List.getElem?_take, if_pos hji]; exact hq)
    rw [Nat.zero_add] at this
    exact this.imp_right clash_false
theorem Rows.two {l : List Oper} {masks : List Nat} (h : Rows l masks) {i j : Nat} {o q : Oper} (ho : l[i]? = some o) (hq : l[j]? = some q) (hij : i ≠ j) :
    Nat.testBit (masks.getD i 0) j = true ∨ Nat.testBit (masks.getD j 0) i = true ∨ Calm l o q := by
  rcases Nat.lt_or_gt_of_ne hij with h1 | h1
  · rcases h.apart j q i o hq ho h1 with h2 | h2
    · exact .inr (.inl h2)
    · exact .inr (.inr h2)
  · rcases h.apart i o j q ho hq h1 with h2 | h2
    · exact .inl h2
    · exact .inr (.inr h2.symm)
theorem number_mem : ∀ {l : List Oper} {j i : Nat} {o : Oper}, (i, o) ∈ number j l → ∃ x, i = j + x ∧ l[x]? = some o
  | [], _, _, _, h => by simp [number] at h
  | q :: l, j, i, o, h => by
    simp only [number] at h
    rcases List.mem_cons.1 h with h | h
    · cases h; exact ⟨0, rfl, rfl⟩
    · obtain ⟨x, h1, h2⟩ := number_mem h
      exact ⟨x + 1, by rw [h1, Nat.add_eq]; omega, by simpa using h2⟩
theorem orderOf_mem {masks effs : List Nat} {l : List (Nat × Oper)} {x : Nat × Oper} : ∀ {es : List (Nat × Oper)} {m : Nat}, x ∈ orderOf P k n masks effs l m es → x ∈ l ∨ x ∈ es
  | [], m, h => by simp only [orderOf, List.mem_filter] at h; exact .inl h.1
  | e :: es, m, h => by
    simp only [orderOf, List.mem_append, List.mem_filter, List.mem_cons] at h
    rcases h with h | h | h
    · exact .inl h.1
    · exact .inr (by simp [h])
    · exact (orderOf_mem h).imp_right fun h => by simp [h]
theorem hasI_mem {i : Nat} : ∀ {ord : List (Nat × Oper)}, hasI i ord = true → ∃ o, (i, o) ∈ ord
  | [], h => by simp [hasI] at h
  | (j, o) :: os, h => by
    simp only [hasI, Bool.or_eq_true] at h
    rcases h with h | h
    · exact ⟨o, by rw [beq_true h]; simp⟩
    · obtain ⟨o', h⟩ := hasI_mem h; exact ⟨o', by simp [h]⟩
theorem covers_mem {ord : List (Nat × Oper)} : ∀ {m : Nat}, covers ord m = true → ∀ i, i < m → ∃ o, (i, o) ∈ ord
  | 0, _, _, hi => absurd hi (Nat.not_lt_zero _)
  | m + 1, h, i, hi => by
    simp only [covers, Bool.and_eq_true] at h
    by_cases e : i = m
    · subst e; exact hasI_mem h.1
    · exact covers_mem h.2 i (by omega)

/-! ### what has been done, the last one first -/
structure En where
  i : Nat
  o : Oper
  v : Value
  ob : Option AObj
def sl (f : Nat → Value) : List En → (Nat → Bool) → Nat → Value
  | [], _, d => f d
  | e :: tr, S, d => if S e.i = true ∧ e.o.dst = some d then e.v else sl f tr S d
def all1 : Nat → Bool := fun _ => true
def updD (D : Nat → Bool) (i j : Nat) : Bool := if j = i then true else D j
theorem sl_skip {f : Nat → Value} {x : List En} {S : Nat → Bool} {d : Nat} : ∀ {later : List En}, (∀ w ∈ later, w.o.dst = some d → S w.i = false) → sl f (later ++ x) S d = sl f x S d
  | [], _ => rfl
  | w :: ws, h => by
    rw [List.cons_append, sl, if_neg (fun hc => by have := h w (by simp) hc.2; rw [hc.1] at this; cases this)]
    exact sl_skip fun u hu => h u (by simp [hu])
theorem sl_congr {f : Nat → Value} {S S' : Nat → Bool} {d : Nat} : ∀ {tr : List En}, (∀ w ∈ tr, w.o.dst = some d → S w.i = S' w.i) → sl f tr S d = sl f tr S' d
  | [], _ => rfl
  | w :: ws, h => by
    have ih := sl_congr (f := f) (S := S) (S' := S') (d := d) (tr := ws) fun u hu => h u (by simp [hu])
    simp only [sl, ih]
    by_cases hd : w.o.dst = some d
    · rw [h w (by simp) hd]
    · rw [if_neg (fun hc => hd hc.2), if_neg (fun hc => hd hc.2)]
def TrOk (masks : List Nat) : List En → Prop
  | [] => True
  | e :: tr => (∀ j, Nat.testBit (masks.getD e.i 0) j = true → ∃ w ∈ tr, w.i = j) ∧ (∀ w ∈ tr, w.i ≠ e.i) ∧ TrOk masks tr
theorem TrOk.mem {masks : List Nat} : ∀ {tr : List En}, TrOk masks tr → ∀ w ∈ tr, ∀ j, Nat.testBit (masks.getD w.i 0) j = true → ∃ u ∈ tr, u.i = j
  | [], _, _, hw, _, _ => by simp at hw
  | e :: tr, h, w, hw, j, hj => by
    rcases List.mem_cons.1 hw with rfl | hw
    · obtain ⟨u, h1, h2⟩ := h.1 j hj; exact ⟨u, by simp [h1], h2⟩
    · obtain ⟨u, h1, h2⟩ := h.2.2.mem w hw j hj; exact ⟨u, by simp [h1], h2⟩
theorem TrOk.mid {masks : List Nat} {e : En} {bef : List En} : ∀ {later : List En}, TrOk masks (later ++ e :: bef) →
    (∀ w ∈ later, w.i ≠ e.i ∧ Nat.testBit (masks.getD e.i 0) w.i = false) ∧ TrOk masks (e :: bef)
  | [], h => ⟨by simp, h⟩
  | w :: ws, h => by
    obtain ⟨h1, h2⟩ := TrOk.mid h.2.2
    refine ⟨fun u hu => ?_, h2⟩
    rcases List.mem_cons.1 hu with rfl | hu
    · refine ⟨fun he => h.2.1 e (by simp) he.symm, ?_⟩
      cases hb : Nat.testBit (masks.getD e.i 0) u.i with
      | false => rfl
      | true =>
        obtain ⟨x, hx, hxi⟩ := h2.1 _ hb
        exact absurd hxi (h.2.1 x (by simp [hx]))
    · exact h1 u hu
theorem TrOk.bef {masks : List Nat} {e : En} {bef : List En} (h : TrOk masks (e :: bef)) : ∀ w ∈ bef, w.i ≠ e.i ∧ Nat.testBit (masks.getD w.i 0) e.i = false := fun w hw => by
  refine ⟨h.2.1 w hw, ?_⟩
  cases hb : Nat.testBit (masks.getD w.i 0) e.i with
  | false => rfl
  | true =>
    obtain ⟨x, hx, hxi⟩ := h.2.2.mem w hw _ hb
    exact absurd hxi (h.2.1 x hx)

/-- what an operation looks at is in the frame of the listed ones as it was when it was run -/
theorem sl_look {ops : List Oper} {masks : List Nat} (hr : Rows ops masks) {f : Nat → Value} {D : Nat → Bool} {later : List En} {e : En} {bef : List En} (ht : TrOk masks (later ++ e :: bef)) (hent : ∀ w ∈ later ++ e :: bef, ops[w.i]? = some w.o)
    (hD : D e.i = false) (hcl : ∀ i, D i = true → ∀ j, Nat.testBit (masks.getD i 0) j = true → D j = true) (hm : ∀ j, Nat.testBit (masks.getD e.i 0) j = true → D j = true) {d : Nat} (hd : d ∈ looks ops e.o) :
    sl f (later ++ e :: bef) D d = sl f bef all1 d := by
  obtain ⟨h1, h2⟩ := ht.mid
  have he := hent e (by simp)
  rw [sl_skip, sl, if_neg (fun hc => by rw [hD] at hc; cases hc.1)]
  · refine sl_congr fun w hw hwd => ?_
    obtain ⟨g1, g2⟩ := h2.bef w hw
    rcases hr.two he (hent w (by simp [hw])) (Ne.symm g1) with h3 | h3 | h3
    · exact hm _ h3
    · rw [g2] at h3; cases h3
    · exact absurd hd (h3.ba d hwd)
  · intro w hw hwd
    obtain ⟨g1, g2⟩ := h1 w hw
    rcases hr.two he (hent w (by simp [hw])) (Ne.symm g1) with h3 | h3 | h3
    · rw [g2] at h3; cases h3
    · cases hDw : D w.i with
      | false => rfl
      | true => have := hcl _ hDw _ h3; rw [hD] at this; cases this
    · exact absurd hd (h3.ba d hwd)
/-- ... and once it is listed, its slot is written last -/
theorem sl_put {ops : List Oper} {masks : List Nat} (hr : Rows ops masks) {f : Nat → Value} {D : Nat → Bool} {later : List En} {e : En} {bef : List En} (ht : TrOk masks (later ++ e :: bef)) (hent : ∀ w ∈ later ++ e :: bef, ops[w.i]? = some w.o)
    (hD : D e.i = false) (hcl : ∀ i, D i = true → ∀ j, Nat.testBit (masks.getD i 0) j = true → D j = true) {d : Nat} :
    sl f (later ++ e :: bef) (updD D e.i) d = if e.o.dst = some d then e.v else sl f (later ++ e :: bef) D d := by
  obtain ⟨h1, h2⟩ := ht.mid
  have he := hent e (by simp)
  by_cases hd : e.o.dst = some d
  · rw [if_pos hd, sl_skip, sl, if_pos ⟨by simp [updD], hd⟩]
    intro w hw hwd
    obtain ⟨g1, g2⟩ := h1 w hw
    unfold updD
    rw [if_neg g1]
    rcases hr.two he (hent w (by simp [hw])) (Ne.symm g1) with h3 | h3 | h3
    · rw [g2] at h3; cases h3
    · cases hDw : D w.i with
      | false => rfl
      | true => have := hcl _ hDw _ h3; rw [hD] at this; cases this
    · exact absurd hwd (h3.ww d hd)
  · rw [if_neg hd]
    refine sl_congr fun w hw hwd => ?_
    unfold updD
    split
    · rename_i hwi
      have h3 := hent w hw
      rw [hwi, he] at h3
      rw [← Option.some.inj h3] at hwd
      exact absurd hwd hd
    · rfl

/-! ### an operation that sees what it looks at -/
def Ag (ops : List Oper) (k n : Nat) (ρ : Ren) (t : Fm Value k) (A : Act) (o : Oper) : Prop :=
  A.tmps.size = n ∧ ∀ d, d ∈ looks ops o → d < n → VR ρ ((getW k d).g t) (A.tmps.getD d undef)
theorem Ag.er {ops : List Oper} {ρ : Ren} {t : Fm Value k} {A : Act} {o : Oper} (h : Ag ops k n ρ t A o) : ER ρ k n t A o := fun x hx g hg => by
  cases x with
  | tmp i =>
    simp only [cEv] at hg
    cases hi : Nat.blt i n with
    | false => rw [hi] at hg; cases hg
    | true =>
      rw [hi] at hg; cases hg
      refine h.2 i ?_ (blt_true hi)
      unfold looks
      exact List.mem_append_left _ (List.mem_filterMap.2 ⟨.tmp i, by simpa using hx, rfl⟩)
  | const v =>
    simp only [cEv] at hg
    cases hi : pureC 4 v with
    | false => rw [hi] at hg; cases hg
    | true => rw [hi] at hg; cases hg; exact pureC_VR ρ 4 v hi
  | global g => simp [cEv] at hg
  | func f => simp only [cEv, Option.some.injEq] at hg; subst hg; exact .func (fn := .func f) rfl .nil .nil
theorem guard_none {ops : List Oper} {o : Oper} (hg : cGuard k n ops o.guard = some none) (y : Nat → Option Bool) : Region.wanted o y = true := by
  unfold cGuard at hg
  unfold Region.wanted
  split at hg
  · rename_i he; rw [he]
  · (repeat' split at hg) <;> (try simp only [cond_eq_ite] at hg) <;> (repeat' split at hg) <;> simp at hg
theorem guard_some {ops : Array Oper} {o : Oper} {g : GW Value k} {want : Bool} (hg : cGuard k n ops.toList o.guard = some (some (g, want))) {ρ : Ren} {t : Fm Value k} {A : Act} (h : Ag ops.toList k n ρ t A o) (hch : (!isCh (g.g t)) = true) :
    Region.wanted o (yielded ops A.tmps) = isB want (g.g t) := by
  unfold cGuard at hg
  split at hg
  · simp at hg
  · rename_i j' want' hgd
    split at hg
    · rename_i o' ho'
      split at hg
      · rename_i d hd
        cases hdn : Nat.blt d n with
        | false => rw [hdn] at hg; cases hg
        | true =>
          rw [hdn] at hg
          simp only [cond_true, Option.some.injEq, Prod.mk.injEq] at hg
          obtain ⟨rfl, rfl⟩ := hg
          have hdn := blt_true hdn
          have hslot := h.2 d (by unfold looks; rw [hgd]; simp only [ho', hd]; simp) hdn
          have hsz := h.1
          have hat : A.tmps[d]? = some (A.tmps.getD d undef) := by
            have : d < A.tmps.size := Nat.lt_of_lt_of_eq hdn hsz.symm
            simp [Array.getD, this]
          rw [arr_get?] at ho'
          have hy : yielded ops A.tmps j' = match A.tmps.getD d undef with | .bool b => some b | _ => none := by
            unfold yielded
            rw [ho']
            simp only [Option.bind_some, hd, hat]
            cases A.tmps.getD d undef <;> rfl
          unfold Region.wanted
          rw [hgd]
          simp only [hy]
          generalize A.tmps.getD d undef = X at hslot
          generalize (getW k d).g t = v at hslot hch
          cases hslot <;> simp [isB, isCh] at hch ⊢
      · cases hg
    · cases hg
end Go.Ab
