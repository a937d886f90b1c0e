/- Regions whose order is drawn: what holds on the way. -/
import Derived.Test.YtogncjicndbahaaEngV
namespace Go.Ab
variable {P : Program} {k n : Nat}

mutual
theorem veq_eq : ∀ (f : Nat) (x y : Value), veq f x y = true → x = y
  | 0, _, _, h => by simp [veq] at h
  | f + 1, x, y, h => by
    unfold veq at h
    split at h
    · rename_i a b; rw [eq_of_beq h]
    · rename_i a m b m'
      obtain ⟨h1, h2⟩ := and_true h
      rw [iEq_eq] at h2
      rw [kIdx_inj h1, eq_of_beq h2]
    · rename_i a b
      have h : (a.data == b.data) = true := h
      rw [ByteArray.ext (eq_of_beq h)]
    · rfl
    · obtain ⟨h1, h2⟩ := and_true h; rw [beq_true h1, beq_true h2]
    · obtain ⟨h1, h2⟩ := and_true h; rw [beq_true h1, beq_true h2]
    · obtain ⟨h123, h4⟩ := and_true h
      obtain ⟨h12, h3⟩ := and_true h123
      obtain ⟨h1, h2⟩ := and_true h12
      rw [beq_true h1, beq_true h2, beq_true h3, beq_true h4]
    · obtain ⟨h1234, h5⟩ := and_true h
      obtain ⟨h123, h4⟩ := and_true h1234
      obtain ⟨h12, h3⟩ := and_true h123
      obtain ⟨h1, h2⟩ := and_true h12
      rw [beq_true h1, beq_true h2, beq_true h3, beq_true h4, beq_true h5]
    · rfl
    · rw [beq_true h]
    · rfl
    · rfl
    · obtain ⟨h12, h3⟩ := and_true h
      obtain ⟨h1, h2⟩ := and_true h12
      rw [beq_true h1, veqs_eq f _ _ h2, veqs_eq f _ _ h3]
    · obtain ⟨h12, h3⟩ := and_true h
      obtain ⟨h1, h2⟩ := and_true h12
      rw [beq_true h1, veqs_eq f _ _ h2, veqs_eq f _ _ h3]
    · rw [veqs_eq f _ _ h]
    · rw [veqs_eq f _ _ h]
    · cases h
theorem veqs_eq : ∀ (f : Nat) (x y : List Value), veqs f x y = true → x = y
  | 0, _, _, h => by simp [veqs] at h
  | f + 1, [], [], _ => rfl
  | f + 1, x :: xs, y :: ys, h => by
    simp only [veqs] at h
    obtain ⟨h1, h2⟩ := and_true h
    rw [veq_eq f _ _ h1, veqs_eq f _ _ h2]
  | f + 1, [], _ :: _, h => by simp [veqs] at h
  | f + 1, _ :: _, [], h => by simp [veqs] at h
end

theorem adopt_nx {base mask : Nat} : ∀ (pend : List (Nat × AObj)) (s : St), (adopt base mask pend s).nx = s.nx
  | [], _ => rfl
  | (i, o) :: r, s => by
    simp only [adopt]
    cases Nat.testBit mask i with
    | true => exact adopt_nx r s
    | false => exact adopt_nx r s
theorem adopt_fl {base mask : Nat} : ∀ (pend : List (Nat × AObj)) (s : St), (adopt base mask pend s).fl = s.fl
  | [], _ => rfl
  | (i, o) :: r, s => by
    simp only [adopt]
    cases Nat.testBit mask i with
    | true => exact adopt_fl r s
    | false => exact adopt_fl r s
theorem adopt_at {base mask : Nat} : ∀ (pend : List (Nat × AObj)) (s : St), (∀ j o, (j, o) ∈ pend → base + j < 4398046511104) → ∀ b o, (adopt base mask pend s).at b = some o →
    s.at b = some o ∨ ∃ j, (j, o) ∈ pend ∧ Nat.testBit mask j = true ∧ b = base + j
  | [], _, _, _, _, h => .inl h
  | (i, x) :: r, s, hp, b, o, h => by
    have ih := adopt_at (base := base) (mask := mask) r s (fun j o hj => hp j o (by simp [hj])) b o
    have up : (s.at b = some o ∨ ∃ j, (j, o) ∈ r ∧ Nat.testBit mask j = true ∧ b = base + j) → s.at b = some o ∨ ∃ j, (j, o) ∈ (i, x) :: r ∧ Nat.testBit mask j = true ∧ b = base + j := fun h => h.imp_right fun ⟨j, h1, h2⟩ => ⟨j, by simp [h1], h2⟩
    simp only [adopt] at h
    cases hm : Nat.testBit mask i with
    | false => rw [hm] at h; exact up (ih h)
    | true =>
      rw [hm] at h
      simp only [cond_true] at h
      rw [St.at_set (show Nat.add base i < 4398046511104 from hp i x (by simp))] at h
      by_cases e : b = Nat.add base i
      · rw [if_pos e] at h; cases h; exact .inr ⟨i, by simp, hm, e⟩
      · rw [if_neg e] at h; exact up (ih h)
theorem adoptAll_nx {base : Nat} : ∀ (pend : List (Nat × AObj)) (s : St), (adoptAll base pend s).nx = s.nx
  | [], _ => rfl
  | (_, _) :: r, s => adoptAll_nx r s
theorem adoptAll_fl {base : Nat} : ∀ (pend : List (Nat × AObj)) (s : St), (adoptAll base pend s).fl = s.fl
  | [], _ => rfl
  | (_, _) :: r, s => adoptAll_fl r s
theorem adoptAll_at {base : Nat} : ∀ (pend : List (Nat × AObj)) (s : St), (∀ j o, (j, o) ∈ pend → base + j < 4398046511104) → ∀ b o, (adoptAll base pend s).at b = some o →
    s.at b = some o ∨ ∃ j, (j, o) ∈ pend ∧ b = base + j
  | [], _, _, _, _, h => .inl h
  | (i, x) :: r, s, hp, b, o, h => by
    have ih := adoptAll_at (base := base) r s (fun j o hj => hp j o (by simp [hj])) b o
    simp only [adoptAll] at h
    rw [St.at_set (show Nat.add base i < 4398046511104 from hp i x (by simp))] at h
    by_cases e : b = Nat.add base i
    · rw [if_pos e] at h; cases h; exact .inr ⟨i, by simp, e⟩
    · rw [if_neg e] at h
      exact (ih h).imp_right fun ⟨j, h1, h2⟩ => ⟨j, by simp [h1], h2⟩
theorem left_sub {mask : Nat} : ∀ {pend : List (Nat × AObj)} {x : Nat × AObj}, x ∈ left mask pend → x ∈ pend ∧ Nat.testBit mask x.1 = false
  | [], _, h => by simp [left] at h
  | (i, o) :: r, x, h => by
    simp only [left] at h
    cases hm : Nat.testBit mask i with
    | true => rw [hm] at h; have := left_sub h; exact ⟨by simp [this.1], this.2⟩
    | false =>
      rw [hm] at h
      rcases List.mem_cons.1 h with rfl | h
      · exact ⟨by simp, hm⟩
      · have := left_sub h; exact ⟨by simp [this.1], this.2⟩
theorem left_mem {mask : Nat} : ∀ {pend : List (Nat × AObj)} {x : Nat × AObj}, x ∈ pend → Nat.testBit mask x.1 = false → x ∈ left mask pend
  | [], _, h, _ => by simp at h
  | (i, o) :: r, x, h, hb => by
    simp only [left]
    rcases List.mem_cons.1 h with rfl | h
    · rw [hb]; simp
    · have := left_mem h hb
      cases Nat.testBit mask i <;> simp [this]
theorem recheck_mem {mask : Nat} {s : St} : ∀ {reads : List (Nat × (St → Bool))}, recheck mask reads s = true → ∀ j c, (j, c) ∈ reads → Nat.testBit mask j = false → c s = true
  | [], _, _, _, h, _ => by simp at h
  | (i, c0) :: r, h, j, c, hm, hb => by
    simp only [recheck] at h
    obtain ⟨h1, h2⟩ := and_true h
    rcases List.mem_cons.1 hm with h3 | h3
    · cases h3; rw [hb] at h1; exact h1
    · exact recheck_mem h2 j c h3 hb

/-- what is asked of an operation that may come at any time from now on -/
def VSpec (P : Program) (k n : Nat) (ops : Array Oper) (base : Nat) (t : Fm Value k) (s : St) (e : En) : Prop :=
  ∀ ρ A W, Ag ops.toList k n ρ t A e.o → SR P ρ s W → ρ (base + e.i) = none → ∀ r m (Q : Exit → Act → World → Prop) (next : Act → World → Prop),
    (match e.ob with
      | none => ∀ V, VR ρ e.v V → next (A.put e.o.dst V) W
      | some ob => ∀ O V r', r'.blk = W.heap.size → OR P (ρ.add (base + e.i) r') r' ob O → VR (ρ.add (base + e.i) r') e.v V → next (A.put e.o.dst V) (W.alloc O)) →
    wpOpIn (WF r) m P ops Q e.i next A W

structure Cx (k : Nat) where
  n : Nat
  ops : Array Oper
  masks : List Nat
  base : Nat
  ρ0 : Ren
  s0 : St
  W0 : World
  A0 : Act
  f0 : Nat → Value
  rows : Rows ops.toList masks
  lim : base + ops.size ≤ 4398046511104
  s0nx : s0.nx ≤ base
variable {C : Cx k}
structure Iv (P : Program) (C : Cx k) (tr : List En) (reads : List (Nat × (St → Bool))) (pend : List (Nat × AObj)) (t : Fm Value k) (s : St) (ρ : Ren) (D : Nat → Bool) (A : Act) (W : World) : Prop where
  stp : Stp P C.ρ0 C.s0 C.W0 ρ s W
  defers : A.defers = C.A0.defers
  size : A.tmps.size = C.n
  le : C.n ≤ pow8 k
  trk : TrOk C.masks tr
  ent : ∀ e ∈ tr, C.ops.toList[e.i]? = some e.o
  clo : ∀ i, D i = true → ∀ j, Nat.testBit (C.masks.getD i 0) j = true → D j = true
  sub : ∀ i, D i = true → ∃ e ∈ tr, e.i = i
  can : ∀ d, d < C.n → (getW k d).g t = sl C.f0 tr all1 d
  con : ∀ d, d < C.n → VR ρ (sl C.f0 tr D d) (A.tmps.getD d undef)
  nx : C.base + C.ops.size ≤ s.nx
  free : ∀ i, i < C.ops.size → D i = false → ρ (C.base + i) = none
  pe : ∀ j ob, (j, ob) ∈ pend → ∃ e ∈ tr, e.i = j ∧ e.ob = some ob
  pd : ∀ j ob, (j, ob) ∈ pend → D j = true → ∃ r O, ρ (C.base + j) = some r ∧ C.W0.heap.size ≤ r.blk ∧ W.heap[r.blk]? = some O ∧ OR P ρ r ob O ∧ ∀ b o r', s.at b = some o → ρ b = some r' → r'.blk ≠ r.blk
  pinj : ∀ i j oi oj ri rj, (i, oi) ∈ pend → (j, oj) ∈ pend → D i = true → D j = true → ρ (C.base + i) = some ri → ρ (C.base + j) = some rj → ri.blk = rj.blk → i = j
  virt : ∀ later e bef, tr = later ++ e :: bef → D e.i = false → ∃ t' : Fm Value k, (∀ d, d < C.n → (getW k d).g t' = sl C.f0 bef all1 d) ∧ VSpec P k C.n C.ops C.base t' s e ∧
    ((∀ s', VSpec P k C.n C.ops C.base t' s' e) ∨ ∃ c, (e.i, c) ∈ reads ∧ ∀ s', c s' = true → VSpec P k C.n C.ops C.base t' s' e) ∧ ∀ ob, e.ob = some ob → (e.i, ob) ∈ pend

section
variable {tr : List En} {reads : List (Nat × (St → Bool))} {pend : List (Nat × AObj)} {t : Fm Value k} {s : St} {ρ : Ren} {D : Nat → Bool} {A : Act} {W : World}

theorem TrOk.uniq {masks : List Nat} : ∀ {tr : List En}, TrOk masks tr → ∀ a ∈ tr, ∀ b ∈ tr, a.i = b.i → a = b
  | [], _, _, h, _, _, _ => by simp at h
  | e :: tr, h, a, ha, b, hb, hi => by
    rcases List.mem_cons.1 ha with ha | ha <;> rcases List.mem_cons.1 hb with hb | hb
    · rw [ha, hb]
    · exact absurd (by rw [← hi, ha]) (h.2.1 b hb)
    · exact absurd (by rw [hi, hb]) (h.2.1 a ha)
    · exact h.2.2.uniq a ha b hb hi
theorem Iv.lt (h : Iv P C tr reads pend t s ρ D A W) {e : En} (he : e ∈ tr) : e.i < C.ops.size := by
  have := h.ent e he
  rw [List.getElem?_eq_some_iff] at this
  obtain ⟨h1, _⟩ := this
  simpa using h1
theorem Iv.plt (h : Iv P C tr reads pend t s ρ D A W) : ∀ j o, (j, o) ∈ pend → C.base + j < 4398046511104 := fun j o hj => by
  obtain ⟨e, he, hi, _⟩ := h.pe j o hj
  have := h.lt he
  have := C.lim
  omega
/-- the state with what was pending in it -/
theorem Iv.adopted (h : Iv P C tr reads pend t s ρ D A W) {s' : St} (hnx : s'.nx = s.nx) (hfl : s'.fl = s.fl)
    (hat : ∀ b o, s'.at b = some o → s.at b = some o ∨ ∃ j, (j, o) ∈ pend ∧ D j = true ∧ b = C.base + j) : Stp P C.ρ0 C.s0 C.W0 ρ s' W := by
  refine { h.stp with sr := ⟨fun b o hb => ?_, fun b c o o' r r' hb hc hr hr' e => ?_, fun b hb => h.stp.sr.new b (by rw [← hnx]; exact hb)⟩, nx := by rw [hnx]; exact h.stp.nx, img := fun b o r h1 h2 => ?_ }
  · rcases hat b o hb with hb | ⟨j, hj, hD, rfl⟩
    · exact h.stp.sr.obj b o hb
    · obtain ⟨r, O, h1, _, h2, h3, _⟩ := h.pd j o hj hD
      exact ⟨r, O, h1, h2, h3⟩
  · rcases hat b o hb with hb | ⟨j, hj, hD, rfl⟩ <;> rcases hat c o' hc with hc | ⟨i, hi, hDi, rfl⟩
    · exact h.stp.sr.inj b c o o' r r' hb hc hr hr' e
    · obtain ⟨rj, O, h1, _, _, _, h3⟩ := h.pd i o' hi hDi
      rw [hr'] at h1; cases h1
      exact absurd e (h3 b o r hb hr)
    · obtain ⟨rj, O, h1, _, _, _, h3⟩ := h.pd j o hj hD
      rw [hr] at h1; cases h1
      exact absurd e.symm (h3 c o' r' hc hr')
    · rw [h.pinj j i o o' r r' hj hi hD hDi hr hr' e]
  · rcases hat b o h1 with hb | ⟨j, hj, hD, rfl⟩
    · have hfx : s.fix b o = s'.fix b o := by unfold St.fix; rw [hfl]
      exact hfx ▸ h.stp.img b o r hb h2
    · obtain ⟨rj, O, g1, g2, _⟩ := h.pd j o hj hD
      rw [h2] at g1; cases g1
      exact .inl g2
theorem put_getD (A : Act) (dst : Option Tmp) (V : Value) {d : Nat} (hd : d < A.tmps.size) : (A.put dst V).tmps.getD d undef = if dst = some d then V else A.tmps.getD d undef := by
  cases dst with
  | none => simp [Act.put]
  | some x =>
    by_cases e : x = d
    · subst e; rw [if_pos rfl]; simp [Act.put, Array.getD, hd]
    · rw [if_neg (by simpa using e)]
      simp only [Act.put, Array.getD_eq_getD_getElem?]
      rw [Array.getElem?_setIfInBounds_ne e]
theorem put_size (A : Act) (dst : Option Tmp) (V : Value) : (A.put dst V).tmps.size = A.tmps.size := by
  cases dst <;> simp [Act.put]

/-- an operation that was run before is listed -/
theorem Iv.upd (h : Iv P C tr reads pend t s ρ D A W) {e : En} (he : e ∈ tr) (hD : D e.i = false) (hm : ∀ j, Nat.testBit (C.masks.getD e.i 0) j = true → D j = true)
    {ρ' : Ren} {W' : World} {V : Value} (hst : Stp P C.ρ0 C.s0 C.W0 ρ' s W') (hx : Ext ρ ρ') (hV : VR ρ' e.v V) (hk : ∀ j, j < C.ops.size → j ≠ e.i → ρ' (C.base + j) = ρ (C.base + j))
    (hpd : ∀ j ob, (j, ob) ∈ pend → updD D e.i j = true → ∃ r O, ρ' (C.base + j) = some r ∧ C.W0.heap.size ≤ r.blk ∧ W'.heap[r.blk]? = some O ∧ OR P ρ' r ob O ∧ ∀ b o r', s.at b = some o → ρ' b = some r' → r'.blk ≠ r.blk)
    (hpi : ∀ i j oi oj ri rj, (i, oi) ∈ pend → (j, oj) ∈ pend → updD D e.i i = true → updD D e.i j = true → ρ' (C.base + i) = some ri → ρ' (C.base + j) = some rj → ri.blk = rj.blk → i = j) :
    Iv P C tr reads pend t s ρ' (updD D e.i) (A.put e.o.dst V) W' := by
  have up : ∀ j, updD D e.i j = false → D j = false ∧ j ≠ e.i := fun j hj => by
    unfold updD at hj
    by_cases hji : j = e.i
    · rw [if_pos hji] at hj; cases hj
    · rw [if_neg hji] at hj; exact ⟨hj, hji⟩
  refine { h with stp := hst, defers := (put_defers _ _ _).trans h.defers, size := (put_size _ _ _).trans h.size, clo := fun i hi j hj => ?_, sub := fun i hi => ?_, con := fun d hd => ?_, free := fun i hi hDi => ?_, pd := hpd, pinj := hpi, virt := fun later e' bef ht hD' => h.virt later e' bef ht (up _ hD').1 }
  · have : D j = true := by
      unfold updD at hi
      by_cases hie : i = e.i
      · subst hie; exact hm j hj
      · rw [if_neg hie] at hi; exact h.clo i hi j hj
    unfold updD; rw [this]; split <;> rfl
  · unfold updD at hi
    by_cases hie : i = e.i
    · exact ⟨e, he, hie.symm⟩
    · rw [if_neg hie] at hi; exact h.sub i hi
  · obtain ⟨later, bef, rfl⟩ := List.append_of_mem he
    rw [put_getD _ _ _ (by rw [h.size]; exact hd), sl_put C.rows h.trk h.ent hD h.clo]
    by_cases hds : e.o.dst = some d
    · rw [if_pos hds, if_pos hds]; exact hV
    · rw [if_neg hds, if_neg hds]; exact (h.con d hd).mono hx
  · obtain ⟨h1, h2⟩ := up i hDi
    rw [hk i hi h2]; exact h.free i hi h1
/-- an operation that was run before comes up -/
theorem Iv.step (h : Iv P C tr reads pend t s ρ D A W) {e : En} (he : e ∈ tr) (hD : D e.i = false) (hm : ∀ j, Nat.testBit (C.masks.getD e.i 0) j = true → D j = true)
    {r : Option Nat} {m : Nat} {Q : Exit → Act → World → Prop} {next : Act → World → Prop} (hn : ∀ ρ' A' W', Iv P C tr reads pend t s ρ' (updD D e.i) A' W' → next A' W') : wpOpIn (WF r) m P C.ops Q e.i next A W := by
  obtain ⟨later, bef, htr⟩ := List.append_of_mem he
  obtain ⟨t', ht', hsp, _, hob⟩ := h.virt later e bef htr hD
  have hag : Ag C.ops.toList k C.n ρ t' A e.o := ⟨h.size, fun d hd hdn => by
    rw [ht' d hdn, ← sl_look C.rows (later := later) (htr ▸ h.trk) (htr ▸ h.ent) hD h.clo hm hd, ← htr]; exact h.con d hdn⟩
  have hfree := h.free e.i (h.lt he) hD
  have up : ∀ j, updD D e.i j = true → j ≠ e.i → D j = true := fun j hj hne => by unfold updD at hj; rw [if_neg hne] at hj; exact hj
  refine hsp ρ A W hag h.stp.sr hfree r m Q next ?_
  cases hob' : e.ob with
  | none =>
    intro V hV
    have hne : ∀ j ob, (j, ob) ∈ pend → j ≠ e.i := fun j ob hj hje => by
      obtain ⟨e', he', hi', ho'⟩ := h.pe j ob hj
      have := h.trk.uniq e' he' e he (hi'.trans hje)
      rw [this, hob'] at ho'; cases ho'
    exact hn ρ _ W (h.upd he hD hm h.stp (.refl ρ) hV (fun _ _ _ => rfl) (fun j ob hj hDj => h.pd j ob hj (up j hDj (hne j ob hj)))
      (fun i j oi oj ri rj hi hj hDi hDj => h.pinj i j oi oj ri rj hi hj (up i hDi (hne i oi hi)) (up j hDj (hne j oj hj))))
  | some ob =>
    intro O V r' hr' hor hV
    have hx : Ext ρ (ρ.add (C.base + e.i) r') := Ren.add_ext hfree
    have hsz : (W.alloc O).heap.size = W.heap.size + 1 := by rw [alloc_heap, Array.size_push]
    have hold : ∀ B, B < W.heap.size → (W.alloc O).heap[B]? = W.heap[B]? := fun B hB => by rw [alloc_heap, Array.getElem?_push, if_neg (by omega)]
    have hlt := h.lt he
    have hnx := h.nx
    -- a name of the state is an old one
    have nm : ∀ b o r, s.at b = some o → (ρ.add (C.base + e.i) r') b = some r → ρ b = some r := fun b o r hb hr => by
      obtain ⟨r1, O1, g1, _⟩ := h.stp.sr.obj b o hb
      have := hx _ _ g1
      rw [hr] at this; cases this; exact g1
    have hst : Stp P C.ρ0 C.s0 C.W0 (ρ.add (C.base + e.i) r') s (W.alloc O) := by
      refine ⟨h.stp.ext.trans hx, ⟨fun b o hb => ?_, fun b c o o' r1 r2 h1 h2 h3 h4 => h.stp.sr.inj b c o o' r1 r2 h1 h2 (nm _ _ _ h1 h3) (nm _ _ _ h2 h4), fun b hb => ?_⟩, h.stp.os, h.stp.tape, h.stp.output, by rw [hsz]; have := h.stp.size; omega, h.stp.nx, fun b hb => ?_, fun B hB hno => ?_, fun b o r1 h1 h2 => h.stp.img b o r1 h1 (nm _ _ _ h1 h2)⟩
      · obtain ⟨r1, O1, g1, g2, g3⟩ := h.stp.sr.obj b o hb
        exact ⟨r1, O1, hx _ _ g1, by rw [hold _ (h.stp.sr.lt hb g1)]; exact g2, g3.mono hx⟩
      · unfold Ren.add
        rw [if_neg (by omega)]; exact h.stp.sr.new b hb
      · unfold Ren.add
        rw [if_neg (by have := C.s0nx; omega)]; exact h.stp.keep b hb
      · have := h.stp.size
        rw [hold _ (by omega)]; exact h.stp.frame B hB hno
    have other : ∀ j, j ≠ e.i → (ρ.add (C.base + e.i) r') (C.base + j) = ρ (C.base + j) := fun j hj => by unfold Ren.add; rw [if_neg (by omega)]
    have blk : ∀ j o, (j, o) ∈ pend → D j = true → ∀ rj, ρ (C.base + j) = some rj → rj.blk < W.heap.size := fun j o hj hDj rj hrj => by
      obtain ⟨r1, O1, g1, _, g2, _⟩ := h.pd j o hj hDj
      rw [hrj] at g1; cases g1
      rcases Nat.lt_or_ge rj.blk W.heap.size with g | g
      · exact g
      · rw [Array.getElem?_eq_none g] at g2; cases g2
    refine hn _ _ _ (h.upd he hD hm hst hx hV (fun j _ hj => other j hj) (fun j ob' hj hDj => ?_) (fun i j oi oj ri rj hi hj hDi hDj hri hrj hb => ?_))
    · by_cases hje : j = e.i
      · obtain ⟨e', he', hi', ho'⟩ := h.pe j ob' hj
        have := h.trk.uniq e' he' e he (hi'.trans hje)
        rw [this, hob'] at ho'; cases ho'
        refine ⟨r', O, by rw [hje]; exact Ren.add_self _ _ _, by rw [hr']; exact h.stp.size, by rw [hr', alloc_heap, Array.getElem?_push, if_pos rfl], hor, fun b o r1 h1 h2 => ?_⟩
        have := h.stp.sr.lt h1 (nm _ _ _ h1 h2)
        omega
      · obtain ⟨r1, O1, g1, g2, g3, g4, g5⟩ := h.pd j ob' hj (up j hDj hje)
        refine ⟨r1, O1, by rw [other j hje]; exact g1, g2, ?_, g4.mono hx, fun b o r2 h1 h2 => g5 b o r2 h1 (nm _ _ _ h1 h2)⟩
        rw [hold _ (blk j ob' hj (up j hDj hje) r1 g1)]; exact g3
    · by_cases hie : i = e.i <;> by_cases hje : j = e.i
      · omega
      · rw [other j hje] at hrj
        have := blk j oj hj (up j hDj hje) rj hrj
        rw [hie, Ren.add_self] at hri; cases hri
        omega
      · rw [other i hie] at hri
        have := blk i oi hi (up i hDi hie) ri hri
        rw [hje, Ren.add_self] at hrj; cases hrj
        omega
      · rw [other i hie] at hri; rw [other j hje] at hrj
        exact h.pinj i j oi oj ri rj hi hj (up i hDi hie) (up j hDj hje) hri hrj hb
/-- one more is run, not listed yet -/
theorem Iv.more (h : Iv P C tr reads pend t s ρ D A W) {e : En} (ho : C.ops.toList[e.i]? = some e.o) (hm : ∀ j, Nat.testBit (C.masks.getD e.i 0) j = true → ∃ w ∈ tr, w.i = j) (hnew : ∀ w ∈ tr, w.i ≠ e.i)
    {reads' : List (Nat × (St → Bool))} {pend' : List (Nat × AObj)} {p : SW Value k} (hp : cPut k C.n e.o.dst = some p) (hr : ∀ x ∈ reads, x ∈ reads') (hpd : ∀ x, x ∈ pend' ↔ x ∈ pend ∨ ∃ ob, e.ob = some ob ∧ x = (e.i, ob))
    (hv : VSpec P k C.n C.ops C.base t s e) (hv2 : (∀ s', VSpec P k C.n C.ops C.base t s' e) ∨ ∃ c, (e.i, c) ∈ reads' ∧ ∀ s', c s' = true → VSpec P k C.n C.ops C.base t s' e) :
    Iv P C (e :: tr) reads' pend' (p.s e.v t) s ρ D A W := by
  have hD : D e.i = false := by
    cases hd : D e.i with
    | false => rfl
    | true => obtain ⟨w, hw, hi⟩ := h.sub _ hd; exact absurd hi (hnew w hw)
  have old : ∀ j ob, (j, ob) ∈ pend' → D j = true → (j, ob) ∈ pend := fun j ob hj hDj => by
    rcases (hpd _).1 hj with hj | ⟨ob', _, hj⟩
    · exact hj
    · cases hj; rw [hD] at hDj; cases hDj
  refine { h with trk := ⟨hm, hnew, h.trk⟩, ent := fun w hw => ?_, sub := fun i hi => ?_, can := fun d hd => ?_, con := fun d hd => ?_, pe := fun j ob hj => ?_, pd := fun j ob hj hDj => h.pd j ob (old j ob hj hDj) hDj, pinj := fun i j oi oj ri rj hi hj hDi hDj => h.pinj i j oi oj ri rj (old _ _ hi hDi) (old _ _ hj hDj) hDi hDj, virt := fun later e' bef ht hD' => ?_ }
  · rcases List.mem_cons.1 hw with rfl | hw
    · exact ho
    · exact h.ent w hw
  · obtain ⟨w, hw, hi⟩ := h.sub i hi; exact ⟨w, by simp [hw], hi⟩
  · unfold cPut at hp
    simp only [sl, all1, true_and]
    cases hds : e.o.dst with
    | none => rw [hds] at hp; cases hp; rw [if_neg (by simp)]; exact h.can d hd
    | some x =>
      rw [hds] at hp
      simp only at hp
      cases hx : Nat.blt x C.n with
      | false => rw [hx] at hp; cases hp
      | true =>
        rw [hx] at hp; cases hp
        have hle := h.le
        rw [get_set k d x e.v t (Nat.lt_of_lt_of_le hd hle) (Nat.lt_of_lt_of_le (blt_true hx) hle)]
        by_cases hdx : d = x
        · subst hdx; rw [if_pos rfl, if_pos rfl]
        · rw [if_neg hdx, if_neg (by simpa using fun e => hdx e.symm)]; exact h.can d hd
  · rw [sl, if_neg (fun hc => by rw [hD] at hc; cases hc.1)]; exact h.con d hd
  · rcases (hpd _).1 hj with hj | ⟨ob', ho', hj⟩
    · obtain ⟨w, hw, h1⟩ := h.pe j ob hj; exact ⟨w, by simp [hw], h1⟩
    · cases hj; exact ⟨e, by simp, rfl, ho'⟩
  · cases later with
    | nil =>
      simp only [List.nil_append, List.cons.injEq] at ht
      obtain ⟨rfl, rfl⟩ := ht
      exact ⟨t, h.can, hv, hv2, fun ob hob => (hpd _).2 (.inr ⟨ob, hob, rfl⟩)⟩
    | cons w ws =>
      simp only [List.cons_append, List.cons.injEq] at ht
      obtain ⟨t', h1, h2, h3, h4⟩ := h.virt ws e' bef ht.2 hD'
      refine ⟨t', h1, h2, h3.imp_right fun ⟨c, hc, hs⟩ => ⟨c, hr _ hc, hs⟩, fun ob hob => (hpd _).2 (.inl (h4 ob hob))⟩
/-- one more is run and listed at once -/
theorem Iv.run (h : Iv P C tr reads pend t s ρ D A W) {e : En} (ho : C.ops.toList[e.i]? = some e.o) (hm : ∀ j, Nat.testBit (C.masks.getD e.i 0) j = true → D j = true) (hnew : ∀ w ∈ tr, w.i ≠ e.i)
    {pend' : List (Nat × AObj)} {p : SW Value k} {s' : St} {ρ' : Ren} {W' : World} {V : Value} (hp : cPut k C.n e.o.dst = some p) (hst : Stp P C.ρ0 C.s0 C.W0 ρ' s' W') (hx : Ext ρ ρ') (hV : VR ρ' e.v V) (hnx : s.nx ≤ s'.nx)
    (hk : ∀ j, j < C.ops.size → ρ' (C.base + j) = ρ (C.base + j)) (hp1 : ∀ x ∈ pend', x ∈ pend) (hp2 : ∀ j ob, (j, ob) ∈ pend → D j = false → (j, ob) ∈ pend') (hrd : s' = s ∨ ∀ j c, (j, c) ∈ reads → D j = false → c s' = true)
    (hpd : ∀ j ob, (j, ob) ∈ pend' → D j = true → ∃ r O, ρ' (C.base + j) = some r ∧ C.W0.heap.size ≤ r.blk ∧ W'.heap[r.blk]? = some O ∧ OR P ρ' r ob O ∧ ∀ b o r', s'.at b = some o → ρ' b = some r' → r'.blk ≠ r.blk) :
    Iv P C (e :: tr) reads pend' (p.s e.v t) s' ρ' (updD D e.i) (A.put e.o.dst V) W' := by
  have hD : D e.i = false := by
    cases hd : D e.i with
    | false => rfl
    | true => obtain ⟨w, hw, hi⟩ := h.sub _ hd; exact absurd hi (hnew w hw)
  have up : ∀ j, updD D e.i j = false → D j = false ∧ j ≠ e.i := fun j hj => by
    unfold updD at hj
    by_cases hji : j = e.i
    · rw [if_pos hji] at hj; cases hj
    · rw [if_neg hji] at hj; exact ⟨hj, hji⟩
  have plt : ∀ j ob, (j, ob) ∈ pend' → j ≠ e.i ∧ j < C.ops.size := fun j ob hj => by
    obtain ⟨w, hw, h1, _⟩ := h.pe j ob (hp1 _ hj)
    exact ⟨fun he => hnew w hw (h1.trans he), h1 ▸ h.lt hw⟩
  have upt : ∀ j ob, (j, ob) ∈ pend' → updD D e.i j = true → D j = true := fun j ob hj hDj => by
    unfold updD at hDj; rw [if_neg (plt j ob hj).1] at hDj; exact hDj
  refine ⟨hst, (put_defers _ _ _).trans h.defers, (put_size _ _ _).trans h.size, h.le, ⟨fun j hj => h.sub j (hm j hj), hnew, h.trk⟩, fun w hw => ?_, fun i hi j hj => ?_, fun i hi => ?_, fun d hd => ?_, fun d hd => ?_, Nat.le_trans h.nx hnx, fun i hi hDi => ?_, fun j ob hj => ?_, fun j ob hj hDj => hpd j ob hj (upt j ob hj hDj), fun i j oi oj ri rj hi hj hDi hDj hri hrj => ?_, fun later e' bef ht hD' => ?_⟩
  · rcases List.mem_cons.1 hw with rfl | hw
    · exact ho
    · exact h.ent w hw
  · have : D j = true := by
      unfold updD at hi
      by_cases hie : i = e.i
      · subst hie; exact hm j hj
      · rw [if_neg hie] at hi; exact h.clo i hi j hj
    unfold updD; rw [this]; split <;> rfl
  · unfold updD at hi
    by_cases hie : i = e.i
    · exact ⟨e, by simp, hie.symm⟩
    · rw [if_neg hie] at hi; obtain ⟨w, hw, hi⟩ := h.sub i hi; exact ⟨w, by simp [hw], hi⟩
  · unfold cPut at hp
    simp only [sl, all1, true_and]
    cases hds : e.o.dst with
    | none => rw [hds] at hp; cases hp; rw [if_neg (by simp)]; exact h.can d hd
    | some x =>
      rw [hds] at hp
      simp only at hp
      cases hx : Nat.blt x C.n with
      | false => rw [hx] at hp; cases hp
      | true =>
        rw [hx] at hp; cases hp
        have hle := h.le
        rw [get_set k d x e.v t (Nat.lt_of_lt_of_le hd hle) (Nat.lt_of_lt_of_le (blt_true hx) hle)]
        by_cases hdx : d = x
        · subst hdx; rw [if_pos rfl, if_pos rfl]
        · rw [if_neg hdx, if_neg (by simpa using fun e => hdx e.symm)]; exact h.can d hd
  · rw [put_getD _ _ _ (by rw [h.size]; exact hd), sl]
    by_cases hds : e.o.dst = some d
    · rw [if_pos ⟨by simp [updD], hds⟩, if_pos hds]; exact hV
    · rw [if_neg (fun hc => hds hc.2), if_neg hds]
      rw [sl_congr (S' := D) fun w hw _ => by unfold updD; rw [if_neg (hnew w hw)]]
      exact (h.con d hd).mono hx
  · obtain ⟨h1, _⟩ := up i hDi
    rw [hk i hi]; exact h.free i hi h1
  · obtain ⟨w, hw, h1⟩ := h.pe j ob (hp1 _ hj); exact ⟨w, by simp [hw], h1⟩
  · rw [hk i (plt i oi hi).2] at hri
    rw [hk j (plt j oj hj).2] at hrj
    exact h.pinj i j oi oj ri rj (hp1 _ hi) (hp1 _ hj) (upt _ _ hi hDi) (upt _ _ hj hDj) hri hrj
  · cases later with
    | nil =>
      simp only [List.nil_append, List.cons.injEq] at ht
      obtain ⟨rfl, rfl⟩ := ht
      exact absurd rfl (up _ hD').2
    | cons w ws =>
      simp only [List.cons_append, List.cons.injEq] at ht
      obtain ⟨t', h1, h2, h3, h4⟩ := h.virt ws e' bef ht.2 (up _ hD').1
      refine ⟨t', h1, ?_, h3, fun ob hob => hp2 _ _ (h4 ob hob) (up _ hD').1⟩
      rcases hrd with rfl | hrd
      · exact h2
      · rcases h3 with h3 | ⟨c, hc, hs⟩
        · exact h3 s'
        · exact hs s' (hrd _ c hc (up _ hD').1)
end
end Go.Ab
