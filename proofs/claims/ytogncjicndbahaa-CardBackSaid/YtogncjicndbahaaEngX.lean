/- Regions whose order is drawn: any order does the same. -/
import Derived.Test.YtogncjicndbahaaEngW
namespace Go.Ab
variable {P : Program} {k : Nat} {C : Cx k}

theorem wpOpIn_yes {F : Fence} {m : Nat} {ops : Array Oper} {Q : Exit → Act → World → Prop} {i : Nat} {o : Oper} {next : Act → World → Prop} {A : Act} {W : World} (ho : ops[i]? = some o) (hw : Region.wanted o (yielded ops A.tmps) = true)
    (h : o.wpIn F m P A W next Q) : wpOpIn F m P ops Q i next A W := by
  unfold wpOpIn
  simp only [ho, hw, if_true]; exact h
theorem wpOpIn_no {r : Option Nat} {m : Nat} {ops : Array Oper} {Q : Exit → Act → World → Prop} {i : Nat} {o : Oper} {next : Act → World → Prop} {A : Act} {W : World} (ho : ops[i]? = some o) (hw : Region.wanted o (yielded ops A.tmps) = false)
    (h : next (A.put o.dst undef) W) : wpOpIn (WF r) m P ops Q i next A W := by
  unfold wpOpIn
  simp only [ho, hw, Bool.false_eq_true, if_false]; exact ⟨fun _ _ => trivial, h⟩

structure Rest (P : Program) (C : Cx k) (tr : List En) (rest : List (Nat × Oper)) : Prop where
  ok : ∃ done last, orderOk P k C.n C.masks done last rest = true ∧ ∀ j, Nat.testBit done j = true ↔ ∃ w ∈ tr, w.i = j
  mem : ∀ i o, (i, o) ∈ rest → C.ops.toList[i]? = some o
  cov : ∀ i, i < C.ops.size → (∃ w ∈ tr, w.i = i) ∨ ∃ o, (i, o) ∈ rest
theorem orderOk_inv {n : Nat} {masks : List Nat} {done : Nat} {last : Option Nat} {i : Nat} {o : Oper} {os : List (Nat × Oper)} (h : orderOk P k n masks done last ((i, o) :: os) = true) :
    (∀ j, Nat.testBit (masks.getD i 0) j = true → Nat.testBit done j = true) ∧ Nat.testBit done i = false ∧ (∀ e, last = some e → Nat.testBit (masks.getD i 0) e = true) ∧
      orderOk P k n masks (Nat.lor done (Nat.pow 2 i)) (bif isEffO P k n o then some i else last) os = true := by
  simp only [orderOk] at h
  obtain ⟨h, h4⟩ := and_true h
  obtain ⟨h, h3⟩ := and_true h
  obtain ⟨h1, h2⟩ := and_true h
  refine ⟨fun j hj => ?_, by simpa using h2, fun e he => by subst he; exact h3, h4⟩
  rw [← beq_true h1, land_bit] at hj
  exact (and_true hj).2
theorem orderOk_not {n : Nat} {masks : List Nat} : ∀ {os : List (Nat × Oper)} {done : Nat} {last : Option Nat}, orderOk P k n masks done last os = true → ∀ i o, (i, o) ∈ os → Nat.testBit done i = false
  | [], _, _, _, _, _, hm => by simp at hm
  | (i0, o0) :: os, done, last, h, i, o, hm => by
    obtain ⟨_, h2, _, h4⟩ := orderOk_inv h
    rcases List.mem_cons.1 hm with hm | hm
    · cases hm; exact h2
    · have := orderOk_not h4 i o hm
      rw [lor_bit, Bool.or_eq_false_iff] at this
      exact this.1
theorem orderOk_last {n : Nat} {masks : List Nat} : ∀ {os : List (Nat × Oper)} {done e : Nat}, orderOk P k n masks done (some e) os = true → ∀ i o, (i, o) ∈ os →
    ∃ e', (e' = e ∨ ∃ o', (e', o') ∈ os) ∧ Nat.testBit (masks.getD i 0) e' = true
  | [], _, _, _, _, _, hm => by simp at hm
  | (i0, o0) :: os, done, e, h, i, o, hm => by
    obtain ⟨_, _, h3, h4⟩ := orderOk_inv h
    rcases List.mem_cons.1 hm with hm | hm
    · cases hm; exact ⟨e, .inl rfl, h3 e rfl⟩
    · cases hE : isEffO P k n o0 with
      | true =>
        rw [hE] at h4
        obtain ⟨e', h5, h6⟩ := orderOk_last (e := i0) h4 i o hm
        refine ⟨e', .inr ?_, h6⟩
        rcases h5 with rfl | ⟨o', h5⟩
        · exact ⟨o0, by simp⟩
        · exact ⟨o', by simp [h5]⟩
      | false =>
        rw [hE] at h4
        obtain ⟨e', h5, h6⟩ := orderOk_last (e := e) h4 i o hm
        refine ⟨e', ?_, h6⟩
        rcases h5 with rfl | ⟨o', h5⟩
        · exact .inl rfl
        · exact .inr ⟨o', by simp [h5]⟩
theorem Rest.head {tr : List En} {i : Nat} {o : Oper} {rs : List (Nat × Oper)} (h : Rest P C tr ((i, o) :: rs)) :
    (∀ j, Nat.testBit (C.masks.getD i 0) j = true → ∃ w ∈ tr, w.i = j) ∧ (∀ w ∈ tr, w.i ≠ i) ∧ C.ops.toList[i]? = some o ∧ ∀ e : En, e.i = i → Rest P C (e :: tr) rs := by
  obtain ⟨done, last, h1, h2⟩ := h.ok
  obtain ⟨g1, g2, _, g4⟩ := orderOk_inv h1
  refine ⟨fun j hj => (h2 j).1 (g1 j hj), fun w hw hi => ?_, h.mem i o (by simp), fun e he => ⟨⟨_, _, g4, fun j => ?_⟩, fun i' o' hm => h.mem i' o' (by simp [hm]), fun i' hi' => ?_⟩⟩
  · rw [(h2 i).2 ⟨w, hw, hi⟩] at g2; cases g2
  · rw [lor_bit, pow_bit, Bool.or_eq_true, h2 j, decide_eq_true_eq]
    constructor
    · rintro (⟨w, hw, hi⟩ | hi)
      · exact ⟨w, by simp [hw], hi⟩
      · exact ⟨e, by simp, he.trans hi⟩
    · rintro ⟨w, hw, hi⟩
      rcases List.mem_cons.1 hw with rfl | hw
      · exact .inr (he.symm.trans hi)
      · exact .inl ⟨w, hw, hi⟩
  · rcases h.cov i' hi' with ⟨w, hw, hi⟩ | ⟨o', hm⟩
    · exact .inl ⟨w, by simp [hw], hi⟩
    · rcases List.mem_cons.1 hm with hm | hm
      · cases hm; exact .inl ⟨e, by simp, he⟩
      · exact .inr ⟨o', hm⟩
theorem Rest.late {tr : List En} {i0 : Nat} {o0 : Oper} {rs : List (Nat × Oper)} (h : Rest P C tr ((i0, o0) :: rs)) (hE : isEffO P k C.n o0 = true) {i : Nat} {o : Oper} (hm : (i, o) ∈ rs) :
    ∃ e', Nat.testBit (C.masks.getD i 0) e' = true ∧ ∀ w ∈ tr, w.i ≠ e' := by
  obtain ⟨done, last, h1, h2⟩ := h.ok
  obtain ⟨_, g2, _, g4⟩ := orderOk_inv h1
  rw [hE] at g4
  obtain ⟨e', h5, h6⟩ := orderOk_last (e := i0) g4 i o hm
  refine ⟨e', h6, fun w hw hi => ?_⟩
  have hd := (h2 e').2 ⟨w, hw, hi⟩
  rcases h5 with rfl | ⟨o', h5⟩
  · rw [g2] at hd; cases hd
  · have := orderOk_not g4 e' o' h5
    rw [lor_bit, hd] at this; cases this

section
variable {call : CallT} {K : Fm Value k → St → Bool} {s : St} {ρ : Ren} {D : Nat → Bool} {A : Act} {W : World}
theorem Iv.lt' {tr : List En} {rest : List (Nat × Oper)} (h : Rest P C tr rest) {i : Nat} {o : Oper} (hm : (i, o) ∈ rest) : i < C.ops.size := by
  have := h.mem i o hm
  rw [List.getElem?_eq_some_iff] at this
  obtain ⟨h1, _⟩ := this
  simpa using h1
theorem advance1 {tr : List En} {reads : List (Nat × (St → Bool))} {pend : List (Nat × AObj)} {t : Fm Value k} {i : Nat} {o : Oper} {rs : List (Nat × Oper)} {p : SW Value k} (hp : cPut k C.n o.dst = some p)
    (hE : isEffO P k C.n o = false) (hR : Rest P C tr ((i, o) :: rs)) (hI : Iv P C tr reads pend t s ρ D A W) (hw : ∀ ρ A, Ag C.ops.toList k C.n ρ t A o → Region.wanted o (yielded C.ops A.tmps) = true)
    (h : (dOne i (C.masks.getD i 0) (cOper P k C.n o) p (cDrs P k C.n C.ops.toList C.masks rs)).run call C.base K reads pend t s = true) :
    ∃ tr' reads' pend' t', (cDrs P k C.n C.ops.toList C.masks rs).run call C.base K reads' pend' t' s = true ∧ Rest P C tr' rs ∧ Iv P C tr' reads' pend' t' s ρ D A W := by
  obtain ⟨g1, g2, g3, g4⟩ := hR.head
  have ho : C.ops[i]? = some o := by rw [← arr_get?]; exact g3
  have hok := cOper_ok (P := P) (k := k) (n := C.n) o
  have hnd : cOper P k C.n o ≠ .bad → ∀ c, o.op ≠ .defer c := fun hb c hc => hb (cOper_nd hc)
  unfold isEffO at hE
  cases hc : cOper P k C.n o with
  | bad => rw [hc] at h; cases h
  | eff c => rw [hc] at hE; cases hE
  | sil c =>
    rw [hc] at h hok
    have hnd := hnd (by rw [hc]; simp)
    obtain ⟨v, hv, hrun⟩ := hok _ _ h
    have hs : ∀ s', VSpec P k C.n C.ops C.base t s' ⟨i, o, v, none⟩ := fun s' ρ A W hag hsr hfree r m Q next hn => by
      obtain ⟨V, hV, hex⟩ := hrun ρ A hag.er
      exact wpOpIn_yes ho (hw ρ A hag) (wpIn_value hnd (hex W) (hn V hV))
    exact ⟨_, _, _, _, hv, g4 ⟨i, o, v, none⟩ rfl, hI.more (e := ⟨i, o, v, none⟩) g3 g1 g2 hp (fun x hx => hx) (fun x => ⟨.inl, fun hx => hx.elim id (fun ⟨ob, h1, _⟩ => by cases h1)⟩) (hs s) (.inl hs)⟩
  | rd c =>
    rw [hc] at h hok
    have hnd := hnd (by rw [hc]; simp)
    obtain ⟨v, hv, hrun⟩ := hok _ _ _ h
    have hs : ∀ s', (∀ ρ A W, ER ρ k C.n t A o → SR P ρ s' W → ∃ V, VR ρ v V ∧ (execOp A.eval o).run P W = .ok (.value V) W) → VSpec P k C.n C.ops C.base t s' ⟨i, o, v, none⟩ := fun s' hrun ρ A W hag hsr hfree r m Q next hn => by
      obtain ⟨V, hV, hex⟩ := hrun ρ A W hag.er hsr
      exact wpOpIn_yes ho (hw ρ A hag) (wpIn_value hnd hex (hn V hV))
    refine ⟨_, _, _, _, hv, g4 ⟨i, o, v, none⟩ rfl, hI.more (e := ⟨i, o, v, none⟩) g3 g1 g2 hp (fun x hx => by simp [hx]) (fun x => ⟨.inl, fun hx => hx.elim id (fun ⟨ob, h1, _⟩ => by cases h1)⟩) (hs s hrun) (.inr ⟨_, List.mem_cons_self, fun s' hs' => ?_⟩)⟩
    obtain ⟨v', hv', hrun'⟩ := hok _ _ _ hs'
    have := veq_eq _ _ _ hv'
    subst this
    exact hs s' hrun'
  | al c =>
    rw [hc] at h hok
    have hnd := hnd (by rw [hc]; simp)
    obtain ⟨ob, vf, hv, hrun⟩ := hok _ _ h
    have hs : ∀ s', VSpec P k C.n C.ops C.base t s' ⟨i, o, vf (Nat.add C.base i), some ob⟩ := fun s' ρ A W hag hsr hfree r m Q next hn => by
      obtain ⟨O, VF, sz, hex, hor, hval⟩ := hrun ρ A hag.er
      exact wpOpIn_yes ho (hw ρ A hag) (wpIn_value hnd (hex W) (hn O (VF W.heap.size) ⟨W.heap.size, 0, sz, 0, false⟩ rfl (OR.mono (Ren.add_ext hfree) (hor _)) (hval _ _ ⟨W.heap.size, 0, sz, 0, false⟩ (Ren.add_self _ _ _) rfl rfl)))
    exact ⟨_, _, _, _, hv, g4 ⟨i, o, vf (Nat.add C.base i), some ob⟩ rfl, hI.more (e := ⟨i, o, vf (Nat.add C.base i), some ob⟩) g3 g1 g2 hp (fun x hx => hx) (fun x => by
      rw [List.mem_cons]
      constructor
      · rintro (hx | hx)
        · exact .inr ⟨ob, rfl, hx⟩
        · exact .inl hx
      · rintro (hx | ⟨ob', h1, hx⟩)
        · exact .inr hx
        · cases h1; exact .inl hx) (hs s) (.inl hs)⟩
/-- a point from which the order of the machine goes on, an operation with effects next -/
def Headed (P : Program) (C : Cx k) (call : CallT) (K : Fm Value k → St → Bool) (s : St) (ρ : Ren) (D : Nat → Bool) (A : Act) (W : World) : Prop :=
  ∃ rest' tr' reads' pend' t', (cDrs P k C.n C.ops.toList C.masks rest').run call C.base K reads' pend' t' s = true ∧ Rest P C tr' rest' ∧ Iv P C tr' reads' pend' t' s ρ D A W ∧
      (rest' = [] ∨ ∃ i o rs, rest' = (i, o) :: rs ∧ isEffO P k C.n o = true)
theorem advance : ∀ (rest : List (Nat × Oper)) (tr : List En) (reads : List (Nat × (St → Bool))) (pend : List (Nat × AObj)) (t : Fm Value k), (cDrs P k C.n C.ops.toList C.masks rest).run call C.base K reads pend t s = true →
    Rest P C tr rest → Iv P C tr reads pend t s ρ D A W → Headed P C call K s ρ D A W
  | [], tr, reads, pend, t, h, hR, hI => ⟨[], tr, reads, pend, t, h, hR, hI, .inl rfl⟩
  | (i, o) :: rs, tr, reads, pend, t, h, hR, hI => by
    cases hE : isEffO P k C.n o with
    | true => exact ⟨_, tr, reads, pend, t, h, hR, hI, .inr ⟨i, o, rs, rfl, hE⟩⟩
    | false =>
      simp only [cDrs] at h
      cases hp : cPut k C.n o.dst with
      | none => simp [hp] at h
      | some p =>
      cases hg : cGuard k C.n C.ops.toList o.guard with
      | none => simp [hp, hg] at h
      | some gd =>
      simp only [hp, hg] at h
      have go : (∀ ρ A, Ag C.ops.toList k C.n ρ t A o → Region.wanted o (yielded C.ops A.tmps) = true) → (dOne i (C.masks.getD i 0) (cOper P k C.n o) p (cDrs P k C.n C.ops.toList C.masks rs)).run call C.base K reads pend t s = true → Headed P C call K s ρ D A W := fun hw h => by
        obtain ⟨tr', reads', pend', t', h1, h2, h3⟩ := advance1 hp hE hR hI hw h
        exact advance rs tr' reads' pend' t' h1 h2 h3
      cases gd with
      | none => exact go (fun ρ A _ => guard_none hg _) h
      | some gw =>
        obtain ⟨g, want⟩ := gw
        simp only at h
        obtain ⟨hch, h⟩ := cond_inv h
        cases hb : isB want (g.g t) with
        | true => rw [hb] at h; exact go (fun ρ A hag => (guard_some hg hag hch).trans hb) h
        | false =>
          rw [hb] at h
          obtain ⟨g1, g2, g3, g4⟩ := hR.head
          have ho : C.ops[i]? = some o := by rw [← arr_get?]; exact g3
          have hs : ∀ s', VSpec P k C.n C.ops C.base t s' ⟨i, o, undef, none⟩ := fun s' ρ A W hag hsr hfree r m Q next hn =>
            wpOpIn_no ho ((guard_some hg hag hch).trans hb) (hn undef (VR.undef ρ))
          exact advance rs _ _ _ _ h (g4 ⟨i, o, undef, none⟩ rfl) (hI.more (e := ⟨i, o, undef, none⟩) g3 g1 g2 hp (fun x hx => hx) (fun x => ⟨.inl, fun hx => hx.elim id (fun ⟨ob, h1, _⟩ => by cases h1)⟩) (hs s) (.inl hs))
end
end Go.Ab
