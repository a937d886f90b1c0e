/- Regions whose order is drawn: the walk. -/
import Derived.Test.YtogncjicndbahaaEngX
namespace Go.Ab
variable {P : Program} {k : Nat} {C : Cx k}
section
variable {call : CallT} {K : Fm Value k → St → Bool} {s : St} {ρ : Ren} {A : Act} {W : World}

def lst (listed : Array Bool) : Nat → Bool := fun i => listed.getD i false
theorem lst_set {listed : Array Bool} {i : Nat} (hi : i < listed.size) : lst (listed.setIfInBounds i true) = updD (lst listed) i := by
  funext j
  unfold lst updD
  by_cases h : j = i
  · subst h; rw [if_pos rfl]; simp [Array.getD, hi]
  · rw [if_neg h]; simp only [Array.getD_eq_getD_getElem?]; rw [Array.getElem?_setIfInBounds_ne (Ne.symm h)]
theorem lst_true {listed : Array Bool} {i : Nat} (hi : i < listed.size) : listed.getD i true = lst listed i := by
  unfold lst; simp [Array.getD, hi]
theorem unl {listed : Array Bool} {i : Nat} (h : listed.getD i true = false) : i < listed.size ∧ lst listed i = false := by
  have hi : i < listed.size := by
    rcases Nat.lt_or_ge i listed.size with h' | h'
    · exact h'
    · simp [Array.getElem?_eq_none h'] at h
  exact ⟨hi, by rw [← lst_true hi]; exact h⟩
/-- nothing is left to list: everything is listed -/
theorem all_listed {listed : Array Bool} (hsz : listed.size = C.ops.size) (hnil : Region.ready .any C.ops listed = []) : ∀ i, i < C.ops.size → lst listed i = true := by
  intro i
  induction i using Nat.strongRecOn with
  | ind i ih =>
    intro hi
    cases hl : lst listed i with
    | true => rfl
    | false =>
      have ho : C.ops[i]? = some C.ops[i] := Array.getElem?_eq_getElem hi
      have : i ∈ Region.ready .any C.ops listed := by
        rw [mem_ready]
        refine ⟨by rw [lst_true (by omega)]; exact hl, C.ops[i], ho, fun e he hb => ?_⟩
        have hlt := C.rows.edge i C.ops[i] (by rw [arr_get?]; exact ho) e he hb
        exact ih e.on hlt (by omega)
      rw [hnil] at this; cases this
theorem done_ok {listed : Array Bool} (hsz : listed.size = C.ops.size) (hnil : Region.ready .any C.ops listed = []) {Q : Exit → Act → World → Prop}
    (hQ : ∀ ρ' t' A' s' W', Stp P C.ρ0 C.s0 C.W0 ρ' s' W' → AR ρ' k C.n t' A' → A'.defers = C.A0.defers → K t' s' = true → Q .normal A' W') (h : Headed P C call K s ρ (lst listed) A W) : Q .normal A W := by
  obtain ⟨rest, tr, reads, pend, t, h1, hR, hI, h2⟩ := h
  have hall := all_listed hsz hnil
  rcases h2 with rfl | ⟨i, o, rs, rfl, _⟩
  · have h1 : K t (adoptAll C.base pend s) = true := h1
    refine hQ ρ t A _ W (hI.adopted (adoptAll_nx _ _) (adoptAll_fl _ _) fun b o hb => ?_) ⟨hI.size, hI.le, fun d hd => ?_⟩ hI.defers h1
    · exact (adoptAll_at _ _ hI.plt b o hb).imp_right fun ⟨j, hj, hbj⟩ => by
        obtain ⟨e, he, hi, _⟩ := hI.pe j o hj
        exact ⟨j, hj, hall j (hi ▸ hI.lt he), hbj⟩
    · rw [hI.can d hd, sl_congr (S' := lst listed) fun w hw _ => by rw [hall _ (hI.lt hw)]; rfl]
      exact hI.con d hd
  · exfalso
    have hlt := Iv.lt' hR (List.mem_cons_self)
    obtain ⟨w, hw, hi⟩ := hI.sub i (hall i hlt)
    exact hR.head.2.1 w hw hi
theorem eff_step {tr : List En} {reads : List (Nat × (St → Bool))} {pend : List (Nat × AObj)} {t : Fm Value k} {D : Nat → Bool} {i : Nat} {o : Oper} {rs : List (Nat × Oper)} (hcall : CallOK P call)
    (h : (cDrs P k C.n C.ops.toList C.masks ((i, o) :: rs)).run call C.base K reads pend t s = true) (hR : Rest P C tr ((i, o) :: rs)) (hI : Iv P C tr reads pend t s ρ D A W) (hE : isEffO P k C.n o = true)
    (hm : ∀ j, Nat.testBit (C.masks.getD i 0) j = true → D j = true) {r : Option Nat} {m : Nat} {Q : Exit → Act → World → Prop} {next : Act → World → Prop}
    (hn : ∀ s' ρ' A' W', Headed P C call K s' ρ' (updD D i) A' W' → next A' W') : wpOpIn (WF r) m P C.ops Q i next A W := by
  obtain ⟨g1, g2, g3, g4⟩ := hR.head
  have ho : C.ops[i]? = some o := by rw [← arr_get?]; exact g3
  have hD : D i = false := by
    cases hd : D i with
    | false => rfl
    | true => obtain ⟨w, hw, hi⟩ := hI.sub _ hd; exact absurd hi (g2 w hw)
  have hag : Ag C.ops.toList k C.n ρ t A o := ⟨hI.size, fun d hd hdn => by
    have h1 : TrOk C.masks ((⟨i, o, undef, none⟩ : En) :: tr) := ⟨g1, g2, hI.trk⟩
    have h2 : ∀ w ∈ (⟨i, o, undef, none⟩ : En) :: tr, C.ops.toList[w.i]? = some w.o := fun w hw => by
      rcases List.mem_cons.1 hw with rfl | hw
      · exact g3
      · exact hI.ent w hw
    have h3 := sl_look (f := C.f0) C.rows (later := []) (e := ⟨i, o, undef, none⟩) h1 h2 hD hI.clo hm hd
    rw [List.nil_append, sl, if_neg (fun hc => by rw [hD] at hc; cases hc.1)] at h3
    rw [hI.can d hdn, ← h3]; exact hI.con d hdn⟩
  simp only [cDrs] at h
  cases hp : cPut k C.n o.dst with
  | none => simp [hp] at h
  | some p =>
  cases hg : cGuard k C.n C.ops.toList o.guard with
  | none => simp [hp, hg] at h
  | some gd =>
  simp only [hp, hg] at h
  have go : Region.wanted o (yielded C.ops A.tmps) = true → (dOne i (C.masks.getD i 0) (cOper P k C.n o) p (cDrs P k C.n C.ops.toList C.masks rs)).run call C.base K reads pend t s = true → wpOpIn (WF r) m P C.ops Q i next A W := fun hw h => by
    have hok := cOper_ok (P := P) (k := k) (n := C.n) o
    unfold isEffO at hE
    cases hc : cOper P k C.n o with
    | sil c => rw [hc] at hE; cases hE
    | rd c => rw [hc] at hE; cases hE
    | al c => rw [hc] at hE; cases hE
    | bad => rw [hc] at hE; cases hE
    | eff c =>
      rw [hc] at h hok
      have hat := adopt_at (base := C.base) (mask := C.masks.getD i 0) pend s hI.plt
      have hnx := adopt_nx (base := C.base) (mask := C.masks.getD i 0) pend s
      have had := hI.adopted hnx (adopt_fl _ _) fun b o hb => (hat b o hb).imp_right fun ⟨j, h1, h2, h3⟩ => ⟨j, h1, hm j h2, h3⟩
      refine wpOpIn_yes ho hw (hok call hcall t _ _ h ρ A W hag.er had.sr r m next Q fun ρ' v V s' W' hst hV hk => ?_)
      obtain ⟨hrc, hrun⟩ := and_true hk
      have hInx := hI.nx
      -- a block that is still pending is none of those that the operation knows
      have apart : ∀ j ob, (j, ob) ∈ left (C.masks.getD i 0) pend → D j = true → ∀ rj, ρ (C.base + j) = some rj → ∀ b o r', (adopt C.base (C.masks.getD i 0) pend s).at b = some o → ρ b = some r' → r'.blk ≠ rj.blk := by
        intro j ob hj hDj rj hrj b o r' hb hr' he
        obtain ⟨hj1, hj2⟩ := left_sub hj
        rcases hat b o hb with hb | ⟨x, hx1, hx2, rfl⟩
        · obtain ⟨r1, O1, q1, _, _, _, q5⟩ := hI.pd j ob hj1 hDj
          rw [hrj] at q1; cases q1
          exact q5 b o r' hb hr' he
        · have := hI.pinj x j o ob r' rj hx1 hj1 (hm x hx2) hDj hr' hrj he
          subst this
          rw [hx2] at hj2; cases hj2
      have hkeep : ∀ j, j < C.ops.size → ρ' (C.base + j) = ρ (C.base + j) := fun j hj => hst.keep _ (by rw [hnx]; omega)
      have hI' := hI.run (e := ⟨i, o, v, none⟩) g3 hm g2 hp (had.trans hst) hst.ext hV (by have := hst.nx; rw [hnx] at this; exact this) hkeep
        (fun x hx => (left_sub hx).1) (fun j ob hj hDj => left_mem hj (by
          cases hb : Nat.testBit (C.masks.getD i 0) j with
          | false => rfl
          | true => have := hm j hb; rw [hDj] at this; cases this)) (.inr fun j c hj hDj => recheck_mem hrc j c hj (by
          cases hb : Nat.testBit (C.masks.getD i 0) j with
          | false => rfl
          | true => have := hm j hb; rw [hDj] at this; cases this))
        (fun j ob hj hDj => by
          obtain ⟨hj1, hj2⟩ := left_sub hj
          obtain ⟨r1, O1, q1, q2, q3, q4, q5⟩ := hI.pd j ob hj1 hDj
          have hlt : r1.blk < W.heap.size := by
            rcases Nat.lt_or_ge r1.blk W.heap.size with g | g
            · exact g
            · rw [Array.getElem?_eq_none g] at q3; cases q3
          have hap := apart j ob hj hDj r1 q1
          refine ⟨r1, O1, hst.ext _ _ q1, q2, ?_, q4.mono hst.ext, fun b o' r' hb hr' he => ?_⟩
          · rw [hst.frame r1.blk hlt fun b o r h1 h2 h3 => absurd h3 (hap b o r h1 h2)]; exact q3
          · rcases hst.img b o' r' hb hr' with h5 | ⟨c', o2, r2, h5, h6, h7, _⟩
            · omega
            · exact hap c' o2 r2 h5 h6 (h7.trans he))
      exact hn s' ρ' _ W' (advance rs _ _ _ _ hrun (g4 ⟨i, o, v, none⟩ rfl) hI')
  cases gd with
  | none => exact go (guard_none hg _) h
  | some gw =>
    obtain ⟨g, want⟩ := gw
    simp only at h
    obtain ⟨hch, h⟩ := cond_inv h
    cases hb : isB want (g.g t) with
    | true => rw [hb] at h; exact go ((guard_some hg hag hch).trans hb) h
    | false =>
      rw [hb] at h
      refine wpOpIn_no ho ((guard_some hg hag hch).trans hb) ?_
      exact hn s ρ _ W (advance rs _ _ _ _ h (g4 ⟨i, o, undef, none⟩ rfl) (hI.run (e := ⟨i, o, undef, none⟩) g3 hm g2 hp hI.stp (.refl ρ) (VR.undef ρ) (Nat.le_refl _) (fun _ _ => rfl) (fun x hx => hx) (fun j ob hj _ => hj) (.inl rfl) (fun j ob hj hDj => hI.pd j ob hj hDj)))
theorem walk (hcall : CallOK P call) {r : Option Nat} {m : Nat} {Q : Exit → Act → World → Prop} (hQ : ∀ ρ' t' A' s' W', Stp P C.ρ0 C.s0 C.W0 ρ' s' W' → AR ρ' k C.n t' A' → A'.defers = C.A0.defers → K t' s' = true → Q .normal A' W') :
    ∀ (fuel : Nat) (listed : Array Bool) (L : List Nat) (A : Act) (W : World) (s : St) (ρ : Ren), listed.size = C.ops.size → L.length ≤ fuel → (∀ i, i < C.ops.size → lst listed i = false → i ∈ L) → Headed P C call K s ρ (lst listed) A W →
      wpAnyIn (WF r) m P .any C.ops Q fuel listed A W
  | 0, listed, L, A, W, s, ρ, hsz, hL, hmem, h => by
    have hnil : Region.ready .any C.ops listed = [] := by
      rw [List.eq_nil_iff_forall_not_mem]
      intro i hi
      obtain ⟨h1, _⟩ := mem_ready.1 hi
      obtain ⟨h2, h3⟩ := unl h1
      have := hmem i (by omega) h3
      have h0 : L = [] := List.length_eq_zero_iff.1 (Nat.le_zero.1 hL)
      rw [h0] at this; cases this
    exact ⟨hnil, done_ok hsz hnil hQ h⟩
  | fuel + 1, listed, L, A, W, s, ρ, hsz, hL, hmem, h => by
    refine ⟨fun hnil => done_ok hsz hnil hQ h, fun i hi => ?_⟩
    obtain ⟨h1, o, ho, hall⟩ := mem_ready.1 hi
    obtain ⟨h2, h3⟩ := unl h1
    have hlt : i < C.ops.size := by omega
    have hl : C.ops.toList[i]? = some o := by rw [arr_get?]; exact ho
    obtain ⟨rest, tr, reads, pend, t, hrun, hR, hI, hhead⟩ := h
    have hm : ∀ j, Nat.testBit (C.masks.getD i 0) j = true → lst listed j = true := fun j hj => by
      obtain ⟨e, he, hb, h5⟩ := C.rows.mask i o hl j hj
      rcases h5 with rfl | h5
      · exact hall e he hb
      · exact hI.clo e.on (hall e he hb) j h5
    have hL' : (L.erase i).length ≤ fuel := by
      rw [List.length_erase_of_mem (hmem i hlt h3)]; omega
    have hmem' : ∀ j, j < C.ops.size → lst (listed.setIfInBounds i true) j = false → j ∈ L.erase i := fun j hj hlj => by
      rw [lst_set h2] at hlj
      unfold updD at hlj
      by_cases hji : j = i
      · rw [if_pos hji] at hlj; cases hlj
      · rw [if_neg hji] at hlj; exact (List.mem_erase_of_ne hji).2 (hmem j hj hlj)
    have hsz' : (listed.setIfInBounds i true).size = C.ops.size := by simp [hsz]
    rcases hR.cov i hlt with ⟨w, hw, hwi⟩ | ⟨o', hmr⟩
    · subst hwi
      refine hI.step hw h3 hm fun ρ' A' W' hI' => ?_
      exact walk hcall hQ fuel _ (L.erase w.i) A' W' s ρ' hsz' hL' hmem' (by rw [lst_set h2]; exact ⟨rest, tr, reads, pend, t, hrun, hR, hI', hhead⟩)
    · rcases hhead with rfl | ⟨i0, o0, rs, rfl, hE⟩
      · cases hmr
      · rcases List.mem_cons.1 hmr with hmr | hmr
        · cases hmr
          refine eff_step hcall hrun hR hI hE hm fun s' ρ' A' W' hh => ?_
          exact walk hcall hQ fuel _ (L.erase i) A' W' s' ρ' hsz' hL' hmem' (by rw [lst_set h2]; exact hh)
        · exfalso
          obtain ⟨e', he1, he2⟩ := hR.late hE hmr
          obtain ⟨w, hw, hwi⟩ := hI.sub e' (hm e' he1)
          exact he2 w hw hwi
end

theorem draw_ok (hmo : P.follows .mixedOrders = true) : DrawH P := by
  intro k n ops id call hcall K t s h ρ A W har hsr r m Q hQ
  unfold cDraw at h
  simp only at h
  cases hck : (rowsOk ops.toList (mkMasks [] ops.toList) 0 ops.toList && orderOk P k n (mkMasks [] ops.toList) 0 none (orderOf P k n (mkMasks [] ops.toList) (((number 0 ops.toList).filter fun x => isEffO P k n x.2).map (·.1)) (number 0 ops.toList) 0 ((number 0 ops.toList).filter fun x => isEffO P k n x.2)) &&
      covers (orderOf P k n (mkMasks [] ops.toList) (((number 0 ops.toList).filter fun x => isEffO P k n x.2).map (·.1)) (number 0 ops.toList) 0 ((number 0 ops.toList).filter fun x => isEffO P k n x.2)) ops.toList.length) with
  | false => rw [hck] at h; cases h
  | true =>
    rw [hck] at h
    simp only [cond_true] at h
    obtain ⟨hlim, h⟩ := cond_inv h
    obtain ⟨hck, hcov⟩ := and_true hck
    obtain ⟨hrows, hord⟩ := and_true hck
    have hlim := ble_true hlim
    rw [Nat.add_eq, Array.length_toList] at hlim
    rw [Array.length_toList] at hcov
    generalize hordd : orderOf P k n (mkMasks [] ops.toList) (((number 0 ops.toList).filter fun x => isEffO P k n x.2).map (·.1)) (number 0 ops.toList) 0 ((number 0 ops.toList).filter fun x => isEffO P k n x.2) = ord at h hord hcov
    let C : Cx k := ⟨n, ops, mkMasks [] ops.toList, s.nx, ρ, s, W, A, fun d => (getW k d).g t, Rows.of hrows, hlim, Nat.le_refl _⟩
    have hR : Rest P C [] ord := by
      refine ⟨⟨0, none, hord, fun j => by simp⟩, fun i o hm => ?_, fun i hi => .inr (covers_mem hcov i hi)⟩
      have hm2 : (i, o) ∈ number 0 ops.toList := by
        rw [← hordd] at hm
        rcases orderOf_mem hm with hm | hm
        · exact hm
        · exact (List.mem_filter.1 hm).1
      obtain ⟨x, h1, h2⟩ := number_mem hm2
      rw [h1, Nat.zero_add]; exact h2
    let s1 : St := ⟨s.h, Nat.add s.nx ops.toList.length, s.fl⟩
    have hn1 : s1.nx = s.nx + ops.size := by show Nat.add s.nx ops.toList.length = _; rw [Nat.add_eq, Array.length_toList]
    have hst : Stp P ρ s W ρ s1 { W with drawn := W.drawn + 1 } := by
      have := Stp.drew hsr (W.drawn + 1)
      exact { this with sr := ⟨this.sr.obj, this.sr.inj, fun b hb => this.sr.new b (by rw [hn1] at hb; omega)⟩, nx := by rw [hn1]; omega, img := this.img }
    have hD0 : ∀ i, lst (Array.replicate ops.size false) i = false := fun i => by
      unfold lst
      by_cases hi : i < ops.size <;> simp [Array.getD, hi]
    have hI : Iv P C [] [] [] t s1 ρ (lst (Array.replicate ops.size false)) A { W with drawn := W.drawn + 1 } :=
      ⟨hst, rfl, har.size, har.le, trivial, fun e he => (by cases he), fun i hi => (by rw [hD0] at hi; cases hi), fun i hi => (by rw [hD0] at hi; cases hi), fun d _ => rfl, fun d hd => har.slot d hd,
        Nat.le_of_eq hn1.symm, fun i _ _ => hsr.new _ (Nat.le_add_right _ _), fun j ob hj => (by cases hj), fun j ob hj => (by cases hj), fun i j oi oj ri rj hi => (by cases hi), fun later e bef ht => (by simp at ht)⟩
    refine wpIn_region_any hmo ?_
    exact walk (C := C) hcall hQ ops.size _ (List.range ops.size) A _ s1 ρ (by simp [C]) (by simp) (fun i hi _ => List.mem_range.2 hi) (advance ord [] [] [] t h hR hI)
end Go.Ab
