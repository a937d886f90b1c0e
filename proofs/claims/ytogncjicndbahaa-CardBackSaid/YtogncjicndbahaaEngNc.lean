/- Maps: iterators, the length; all operations of maps. -/
import Derived.Test.YtogncjicndbahaaEngNb
namespace Go.Ab
variable {P : Program} {k n : Nat} {o : Oper}

theorem eff_range {t : TypeId} {x : Operand} (ho : o.op = .range t x) {g : GW Value k} (hx : cEv k n x = some g) {c : EffC k} (hc : oRange P t g = .eff c) : EffOK P k n c o := by
  have mx : x ∈ o.op.operands := by rw [ho]; simp [Op.operands]
  have hnd : ∀ c, o.op ≠ .defer c := by rw [ho]; simp
  have push : ∀ {ρ s W} (hsr : SR P ρ s W) (hnx : s.nx < 4398046511104) (ob : AObj) (O : Obj), (∀ r : Rn, r.gr = false → r.sh = 0 → OR P (ρ.add s.nx r) r ob O) → ∃ ρ', Stp P ρ s W ρ' (s.push ob) (W.alloc O) ∧ VR ρ' (ptr s.nx 0) (.pointer (some ⟨W.heap.size, 0, none⟩)) := by
    intro ρ s W hsr hnx ob O hO
    let rn : Rn := ⟨W.heap.size, 0, 0, 0, false⟩
    exact ⟨_, Stp.push hsr hnx (r := rn) rfl (hO rn rfl rfl), VR.ptr0 (r := rn) (Ren.add_self _ _ _) rfl⟩
  unfold oRange at hc
  split at hc
  · rename_i kt et hm
    simp only [OpC.eff.injEq] at hc; subst hc
    intro call _ f s K h ρ A W he hsr r0 m0 next Q hnext
    obtain ⟨hnx, h⟩ := cond_inv h
    have hnx := blt_true hnx
    have h1 := er1 he hx mx
    rcases asMap_inv h with ⟨hvx, h⟩ | ⟨b, hvx, h⟩
    · rw [hvx] at h1
      obtain ⟨ρ', hst, hv⟩ := push hsr hnx (.mit none 0 [] 0) (.mapIter none 0 #[] 0) fun r h1 h2 => ⟨h1, h2, rfl⟩
      refine wpIn_value hnd ?_ (hnext _ _ _ _ _ hst hv h)
      simp [execOp, ho, Instr.range, r_und hm, h1.nilm_inv]
    · obtain ⟨es, c, hb, h⟩ := onMap_inv h
      rw [hvx] at h1
      obtain ⟨rn, hrn, hX⟩ := h1.map_inv
      obtain ⟨_, ES, hW, hE⟩ := hsr.map hb hrn
      obtain ⟨ρ', hst, hv⟩ := push hsr hnx (.mit (some b) c [] c) (.mapIter (some rn.blk) c #[] c) fun r h1 h2 => ⟨h1, h2, rn, Ren.add_ext (hsr.new _ (Nat.le_refl _)) _ _ hrn, rfl⟩
      refine wpIn_value hnd ?_ (hnext _ _ _ _ _ hst hv h)
      simp [execOp, ho, Instr.range, r_und hm, hX, run_getMap hW]
  · rename_i hm
    simp only [OpC.eff.injEq] at hc; subst hc
    intro call _ f s K h ρ A W he hsr r0 m0 next Q hnext
    obtain ⟨hnx, h⟩ := cond_inv h
    have hnx := blt_true hnx
    have h1 := er1 he hx mx
    split at h
    · rename_i w hw
      rw [hw] at h1
      obtain ⟨ρ', hst, hv⟩ := push hsr hnx (.sit w 0) (.stringIter w 0) fun r h1 h2 => ⟨h1, h2, rfl⟩
      refine wpIn_value hnd ?_ (hnext _ _ _ _ _ hst hv h)
      simp [execOp, ho, Instr.range, r_und hm, h1.string_inv]
    · cases h
  · cases hc
theorem memNat_eq (m : Nat) : ∀ l : List Nat, memNat m l = l.contains m
  | [] => rfl
  | x :: xs => by
    rw [List.contains_cons]
    show (Nat.beq x m || memNat m xs) = _
    rw [memNat_eq m xs]
    congr 1
    rw [Bool.eq_iff_iff]
    simp only [beq_iff_eq]
    exact ⟨fun h => (beq_true h).symm, fun h => by subst h; exact Nat.beq_refl _⟩
theorem EsR.left {ρ : Ren} (seen : List Nat) : ∀ {es ES : List MapEntry}, EsR ρ es ES → EsR ρ (leftE seen es) (ES.filter fun e => !(seen.contains e.born))
  | [], ES, h => by rw [h.nil_inv]; trivial
  | e :: es, ES, h => by
    obtain ⟨E, ES', rfl, h1, h2⟩ := h.inv
    simp only [leftE, memNat_eq, List.filter_cons, h1.2.1]
    cases seen.contains e.born with
    | true => exact h2.left seen
    | false => exact .cons h1 (h2.left seen)
theorem allLt_mem {m : Nat} : ∀ {es : List MapEntry}, allLt m es = true → ∀ e ∈ es, e.born < m
  | [], _, e, he => by simp at he
  | x :: es, h, e, he => by
    obtain ⟨h1, h2⟩ := and_true h
    rcases List.mem_cons.1 he with rfl | he
    · exact blt_true h1
    · exact allLt_mem h2 e he
theorem eachE_mem {F : MapEntry → Bool} : ∀ {es : List MapEntry}, eachE F es = true → ∀ e ∈ es, F e = true
  | [], _, e, he => by simp at he
  | x :: es, h, e, he => by
    obtain ⟨h1, h2⟩ := and_true h
    rcases List.mem_cons.1 he with rfl | he
    · exact h1
    · exact eachE_mem h2 e he
theorem leftOf_list (ES : Array MapEntry) (seen : List Nat) : (leftOf ES ⟨seen⟩).toList = ES.toList.filter fun e => !(seen.contains e.born) := by
  unfold leftOf
  rw [Array.toList_filter]
  congr 1
  funext e
  simp
theorem eff_next {x : Operand} {str : Bool} (ho : o.op = .next x str) {g : GW Value k} (hx : cEv k n x = some g) {c : EffC k} (hc : oNext g str = .eff c) : EffOK P k n c o := by
  have mx : x ∈ o.op.operands := by rw [ho]; simp [Op.operands]
  have hnd : ∀ c, o.op ≠ .defer c := by rw [ho]; simp
  simp only [oNext, OpC.eff.injEq] at hc; subst hc
  intro call _ f s K h ρ A W he hsr r0 m0 next Q hnext
  obtain ⟨b, off, hvx, h⟩ := asPtr_inv h
  obtain ⟨h0, h⟩ := cond_inv h
  obtain ⟨h0, hok⟩ := and_true h0
  have h0 := beq_true h0
  have h1 := er1 he hx mx
  rw [hvx] at h1
  obtain ⟨rn, hrn, hX⟩ := h1.ptr_inv
  rw [h0] at hX
  have hover : VR ρ over (.tuple #[.bool false]) := .tuple (.cons (.bool _) .nil)
  split at h
  · rename_i ob hb
    obtain ⟨r', O, g1, g2, g3⟩ := hsr.obj b _ hb
    rw [hrn] at g1; cases g1
    split at h
    · rename_i w pos
      obtain ⟨hgr, hsh, rfl⟩ := g3
      rw [hsh, Nat.add_zero] at hX
      obtain ⟨hstr, h⟩ := cond_inv h
      subst hstr
      cases hp : Nat.blt pos w.size with
      | false =>
        rw [hp] at h
        refine wpIn_value hnd (V := .tuple #[.bool false]) (W' := W) ?_ (hnext ρ _ _ s W (.refl hsr) hover h)
        have := blt_false hp
        simp [execOp, ho, Instr.next, hX, getObj, Sem.run, g2, Nat.not_lt.2 this]
      | true =>
        rw [hp] at h
        simp only [cond_true] at h
        have hlt := blt_true hp
        have hst := Stp.setObj hsr hb (fix_sit hok) hrn (ob' := .sit w (pos + (Utf8.decode w pos).2)) (O' := .stringIter w (pos + (Utf8.decode w pos).2)) ⟨hgr, hsh, rfl⟩
        refine wpIn_value hnd (V := .tuple #[.bool true, goInt pos, .int .i32 (Utf8.decode w pos).1]) ?_ (hnext ρ _ _ _ _ hst (.tuple (.cons (.bool _) (.cons (.int _ _) (.cons (.int _ _) .nil)))) h)
        simp [execOp, ho, Instr.next, hX, getObj, setObj, Sem.run, g2, hlt]
    · rename_i m since seen last
      obtain ⟨hgr, hsh, g3⟩ := g3
      rw [hsh, Nat.add_zero] at hX
      cases str with
      | true => cases h
      | false =>
      simp only [cond_false] at h
      cases m with
      | none =>
        simp only at g3 h; subst g3
        refine wpIn_value hnd (V := .tuple #[.bool false]) (W' := W) ?_ (hnext ρ _ _ s W (.refl hsr) hover h)
        simp [execOp, ho, Instr.next, hX, getObj, Sem.run, g2]
      | some mb =>
        simp only at g3 h
        obtain ⟨rm, hrm, rfl⟩ := g3
        obtain ⟨es, clock, hmb, h⟩ := onMap_inv h
        obtain ⟨_, ES, hW, hE⟩ := hsr.map hmb hrm
        obtain ⟨hal, h⟩ := cond_inv h
        obtain ⟨hal, hsl⟩ := and_true hal
        have hsl := ble_true hsl
        have hold : ∀ E ∈ ES.toList, E.born < since := fun E hE' => by
          obtain ⟨e, he1, he2⟩ := hE.mem E hE'
          rw [he2.2.1]; exact allLt_mem hal e he1
        have hleft : EsR ρ (leftE seen es) (leftOf ES ⟨seen⟩).toList := by rw [leftOf_list]; exact hE.left seen
        have hlen := hleft.length
        rcases run_next_at (P := P) W o.type rn.blk rm.blk since last ⟨seen⟩ ES clock g2 hW hold hsl with ⟨hz, hrun⟩ | ⟨E, hEm, w1, hw1, hrun⟩
        · have hnil : nilL (leftE seen es) = true := by
            cases hl : leftE seen es with
            | nil => rfl
            | cons _ _ => rw [hl] at hlen; simp only [List.length_cons, Array.length_toList] at hlen; omega
          rw [hnil] at h
          simp only [cond_true] at h
          refine wpIn_value hnd (V := .tuple #[.bool false]) (W' := W) ?_ (hnext ρ _ _ s W (.refl hsr) hover h)
          simp only [execOp, ho, hX, Sem.run_bind, hrun, Result.andThen_ok]; rfl
        · obtain ⟨e, he1, he2⟩ := hleft.mem E hEm
          have hnil : nilL (leftE seen es) = false := by
            cases hl : leftE seen es with
            | nil => rw [hl] at he1; simp at he1
            | cons _ _ => rfl
          rw [hnil] at h
          simp only [cond_false] at h
          have h := eachE_mem h e he1
          have hw : ∃ d, w1 = { W with drawn := d } := by
            rcases hw1 with rfl | rfl
            · exact ⟨_, rfl⟩
            · exact ⟨_, rfl⟩
          obtain ⟨d, rfl⟩ := hw
          have hst1 := Stp.drew hsr d
          have hst := hst1.trans (Stp.setObj hst1.sr hb (fix_mit hok) hrn (ob' := .mit (some mb) since (seen ++ [e.born]) clock) (O' := .mapIter (some rm.blk) since ((⟨seen⟩ : Array Nat).push E.born) clock) ⟨hgr, hsh, rm, hrm, by rw [he2.2.1]; congr 1; apply Array.ext'; simp⟩)
          refine wpIn_value hnd (V := .tuple #[.bool true, E.key, E.val]) ?_ (hnext ρ _ _ _ _ hst (.tuple (.cons (.bool _) (.cons (by rw [he2.1]; exact pureC_VR ρ 4 _ he2.2.2.1) (.cons he2.2.2.2 .nil)))) h)
          simp only [execOp, ho, hX, Sem.run_bind, hrun, Result.andThen_ok]; rfl
    · cases h
  · cases h
theorem lastN_eq : ∀ l : List Nat, lastN l = l.getLast?
  | [] => rfl
  | [x] => rfl
  | x :: y :: l => by
    have := lastN_eq (y :: l)
    rw [List.getLast?_cons_cons, ← this]; rfl
theorem findE_run {ρ : Ren} {m : Nat} : ∀ {es ES : List MapEntry} {e : MapEntry}, EsR ρ es ES → findE m es = some e → ∃ E, ES.find? (·.born == m) = some E ∧ ER1 ρ e E
  | [], ES, e, h, hf => by simp [findE] at hf
  | x :: es, ES, e, h, hf => by
    obtain ⟨E, ES', rfl, h1, h2⟩ := h.inv
    simp only [findE] at hf
    cases hb : Nat.beq x.born m with
    | true =>
      rw [hb] at hf
      simp only [cond_true, Option.some.injEq] at hf; subst hf
      have := beq_true hb
      exact ⟨E, by rw [List.find?_cons_of_pos (by simp [h1.2.1, this])], h1⟩
    | false =>
      rw [hb] at hf
      simp only [cond_false] at hf
      obtain ⟨E', h3, h4⟩ := findE_run h2 hf
      have hne : E.born ≠ m := fun he => by rw [h1.2.1] at he; rw [he] at hb; simp at hb
      exact ⟨E', by rw [List.find?_cons_of_neg (by simpa using hne)]; exact h3, h4⟩
theorem rd_entry {x : Operand} (ho : o.op = .entry x) {g : GW Value k} (hx : cEv k n x = some g) {c : RdC k} (hc : oEntry g = .rd c) : RdOK P k n c o := by
  have mx : x ∈ o.op.operands := by rw [ho]; simp [Op.operands]
  simp only [oEntry, OpC.rd.injEq] at hc; subst hc
  intro f s K h
  obtain ⟨b, off, hvx, h⟩ := asPtr_inv h
  obtain ⟨h0, h⟩ := cond_inv h
  have h0 := beq_true h0
  split at h
  · rename_i ob hb
    split at h
    · rename_i m since seen last
      split at h
      · rename_i mb
        split at h
        · rename_i st hst
          obtain ⟨es, clock, hmb, h⟩ := onMap_inv h
          obtain ⟨hcl, h⟩ := cond_inv h
          have hcl := beq_true hcl
          split at h
          · rename_i e hfe
            refine ⟨_, h, fun ρ A W he hsr => ?_⟩
            have h1 := er1 he hx mx
            rw [hvx] at h1
            obtain ⟨rn, hrn, hX⟩ := h1.ptr_inv
            rw [h0] at hX
            obtain ⟨r', O, g1, g2, hgr, hsh, rm, hrm, rfl⟩ := hsr.obj b _ hb
            rw [hrn] at g1; cases g1
            rw [hsh, Nat.add_zero] at hX
            obtain ⟨_, ES, hW, hE⟩ := hsr.map hmb hrm
            obtain ⟨E, h3, h4⟩ := findE_run hE hfe
            have h3' : ES.find? (·.born == st) = some E := by rw [← Array.find?_toList]; exact h3
            have hback : (⟨seen⟩ : Array Nat).back? = some st := by
              rw [lastN_eq] at hst
              simpa using hst
            refine ⟨.tuple #[E.key, E.val], .tuple (.cons (by rw [h4.1]; exact pureC_VR ρ 4 _ h4.2.2.1) (.cons h4.2.2.2 .nil)), ?_⟩
            simp only [execOp, ho, hX, Instr.entry, getObj, Sem.run_bind, Sem.run, g2, hW, Result.andThen_ok, hback, hcl, h3', bne_self_eq_false, Bool.false_eq_true, if_false]
            rfl
          · cases h
        · cases h
      · cases h
    · cases h
  · cases h
theorem rd_lenMap {c : Call} {x : Operand} {t : TypeId} {kt et : TypeId} {g : GW Value k} (ho : o.op = .call c) (hb : c.callee = .builtin .len) (hargs : c.args.toList = [x]) (hty : c.argTypes.toList = [t]) (hd : P.underlying t = some (.map kt et)) (hx : cEv k n x = some g) :
    RdOK P k n ⟨fun f s K => asMap (g.g f) (K (.int .i64 0)) fun b => onMap s b fun es _ => K (.int .i64 (.ofNat es.length))⟩ o := by
  have mx := call_mem ho hb x (by rw [hargs]; simp)
  have hex : ∀ A : Act, execOp A.eval o = (do pure (.value (← Builtin.len_ #[t] o.type #[A.eval x]))) := fun A => by
    have e1 : c.args.map A.eval = #[A.eval x] := by apply Array.ext'; simp [hargs]
    have e2 : c.argTypes = #[t] := by apply Array.ext'; simp [hty]
    rw [execOp_builtin ho hb, e1, e2]; rfl
  intro f s K h
  rcases asMap_inv h with ⟨hvx, h⟩ | ⟨b, hvx, h⟩
  · refine ⟨_, h, fun ρ A W he hsr => ⟨_, .int _ _, ?_⟩⟩
    have h1 := er1 he hx mx
    rw [hvx] at h1
    simp [hex, Builtin.len_, r_und hd, h1.nilm_inv, goInt]
  · obtain ⟨es, cl, hb', h⟩ := onMap_inv h
    refine ⟨_, h, fun ρ A W he hsr => ⟨_, .int _ _, ?_⟩⟩
    have h1 := er1 he hx mx
    rw [hvx] at h1
    obtain ⟨rn, hrn, hX⟩ := h1.map_inv
    obtain ⟨_, ES, hW, hE⟩ := hsr.map hb' hrn
    have := hE.length
    simp only [Array.length_toList] at this
    simp [hex, Builtin.len_, r_und hd, hX, run_getMap hW, goInt, this]
theorem cBuiltinM_ok {c : Call} {b : Builtin} (ho : o.op = .call c) (hb : c.callee = .builtin b) : OpOK P k n o (cBuiltinM P k n b c.args.toList c.argTypes.toList o.type) := by
  unfold cBuiltinM
  split
  · rename_i x t ha ht
    split
    · rename_i kt et hd
      split
      · rename_i g hx; exact rd_lenMap ho hb ha ht hd hx
      · trivial
    · exact cBuiltin_ok ho hb
  · rename_i x i t us ha ht
    split
    · rename_i g g' hx hi
      cases hc : oDelete P t g g' with
      | eff cc => exact eff_delete ho hb ha ht hx hi hc
      | bad => trivial
      | sil _ => unfold oDelete at hc; split at hc <;> cases hc
      | rd _ => unfold oDelete at hc; split at hc <;> cases hc
      | al _ => unfold oDelete at hc; split at hc <;> cases hc
    · trivial
  · rename_i x t us ha ht
    split
    · rename_i g hx
      cases hc : oClear P t g with
      | eff cc => exact eff_clear ho hb ha ht hx hc
      | bad => trivial
      | sil _ => unfold oClear at hc; (repeat' split at hc) <;> cases hc
      | rd _ => unfold oClear at hc; (repeat' split at hc) <;> cases hc
      | al _ => unfold oClear at hc; (repeat' split at hc) <;> cases hc
    · trivial
  · rename_i x y z l ha
    split
    · rename_i gs hg
      rw [← ha] at hg ⊢
      exact sil_builtin ho hb hg
    · trivial
  · rename_i x y z l ha
    split
    · rename_i gs hg
      rw [← ha] at hg ⊢
      exact sil_builtin ho hb hg
    · trivial
  · exact cBuiltin_ok ho hb
theorem cMap_ok {c : OpC k} (h : match o.op with
    | .makeMap t r => ∃ g, cOpt k n r = some g ∧ c = oMakeMap P t g
    | .lookup t x i ok => ∃ g h, cEv k n x = some g ∧ cEv k n i = some h ∧ c = oLookup P t g h ok
    | .mapUpdate t x i v | .insert t x i v => ∃ g h w, cEv k n x = some g ∧ cEv k n i = some h ∧ cEv k n v = some w ∧ c = oMapUpdate P t g h w
    | .mapEntry t x i => ∃ g h, cEv k n x = some g ∧ cEv k n i = some h ∧ c = oMapEntry P t g h
    | .entryStore _ x i v => ∃ g h w, cEv k n x = some g ∧ cEv k n i = some h ∧ cEv k n v = some w ∧ c = oEntryStore g h w
    | .range t x => ∃ g, cEv k n x = some g ∧ c = oRange P t g
    | .next x str => ∃ g, cEv k n x = some g ∧ c = oNext g str
    | .entry x => ∃ g, cEv k n x = some g ∧ c = oEntry g
    | _ => False) : OpOK P k n o c := by
  split at h
  · rename_i t r ho
    obtain ⟨g, h1, rfl⟩ := h
    cases hc : oMakeMap P t g with
    | al cc => exact al_map ho h1 hc
    | bad => trivial
    | sil _ => unfold oMakeMap at hc; (repeat' split at hc) <;> cases hc
    | rd _ => unfold oMakeMap at hc; (repeat' split at hc) <;> cases hc
    | eff _ => unfold oMakeMap at hc; (repeat' split at hc) <;> cases hc
  · rename_i t x i ok ho
    obtain ⟨g, g', h1, h2, rfl⟩ := h
    cases hc : oLookup P t g g' ok with
    | rd cc => exact rd_lookup ho h1 h2 hc
    | bad => trivial
    | sil _ => unfold oLookup at hc; (repeat' split at hc) <;> cases hc
    | al _ => unfold oLookup at hc; (repeat' split at hc) <;> cases hc
    | eff _ => unfold oLookup at hc; (repeat' split at hc) <;> cases hc
  · rename_i t x i v ho
    obtain ⟨g, g', g2, h1, h2, h3, rfl⟩ := h
    cases hc : oMapUpdate P t g g' g2 with
    | eff cc => exact eff_mapUpdate (.inl ho) h1 h2 h3 hc
    | bad => trivial
    | sil _ => unfold oMapUpdate at hc; (repeat' split at hc) <;> cases hc
    | al _ => unfold oMapUpdate at hc; (repeat' split at hc) <;> cases hc
    | rd _ => unfold oMapUpdate at hc; (repeat' split at hc) <;> cases hc
  · rename_i t x i v ho
    obtain ⟨g, g', g2, h1, h2, h3, rfl⟩ := h
    cases hc : oMapUpdate P t g g' g2 with
    | eff cc => exact eff_mapUpdate (.inr ho) h1 h2 h3 hc
    | bad => trivial
    | sil _ => unfold oMapUpdate at hc; (repeat' split at hc) <;> cases hc
    | al _ => unfold oMapUpdate at hc; (repeat' split at hc) <;> cases hc
    | rd _ => unfold oMapUpdate at hc; (repeat' split at hc) <;> cases hc
  · rename_i t x i ho
    obtain ⟨g, g', h1, h2, rfl⟩ := h
    cases hc : oMapEntry P t g g' with
    | eff cc => exact eff_mapEntry ho h1 h2 hc
    | bad => trivial
    | sil _ => unfold oMapEntry at hc; (repeat' split at hc) <;> cases hc
    | al _ => unfold oMapEntry at hc; (repeat' split at hc) <;> cases hc
    | rd _ => unfold oMapEntry at hc; (repeat' split at hc) <;> cases hc
  · rename_i t x i v ho
    obtain ⟨g, g', g2, h1, h2, h3, rfl⟩ := h
    exact eff_entryStore ho h1 h2 h3 rfl
  · rename_i t x ho
    obtain ⟨g, h1, rfl⟩ := h
    cases hc : oRange P t g with
    | eff cc => exact eff_range ho h1 hc
    | bad => trivial
    | sil _ => unfold oRange at hc; (repeat' split at hc) <;> cases hc
    | al _ => unfold oRange at hc; (repeat' split at hc) <;> cases hc
    | rd _ => unfold oRange at hc; (repeat' split at hc) <;> cases hc
  · rename_i x str ho
    obtain ⟨g, h1, rfl⟩ := h
    exact eff_next ho h1 rfl
  · rename_i x ho
    obtain ⟨g, h1, rfl⟩ := h
    exact rd_entry ho h1 rfl
  · exact h.elim
end Go.Ab
