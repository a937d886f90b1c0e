/- Runs over open values: rows of operations whose order is open. -/
import Derived.Test.YtkpiaipbbpfodaaEngSe
namespace Go.Ab
open Go.RowKit
section
variable (P : Program) (call : CallT)
abbrev Rds := List (Nat × (Frm × (Oper × SV)))
abbrev Pds := List (Nat × (Nat × (Nat × (TypeId × List SV))))
/-- a value that equals itself, seen by the machine -/
def lfS : SV → Bool
  | .int _ _ | .bool _ | .ptr _ _ _ | .slc _ _ _ _ _ | .sl _ _ _ _ | .el _ _ _ _ _ _ | .junk => true
  | .val v => match v with
    | .slice none _ _ | .pointer none | .nilFunc | .nilIface | .map none => true
    | _ => false
  | _ => false
def vqS : SV → Bool
  | .agg l => l.all lfS && Nat.ble l.length 70
  | .fn _ fs cs => fs.all lfS && cs.all lfS && Nat.ble fs.length 70 && Nat.ble cs.length 70
  | v => lfS v
structure seS (a b : SV) (K : Prop) : Prop where
  h : a = b
  k : K
theorem seS_rfl {a : SV} {K : Prop} (h : K) : seS a a K := ⟨rfl, h⟩
/-- what was read is read again -/
def rcS (n mask : Nat) (m : Mem) (rs : Rds) : Prop → Prop :=
  List.rec (motive := fun _ => Prop → Prop) (fun K => K)
    (fun x _ ih K => match x with
      | (i, f, o, v) => bif Nat.testBit mask i then ih K else stepV P n m f o fun w => seS w v (bif vqS v then ih K else False)) rs
def memI (i : Nat) : Pds → Bool
  | [] => false
  | x :: r => match x with
    | (j, _) => Nat.beq j i || memI i r
/-- blocks that are laid now -/
def adM (mask : Nat) : Pds → Mem → (Mem → Prop) → Prop
  | [], m, K => K m
  | x :: r, m, K => match x with
    | (i, c, b, e, l) => bif Nat.testBit mask i then adM mask r m fun m => K ((c, .own b e l) :: m) else adM mask r m K
def adA : Pds → Mem → (Mem → Prop) → Prop
  | [], m, K => K m
  | x :: r, m, K => match x with
    | (_, c, b, e, l) => adA r m fun m => K ((c, .own b e l) :: m)
def lfP (mask : Nat) : Pds → (Pds → Prop) → Prop
  | [], K => K []
  | x :: r, K => match x with
    | (i, y) => bif Nat.testBit mask i then lfP mask r K else lfP mask r fun r => K ((i, y) :: r)
def wpDrs (n : Nat) (all : List Oper) (masks : List Nat) (os : List (Nat × Oper)) : Frm → Mem → Nat → Nat → Rds → Pds → (Frm → Mem → Nat → Nat → Prop) → Prop :=
  List.rec (motive := fun _ => Frm → Mem → Nat → Nat → Rds → Pds → (Frm → Mem → Nat → Nat → Prop) → Prop) (fun f m R ni _ pend K => adA pend m fun m => K f m R ni)
    (fun x _ ih f m R ni reads pend K => match x with
      | (i, o) => bif okD n o.dst then grdS n f all o.guard
        (bif isAl o then alS P n f o fun e l mk => (bif memI i pend then False else ∀ b, forceS (mk ni b) fun v => putK o.dst v f fun f => ih f m R (ni + 1) reads ((i, ni, b, e, l) :: pend) K)
        else bif isEf o then adM (masks.getD i 0) pend m fun m => efS P call n m f o R ni fun v m R ni =>
          rcS P n (masks.getD i 0) m reads (lfP (masks.getD i 0) pend fun pend => putK o.dst v f fun f => ih f m R ni reads pend K)
        else stepV P n m f o fun v => putK o.dst v f fun f' => bif isLd o then ih f' m R ni ((i, f, o, v) :: reads) pend K else ih f' m R ni reads pend K)
        (putK o.dst (.val undef) f fun f => ih f m R ni reads pend K) else False) os
theorem wpDrs_cons {n : Nat} {all : List Oper} {masks : List Nat} {i : Nat} {o : Oper} {os : List (Nat × Oper)} {f : Frm} {m : Mem} {R ni : Nat} {reads : Rds} {pend : Pds} {K : Frm → Mem → Nat → Nat → Prop} : Ab.wpDrs P call n all masks ((i, o) :: os) f m R ni reads pend K =
    bif okD n o.dst then grdS n f all o.guard
        (bif isAl o then alS P n f o fun e l mk => (bif memI i pend then False else ∀ b, forceS (mk ni b) fun v => putK o.dst v f fun f => Ab.wpDrs P call n all masks os f m R (ni + 1) reads ((i, ni, b, e, l) :: pend) K)
        else bif isEf o then adM (masks.getD i 0) pend m fun m => efS P call n m f o R ni fun v m R ni =>
          rcS P n (masks.getD i 0) m reads (lfP (masks.getD i 0) pend fun pend => putK o.dst v f fun f => Ab.wpDrs P call n all masks os f m R ni reads pend K)
        else stepV P n m f o fun v => putK o.dst v f fun f' => bif isLd o then Ab.wpDrs P call n all masks os f' m R ni ((i, f, o, v) :: reads) pend K else Ab.wpDrs P call n all masks os f' m R ni reads pend K)
        (putK o.dst (.val undef) f fun f => Ab.wpDrs P call n all masks os f m R ni reads pend K) else False := rfl
end
section
variable {P : Program} {k n : Nat} {t : Fm Value k} {f : Frm} {m : Mem} {X Z : Nat → Prop} {s0 s : St} {R ni : Nat} {o : Oper} {call : CallT} {r : Bool} {base : Nat}
theorem veq_leaf {v : SV} (h : lfS v = true) (d : Nat) : veq (d + 2) (den v) (den v) = true := by
  cases v <;> (try (cases h; done))
  · exact veq_int (d + 1) _ _
  · show (_ == _) = true; simp
  · show (Nat.beq _ _ && Nat.beq _ _) = true; simp only [Nat.beq_refl]; rfl
  · show (Nat.beq _ _ && Nat.beq _ _ && Nat.beq _ _ && Nat.beq _ _) = true; simp only [Nat.beq_refl]; rfl
  · rename_i i a n c
    show veq (d + 2) (.slice a n c) (.slice a n c) = true
    cases a with
    | none => show (Nat.beq _ _ && Nat.beq _ _) = true; simp only [Nat.beq_refl]; rfl
    | some a =>
      obtain ⟨b, o, sp⟩ := a
      cases sp with
      | none => show (Nat.beq _ _ && Nat.beq _ _ && Nat.beq _ _ && Nat.beq _ _) = true; simp only [Nat.beq_refl]; rfl
      | some x => show (Nat.beq _ _ && Nat.beq _ _ && Nat.beq _ _ && Nat.beq _ _ && Nat.beq _ _) = true; simp only [Nat.beq_refl]; rfl
  · show (Nat.beq _ _ && Nat.beq _ _) = true; simp only [Nat.beq_refl]; rfl
  · rename_i v
    cases v <;> (try (cases h; done))
    · rename_i p; cases p <;> first | rfl | cases h
    · rename_i a n c; cases a <;> first | (cases h; done) | (show (Nat.beq _ _ && Nat.beq _ _) = true; simp only [Nat.beq_refl]; rfl)
    · rename_i a; cases a <;> first | rfl | cases h
    · rfl
    · rfl
  · rfl
theorem veqs_leaf : ∀ {l : List SV}, l.all lfS = true → ∀ d, l.length + 2 ≤ d → veqs d (dens l) (dens l) = true
  | [], _, d, h => by cases d with
    | zero => simp at h
    | succ d => rfl
  | x :: l, ha, d, h => by
    simp only [List.length_cons] at h
    rw [List.all_cons, Bool.and_eq_true] at ha
    match d, h with
    | d + 3, h =>
      show (veq (d + 2) (den x) (den x) && veqs (d + 2) (dens l) (dens l)) = true
      rw [veq_leaf ha.1, veqs_leaf ha.2 (d + 2) (by omega)]; rfl
    | 0, h => omega
    | 1, h => omega
    | 2, h => omega
theorem vqS_ok {v : SV} (h : vqS v = true) : veq 100 (den v) (den v) = true := by
  cases v <;> first | (refine veq_leaf ?_ 98; exact h) | skip
  · rename_i l
    have h : (l.all lfS && Nat.ble l.length 70) = true := h
    obtain ⟨h1, h2⟩ := and_true h
    exact veqs_leaf h1 99 (by have := ble_true h2; omega)
  · rename_i g fs cs
    have h : (fs.all lfS && cs.all lfS && Nat.ble fs.length 70 && Nat.ble cs.length 70) = true := h
    obtain ⟨h, h4⟩ := and_true h
    obtain ⟨h, h3⟩ := and_true h
    obtain ⟨h1, h2⟩ := and_true h
    show (Nat.beq g g && veqs 99 (dens fs) (dens fs) && veqs 99 (dens cs) (dens cs)) = true
    rw [Nat.beq_refl, veqs_leaf h1 99 (by have := ble_true h3; omega), veqs_leaf h2 99 (by have := ble_true h4; omega)]; rfl
/-- reads that the machine remembers are among those that are remembered -/
def RdsOK (P : Program) (k n : Nat) (reads : List (Nat × (St → Bool))) (rs : Rds) : Prop :=
  ∀ x ∈ reads, ∃ f o v t c, (x.1, f, o, v) ∈ rs ∧ FrameOK k n t f ∧ cOper P k n o = .rd c ∧ x.2 = fun s' => c.m t s' (veq 100 (den v))
theorem recheck_all {mask : Nat} {s : St} : ∀ {reads : List (Nat × (St → Bool))}, (∀ x ∈ reads, Nat.testBit mask x.1 = false → x.2 s = true) → recheck mask reads s = true
  | [], _ => rfl
  | (i, c) :: l, h => by
    have h2 := recheck_all (mask := mask) (reads := l) fun x hx => h x (by simp [hx])
    have h1 := h (i, c) (by simp)
    unfold recheck
    rw [h2]
    cases hb : Nat.testBit mask i with
    | true => rfl
    | false => rw [show c s = true from h1 hb]; rfl
theorem rcS_ok (hm : MemOK X Z s0 R s m) {mask : Nat} : ∀ {rs : Rds} {K : Prop}, (∀ x ∈ rs, ∃ t, FrameOK k n t x.2.1) → rcS P n mask m rs K → K ∧ ∀ f o v i, (i, f, o, v) ∈ rs → Nat.testBit mask i = false → ∀ t c, FrameOK k n t f → cOper P k n o = .rd c → c.m t s (veq 100 (den v)) = true
  | [], K, _, h => ⟨h, fun _ _ _ _ hx => by cases hx⟩
  | (i, f, o, v) :: r, K, hfr, h => by
    have h : (bif Nat.testBit mask i then rcS P n mask m r K else stepV P n m f o fun w => seS w v (bif vqS v then rcS P n mask m r K else False)) := h
    have hfr' : ∀ x ∈ r, ∃ t, FrameOK k n t x.2.1 := fun x hx => hfr x (List.mem_cons_of_mem _ hx)
    cases hb : Nat.testBit mask i with
    | true =>
      rw [hb] at h
      obtain ⟨h1, h2⟩ := rcS_ok hm hfr' h
      refine ⟨h1, fun f' o' v' i' hx hi => ?_⟩
      rcases List.mem_cons.1 hx with hx | hx
      · cases hx; rw [hb] at hi; cases hi
      · exact h2 f' o' v' i' hx hi
    | false =>
      rw [hb] at h
      simp only [cond_false] at h
      obtain ⟨t0, hf0⟩ := hfr (i, f, o, v) (by simp)
      obtain ⟨w, ⟨rfl, hK⟩, _⟩ := stepV_ok hf0 hm h
      cases hv : vqS w with
      | false => rw [hv] at hK; exact hK.elim
      | true =>
        rw [hv] at hK
        obtain ⟨h1, h2⟩ := rcS_ok hm hfr' hK
        refine ⟨h1, fun f' o' v' i' hx hi t c hf hc => ?_⟩
        rcases List.mem_cons.1 hx with hx | hx
        · cases hx
          obtain ⟨w', ⟨rfl, _⟩, h3⟩ := stepV_ok hf hm h
          rcases h3 with ⟨c', hc', _⟩ | ⟨_, c', hc', h3⟩
          · rw [hc] at hc'; cases hc'
          · rw [hc] at hc'; cases hc'
            rw [h3]
            exact vqS_ok hv
        · exact h2 f' o' v' i' hx hi t c hf hc
/-! blocks that wait -/
def toP (x : Nat × (Nat × (Nat × (TypeId × List SV)))) : Nat × AObj := (x.1, mkC (dens x.2.2.2.2) x.2.2.2.1 false)
/-- blocks that wait: their places are named, nothing lies there that is known -/
structure PdsOK (X Z : Nat → Prop) (s0 : St) (base len : Nat) (s : St) (m : Mem) (pend : Pds) : Prop where
  at_ : ∀ x ∈ pend, x.2.2.1 = base + x.1 ∧ x.1 < len ∧ x.2.2.2.2.length ≤ 32768 ∧ Nat.beq x.2.2.2.1 ro = false
  nodup : (pend.map (·.1)).Nodup
  nx : base + len ≤ s.nx
  le : s0.nx ≤ base
  free : ∀ x ∈ pend, ∀ y ∈ m, ¬ fpE y.2 (base + x.1) ∧ ¬ rdE y.2 (base + x.1)
theorem OwnE.setNew {s : St} {b : Nat} {l : List Value} {e : TypeId} (hb : b < s.nx) (hfl : s.fl ≤ b) (hlt : b < 262144) (hl : l.length ≤ 32768) (he : Nat.beq e ro = false) : OwnE (s.set b (some (mkC l e false))) b e l := by
  refine ⟨⟨hb, ok_of (s := s.set b _) hfl⟩, hlt, _, _, _, _, by rw [St.at_set hlt, if_pos rfl]; rfl, he, rfl, le_lvl _ hl, ?_⟩
  rcases gets_puts0 (l := l) with h | h
  · exact h
  · omega
/-- one of them is laid -/
theorem MemOK.lay (hm : MemOK X Z s0 R s m) {b : Nat} (hb : b < s.nx) (h0 : s0.nx ≤ b) (hfree : ∀ y ∈ m, ¬ fpE y.2 b ∧ ¬ rdE y.2 b) {l : List SV} {e : TypeId} (hl : l.length ≤ 32768) (he : Nat.beq e ro = false) (c : Nat) :
    MemOK X Z s0 R (s.set b (some (mkC (dens l) e false))) ((c, .own b e l) :: m) := by
  have hlt : b < 262144 := by have := hm.nx; omega
  have hfl : s.fl ≤ b := by have h1 := hm.fr.2.2; have h2 := hm.fl; omega
  have h1 : MemOK X Z s0 R (s.set b (some (mkC (dens l) e false))) m := hm.step (Y := (· = b)) (Fr.set hlt) (fun c hc => by cases hc; exact .inl h0) (fun x hx c hc hcb => by cases hcb; exact (hfree x hx).1 hc) (fun x hx c hc hcb => by cases hcb; exact (hfree x hx).2 hc) hm.nx
  refine h1.cons ⟨OwnE.setNew hb hfl hlt (by rw [dens_length]; exact hl) he, .inl h0⟩ fun x hx => ⟨fun c hc hxc => ?_, fun c hc hxc => ?_, fun c hc => hc.elim⟩
  · cases hc; exact (hfree x hx).1 hxc
  · cases hc; exact (hfree x hx).2 hxc
theorem adA_ok {base len : Nat} : ∀ {pend : Pds} {m : Mem} {R : Nat} {s : St} {Q : Mem → Prop}, PdsOK X Z s0 base len s m pend → MemOK X Z s0 R s m → adA pend m Q → ∃ m', MemOK X Z s0 R (adoptAll base (pend.map toP) s) m' ∧ Q m' ∧ (∀ i, i < len → i ∉ pend.map (·.1) → (∀ y ∈ m, ¬ fpE y.2 (base + i) ∧ ¬ rdE y.2 (base + i)) → ∀ y ∈ m', ¬ fpE y.2 (base + i) ∧ ¬ rdE y.2 (base + i)) ∧ (adoptAll base (pend.map toP) s).nx = s.nx
  | [], m, R, s, Q, hp, hm, h => ⟨m, hm, h, fun _ _ _ h => h, rfl⟩
  | (i, c, b, e, l) :: r, m, R, s, Q, hp, hm, h => by
    obtain ⟨ha1, ha2, ha3, ha4⟩ := hp.at_ (i, c, b, e, l) (by simp)
    have ha1 : b = base + i := ha1
    subst ha1
    have ha2 : i < len := ha2
    have hnd := hp.nodup
    rw [List.map_cons, List.nodup_cons] at hnd
    have hp' : PdsOK X Z s0 base len s m r := ⟨fun x hx => hp.at_ x (by simp [hx]), hnd.2, hp.nx, hp.le, fun x hx => hp.free x (by simp [hx])⟩
    have h : adA r m (fun m => Q ((c, .own (base + i) e l) :: m)) := h
    obtain ⟨m', h1, h2, h3, h4⟩ := adA_ok hp' hm h
    have hfree := h3 i ha2 hnd.1 (hp.free (i, c, base + i, e, l) (by simp))
    have hnx := hp.nx
    have hle := hp.le
    refine ⟨_, h1.lay (b := base + i) (by rw [h4]; omega) (by omega) hfree ha3 ha4 c, h2, fun j hj hn hy y hm' => ?_, h4⟩
    simp only [List.map_cons, List.mem_cons, not_or] at hn
    rcases List.mem_cons.1 hm' with rfl | hm'
    · exact ⟨fun hb => by have hb : base + j = base + i := hb; exact hn.1 (by omega), fun hb => hb.elim⟩
    · exact h3 j hj hn.2 hy y hm'
theorem adM_ok {base len mask : Nat} : ∀ {pend : Pds} {m : Mem} {R : Nat} {s : St} {Q : Mem → Prop}, PdsOK X Z s0 base len s m pend → MemOK X Z s0 R s m → adM mask pend m Q → ∃ m', MemOK X Z s0 R (adopt base mask (pend.map toP) s) m' ∧ Q m' ∧ (∀ i, i < len → (i ∉ pend.map (·.1) ∨ Nat.testBit mask i = false) → (∀ y ∈ m, ¬ fpE y.2 (base + i) ∧ ¬ rdE y.2 (base + i)) → ∀ y ∈ m', ¬ fpE y.2 (base + i) ∧ ¬ rdE y.2 (base + i)) ∧ (adopt base mask (pend.map toP) s).nx = s.nx
  | [], m, R, s, Q, hp, hm, h => ⟨m, hm, h, fun _ _ _ h => h, rfl⟩
  | (i, c, b, e, l) :: r, m, R, s, Q, hp, hm, h => by
    obtain ⟨ha1, ha2, ha3, ha4⟩ := hp.at_ (i, c, b, e, l) (by simp)
    have ha1 : b = base + i := ha1
    subst ha1
    have ha2 : i < len := ha2
    have hnd := hp.nodup
    rw [List.map_cons, List.nodup_cons] at hnd
    have hp' : PdsOK X Z s0 base len s m r := ⟨fun x hx => hp.at_ x (by simp [hx]), hnd.2, hp.nx, hp.le, fun x hx => hp.free x (by simp [hx])⟩
    have h : (bif Nat.testBit mask i then adM mask r m (fun m => Q ((c, .own (base + i) e l) :: m)) else adM mask r m Q) := h
    have hun : adopt base mask (toP (i, c, base + i, e, l) :: r.map toP) s = bif Nat.testBit mask i then (adopt base mask (r.map toP) s).set (Nat.add base i) (some (mkC (dens l) e false)) else adopt base mask (r.map toP) s := rfl
    rw [List.map_cons, hun]
    cases hb : Nat.testBit mask i with
    | false =>
      rw [hb] at h
      obtain ⟨m', h1, h2, h3, h4⟩ := adM_ok hp' hm h
      refine ⟨m', h1, h2, fun j hj hn hy => h3 j hj (hn.imp_left fun hn => ?_) hy, h4⟩
      simp only [List.map_cons, List.mem_cons, not_or] at hn
      exact hn.2
    | true =>
      rw [hb] at h
      simp only [cond_true] at h
      obtain ⟨m', h1, h2, h3, h4⟩ := adM_ok hp' hm h
      have hfree := h3 i ha2 (.inl hnd.1) (hp.free (i, c, base + i, e, l) (by simp))
      have hnx := hp.nx
      have hle := hp.le
      refine ⟨_, h1.lay (b := base + i) (by rw [h4]; omega) (by omega) hfree ha3 ha4 c, h2, fun j hj hn hy y hm' => ?_, h4⟩
      have hji : j ≠ i := fun e => by
        subst e
        rcases hn with hn | hn
        · simp at hn
        · rw [hb] at hn; cases hn
      have hn' : j ∉ r.map (·.1) ∨ Nat.testBit mask j = false := hn.imp_left fun hn => by
        simp only [List.map_cons, List.mem_cons, not_or] at hn; exact hn.2
      rcases List.mem_cons.1 hm' with rfl | hm'
      · exact ⟨fun hb => by have hb : base + j = base + i := hb; omega, fun hb => hb.elim⟩
      · exact h3 j hj hn' hy y hm'
theorem lfP_ok {mask : Nat} : ∀ {pend : Pds} {Q : Pds → Prop}, lfP mask pend Q → ∃ p', left mask (pend.map toP) = p'.map toP ∧ Q p' ∧ (∀ x ∈ p', x ∈ pend ∧ Nat.testBit mask x.1 = false) ∧ List.Sublist p' pend
  | [], Q, h => ⟨[], rfl, h, (fun x hx => by cases hx), List.Sublist.slnil⟩
  | (i, y) :: r, Q, h => by
    have h : (bif Nat.testBit mask i then lfP mask r Q else lfP mask r fun r => Q ((i, y) :: r)) := h
    have hun : left mask (toP (i, y) :: r.map toP) = bif Nat.testBit mask i then left mask (r.map toP) else toP (i, y) :: left mask (r.map toP) := rfl
    rw [List.map_cons, hun]
    cases hb : Nat.testBit mask i with
    | true =>
      rw [hb] at h
      obtain ⟨p', h1, h2, h3, h4⟩ := lfP_ok h
      exact ⟨p', h1, h2, fun x hx => ⟨List.mem_cons_of_mem _ (h3 x hx).1, (h3 x hx).2⟩, h4.cons _⟩
    | false =>
      rw [hb] at h
      obtain ⟨p', h1, h2, h3, h4⟩ := lfP_ok h
      refine ⟨(i, y) :: p', by rw [List.map_cons, ← h1]; rfl, h2, fun x hx => ?_, h4.cons_cons _⟩
      rcases List.mem_cons.1 hx with rfl | hx
      · exact ⟨by simp, hb⟩
      · exact ⟨List.mem_cons_of_mem _ (h3 x hx).1, (h3 x hx).2⟩
theorem memI_ok {i : Nat} : ∀ {pend : Pds}, memI i pend = false → i ∉ pend.map (·.1)
  | [], _ => by simp
  | (j, y) :: r, h => by
    have h : (Nat.beq j i || memI i r) = false := h
    rw [Bool.or_eq_false_iff] at h
    have h2 := memI_ok h.2
    rw [List.map_cons, List.mem_cons, not_or]
    refine ⟨fun e => ?_, h2⟩
    have e : i = j := e
    subst e
    rw [Nat.beq_refl] at h
    cases h.1
theorem idx_lt {all : List Oper} {i : Nat} {o : Oper} (h : nthO all i = some o) : i < all.length := by
  induction all generalizing i with
  | nil => cases h
  | cons x l ih => cases i with
    | zero => simp
    | succ i => have := ih (i := i) h; simp; exact this
/-- what is known of the rows that are left -/
structure OsOK (base len : Nat) (m : Mem) (pend : Pds) (os : List (Nat × Oper)) : Prop where
  lt : ∀ x ∈ os, x.1 < len
  nodup : (os.map (·.1)).Nodup
  np : ∀ x ∈ os, x.1 ∉ pend.map (·.1)
  free : ∀ x ∈ os, ∀ y ∈ m, ¬ fpE y.2 (base + x.1) ∧ ¬ rdE y.2 (base + x.1)
theorem OsOK.tail {base len : Nat} {m : Mem} {pend : Pds} {x : Nat × Oper} {os : List (Nat × Oper)} (h : OsOK base len m pend (x :: os)) : OsOK base len m pend os :=
  ⟨fun y hy => h.lt y (by simp [hy]), (List.nodup_cons.1 h.nodup).2, fun y hy => h.np y (by simp [hy]), fun y hy => h.free y (by simp [hy])⟩
theorem free_after {m m' : Mem} {s s' : St} {R' : Nat} (h : MemOK (fpM m) (rdM m) s R' s' m') {b : Nat} (hb : b < s.nx) (hf : ∀ y ∈ m, ¬ fpE y.2 b ∧ ¬ rdE y.2 b) : ∀ y ∈ m', ¬ fpE y.2 b ∧ ¬ rdE y.2 b := by
  intro y hy
  have he := h.ent y hy
  refine ⟨fun hyb => ?_, fun hyb => ?_⟩
  · rcases ent_mine he hyb with h1 | ⟨x, hx, h1⟩
    · omega
    · exact (hf x hx).1 h1
  · rcases ent_old he hyb with h1 | ⟨x, hx, h1⟩ | ⟨x, hx, h1⟩
    · omega
    · exact (hf x hx).1 h1
    · exact (hf x hx).2 h1
/-- rows in an open order -/
theorem wpDrs_ok (hn : n ≤ pow8 k) {all : List Oper} {masks : List Nat} {base : Nat} {Kr : Fm Value k → St → Bool} {K : Frm → Mem → Nat → Nat → Prop} (hK : ∀ f' t' m' R' ni' s', FrameOK k n t' f' → MemOK X Z s0 R' s' m' → K f' m' R' ni' → Kr t' s' = r) :
    ∀ {os : List (Nat × Oper)} {f : Frm} {t : Fm Value k} {m : Mem} {R ni : Nat} {s : St} {reads : List (Nat × (St → Bool))} {rs : Rds} {pend : Pds}, OsOK base all.length m pend os → FrameOK k n t f → MemOK X Z s0 R s m → RdsOK P k n reads rs → (∀ x ∈ rs, ∃ t, FrameOK k n t x.2.1) → PdsOK X Z s0 base all.length s m pend →
      wpDrs P call n all masks os f m R ni rs pend K → (cDrs P k n all masks os).run call base Kr reads (pend.map toP) t s = r
  | [], f, t, m, R, ni, s, reads, rs, pend, _, hf, hm, _, _, hp, h => by
    obtain ⟨m', h1, h2, _, _⟩ := adA_ok hp hm h
    exact hK f t m' R ni _ hf h1 h2
  | (i, o) :: os, f, t, m, R, ni, s, reads, rs, pend, hos, hf, hm, hr, hrf, hp, h => by
    have hi : i < all.length := hos.lt (i, o) (by simp)
    have hnd := hos.nodup
    rw [List.map_cons, List.nodup_cons] at hnd
    rw [wpDrs_cons] at h
    cases hd : okD n o.dst with
    | false => rw [hd] at h; exact h.elim
    | true =>
      rw [hd] at h
      simp only [cond_true] at h
      obtain ⟨p, hpt⟩ := okD_put (k := k) hd
      refine Eq.trans drs_cons ?_
      have hyes : (bif isAl o then alS P n f o fun e l mk => (bif memI i pend then False else ∀ b, forceS (mk ni b) fun v => putK o.dst v f fun f => wpDrs P call n all masks os f m R (ni + 1) rs ((i, ni, b, e, l) :: pend) K)
        else bif isEf o then adM (masks.getD i 0) pend m fun m => efS P call n m f o R ni fun v m R ni =>
          rcS P n (masks.getD i 0) m rs (lfP (masks.getD i 0) pend fun pend => putK o.dst v f fun f => wpDrs P call n all masks os f m R ni rs pend K)
        else stepV P n m f o fun v => putK o.dst v f fun f' => bif isLd o then wpDrs P call n all masks os f' m R ni ((i, f, o, v) :: rs) pend K else wpDrs P call n all masks os f' m R ni rs pend K) →
          (dOne i (masks.getD i 0) (cOper P k n o) p (cDrs P k n all masks os)).run call base Kr reads (pend.map toP) t s = r := by
        intro h
        cases ha : isAl o with
        | true =>
          rw [ha] at h
          simp only [cond_true] at h
          obtain ⟨e, l, mk, h1, h2, h3, c, h4, h5⟩ := alS_ok hf h
          cases hmi : memI i pend with
          | true => rw [hmi] at h1; exact h1.elim
          | false =>
            rw [hmi] at h1
            simp only [cond_false] at h1
            rw [h4]
            show (c.m t fun o v => (cDrs P k n all masks os).run call base Kr reads ((i, o) :: pend.map toP) (p.s (v (Nat.add base i)) t) s) = r
            rw [h5 ni]
            have hni := memI_ok hmi
            have hp' : PdsOK X Z s0 base all.length s m ((i, ni, base + i, e, l) :: pend) := ⟨fun x hx => by
                rcases List.mem_cons.1 hx with rfl | hx
                · exact ⟨rfl, hi, h2, h3⟩
                · exact hp.at_ x hx, by rw [List.map_cons, List.nodup_cons]; exact ⟨hni, hp.nodup⟩, hp.nx, hp.le, fun x hx => by
                rcases List.mem_cons.1 hx with rfl | hx
                · exact hos.free (i, o) (by simp)
                · exact hp.free x hx⟩
            have hos' : OsOK base all.length m ((i, ni, base + i, e, l) :: pend) os := ⟨hos.tail.lt, hos.tail.nodup, fun x hx => by
                rw [List.map_cons, List.mem_cons, not_or]
                refine ⟨fun e => ?_, hos.tail.np x hx⟩
                have e : x.1 = i := e
                exact hnd.1 (List.mem_map.2 ⟨x, hx, e⟩), hos.tail.free⟩
            exact wpDrs_ok hn hK hos' (hf.putO hn hpt fun _ => rfl) hm hr hrf hp' (by have h1 := h1 (base + i); rw [forceS_eq, putK_eq] at h1; exact h1)
        | false =>
          rw [ha] at h
          simp only [cond_false] at h
          cases he : isEf o with
          | true =>
            rw [he] at h
            simp only [cond_true] at h
            obtain ⟨m1, a1, a2, a3, a4⟩ := adM_ok hp hm h
            obtain ⟨c, b1, b2⟩ := efS_ok hf a1 a2
            rw [b1]
            refine b2 _ r fun w m2 R2 ni2 s2 hm2 hreb hk => ?_
            obtain ⟨hk, hrc⟩ := rcS_ok (k := k) hm2 hrf hk
            have hrec : recheck (masks.getD i 0) reads s2 = true := recheck_all fun x hx hb => by
              obtain ⟨f', o', v', t', c', g1, g2, g3, g4⟩ := hr x hx
              rw [g4]
              exact hrc f' o' v' x.1 g1 hb t' c' g2 g3
            rw [hrec, Bool.true_and]
            obtain ⟨p', l1, l2, l3, l4⟩ := lfP_ok hk
            rw [l1]
            have hfr := hreb.fr.1
            rw [a4] at hfr
            have hfree : ∀ j, j < all.length → (j ∉ pend.map (·.1) ∨ Nat.testBit (masks.getD i 0) j = false) → (∀ y ∈ m, ¬ fpE y.2 (base + j) ∧ ¬ rdE y.2 (base + j)) → ∀ y ∈ m2, ¬ fpE y.2 (base + j) ∧ ¬ rdE y.2 (base + j) := fun j hj hn hy =>
              free_after hreb (by rw [a4]; have := hp.nx; omega) (a3 j hj hn hy)
            have hp' : PdsOK X Z s0 base all.length s2 m2 p' := ⟨fun x hx => hp.at_ x (l3 x hx).1, (l4.map _).nodup hp.nodup, Nat.le_trans hp.nx hfr, hp.le, fun x hx =>
              hfree x.1 (hp.at_ x (l3 x hx).1).2.1 (.inr (l3 x hx).2) (hp.free x (l3 x hx).1)⟩
            have hos' : OsOK base all.length m2 p' os := ⟨hos.tail.lt, hos.tail.nodup, fun x hx hxp => hos.tail.np x hx ((l4.map _).subset hxp), fun x hx =>
              hfree x.1 (hos.tail.lt x hx) (.inl (hos.tail.np x hx)) (hos.tail.free x hx)⟩
            rw [putK_eq] at l2
            exact wpDrs_ok hn hK hos' (hf.putO hn hpt fun _ => rfl) hm2 hr hrf hp' l2
          | false =>
            rw [he] at h
            simp only [cond_false] at h
            obtain ⟨v, hv, ⟨c, h1, h2⟩ | ⟨hl, c, h1, h2⟩⟩ := stepV_ok hf hm h
            · rw [h1]
              rw [putK_eq] at hv
              cases hl : isLd o with
              | false =>
                rw [hl] at hv
                exact (h2 _).trans (wpDrs_ok hn hK hos.tail (hf.putO hn hpt fun _ => rfl) hm hr hrf hp hv)
              | true =>
                rw [hl] at hv
                refine (h2 _).trans (wpDrs_ok hn hK hos.tail (hf.putO hn hpt fun _ => rfl) hm (rs := (i, f, o, v) :: rs) (fun x hx => ?_) (fun x hx => ?_) hp hv)
                · obtain ⟨f', o', v', t', c', g1, g2⟩ := hr x hx
                  exact ⟨f', o', v', t', c', by simp [g1], g2⟩
                · rcases List.mem_cons.1 hx with rfl | hx
                  · exact ⟨t, hf⟩
                  · exact hrf x hx
            · rw [h1]
              rw [putK_eq, hl] at hv
              refine (h2 _).trans (wpDrs_ok hn hK hos.tail (hf.putO hn hpt fun _ => rfl) hm (rs := (i, f, o, v) :: rs) (fun x hx => ?_) (fun x hx => ?_) hp hv)
              · rcases List.mem_cons.1 hx with rfl | hx
                · exact ⟨f, o, v, t, c, by simp, hf, h1, rfl⟩
                · obtain ⟨f', o', v', t', c', g1, g2⟩ := hr x hx
                  exact ⟨f', o', v', t', c', by simp [g1], g2⟩
              · rcases List.mem_cons.1 hx with rfl | hx
                · exact ⟨t, hf⟩
                · exact hrf x hx
      rcases grdS_ok hf h with ⟨_, hg, h⟩ | ⟨gw, want, hg, hc, ⟨hb, h⟩ | ⟨hb, h⟩⟩
      · simp only [hpt, hg]; exact hyes h
      · simp only [hpt, hg, hc, hb, Bool.not_false, cond_true]; exact hyes h
      · simp only [hpt, hg, hc, hb, Bool.not_false, cond_true, cond_false]
        exact wpDrs_ok hn hK hos.tail (hf.putO hn hpt (w := .val undef) fun _ => rfl) hm hr hrf hp (by rw [putK_eq] at h; exact h)
/-! the order -/
def forceN (a : Nat) (K : Nat → Prop) : Prop := match a with
  | 0 => K 0
  | x + 1 => K (x + 1)
theorem forceN_eq (a : Nat) (K : Nat → Prop) : forceN a K = K a := by cases a <;> rfl
def forceNs : List Nat → (List Nat → Prop) → Prop
  | [], K => K []
  | x :: l, K => forceN x fun x => forceNs l fun l => K (x :: l)
theorem forceNs_eq : ∀ (l : List Nat) (K : List Nat → Prop), forceNs l K = K l
  | [], K => rfl
  | x :: l, K => by unfold forceNs; rw [forceN_eq, forceNs_eq l]
/-- numbers of operations: those with effects; the others by stages -/
def efIdx : Nat → List Oper → List Nat
  | _, [] => []
  | i, o :: os => bif isEf o then i :: efIdx (i + 1) os else efIdx (i + 1) os
def stIdx (masks effs : List Nat) (m : Nat) : Nat → List Oper → List Nat → List Nat
  | _, [], r => r
  | i, o :: os, r => bif !isEf o && Nat.beq (stageOf (masks.getD i 0) effs) m then i :: stIdx masks effs m (i + 1) os r else stIdx masks effs m (i + 1) os r
def orIdx (masks effs : List Nat) (l : List Oper) : Nat → List Nat → List Nat
  | m, [] => stIdx masks effs m 0 l []
  | m, e :: es => stIdx masks effs m 0 l (e :: orIdx masks effs l (m + 1) es)
def sameNs : List Nat → List Nat → Bool
  | [], [] => true
  | x :: l, y :: r => Nat.beq x y && sameNs l r
  | _, _ => false
theorem sameNs_eq : ∀ {l r : List Nat}, sameNs l r = true → l = r
  | [], [], _ => rfl
  | x :: l, y :: r, h => by
    have h : (Nat.beq x y && sameNs l r) = true := h
    obtain ⟨h1, h2⟩ := and_true h
    rw [beq_true h1, sameNs_eq h2]
  | [], _ :: _, h => by cases h
  | _ :: _, [], h => by cases h
def noDup : List Nat → Bool
  | [] => true
  | x :: l => !memNat x l && noDup l
theorem memNat_ok {n : Nat} : ∀ {l : List Nat}, memNat n l = false → n ∉ l
  | [], _ => by simp
  | x :: l, h => by
    have h : (Nat.beq x n || memNat n l) = false := h
    rw [Bool.or_eq_false_iff] at h
    rw [List.mem_cons, not_or]
    refine ⟨fun e => ?_, memNat_ok h.2⟩
    subst e
    rw [Nat.beq_refl] at h
    cases h.1
theorem noDup_ok : ∀ {l : List Nat}, noDup l = true → l.Nodup
  | [], _ => List.nodup_nil
  | x :: l, h => by
    have h : (!memNat x l && noDup l) = true := h
    obtain ⟨h1, h2⟩ := and_true h
    exact List.nodup_cons.2 ⟨memNat_ok (not_t h1), noDup_ok h2⟩
/-- whether the machine's order is that one -/
def drwOK (P : Program) (n : Nat) (ops : Array Oper) : Bool :=
  drawChk P (lvl n) n ops && (sameNs ((drawOrd P (lvl n) n ops).map (·.1)) (orIdx (drawMasks ops) (efIdx 0 ops.toList) ops.toList 0 (efIdx 0 ops.toList)) && noDup ((drawOrd P (lvl n) n ops).map (·.1)))
theorem numb_mem : ∀ {l : List Oper} {j : Nat} {x : Nat × Oper}, x ∈ number j l → j ≤ x.1 ∧ nthO l (x.1 - j) = some x.2
  | [], _, _, h => by cases h
  | o :: l, j, x, h => by
    have h : x ∈ (j, o) :: number (Nat.add j 1) l := h
    rcases List.mem_cons.1 h with rfl | h
    · exact ⟨Nat.le_refl _, by rw [Nat.sub_self]; rfl⟩
    · obtain ⟨h1, h2⟩ := numb_mem h
      have h1 : j + 1 ≤ x.1 := h1
      refine ⟨by omega, ?_⟩
      have h2 : nthO l (x.1 - (j + 1)) = some x.2 := h2
      rw [show x.1 - j = (x.1 - (j + 1)) + 1 by omega]
      exact h2
theorem ordOf_mem {masks effs : List Nat} {l : List (Nat × Oper)} {x : Nat × Oper} : ∀ {m : Nat} {es : List (Nat × Oper)}, x ∈ orderOf P k n masks effs l m es → x ∈ l ∨ x ∈ es
  | m, [], h => .inl (List.mem_filter.1 h).1
  | m, e :: es, h => by
    have h : x ∈ (l.filter fun x => !isEffO P k n x.2 && Nat.beq (stageOf (masks.getD x.1 0) effs) m) ++ e :: orderOf P k n masks effs l (Nat.add m 1) es := h
    rcases List.mem_append.1 h with h | h
    · exact .inl (List.mem_filter.1 h).1
    · rcases List.mem_cons.1 h with rfl | h
      · exact .inr (by simp)
      · exact (ordOf_mem h).imp_right fun h => by simp [h]
theorem drawOrd_mem {ops : Array Oper} {x : Nat × Oper} (h : x ∈ drawOrd P k n ops) : nthO ops.toList x.1 = some x.2 := by
  have h1 : x ∈ number 0 ops.toList := by
    rcases ordOf_mem h with h | h
    · exact h
    · exact (List.mem_filter.1 h).1
  exact (numb_mem h1).2
theorem pick_map {l : List Oper} : ∀ {L : List (Nat × Oper)}, (∀ x ∈ L, nthO l x.1 = some x.2) → pickO l (L.map (·.1)) = L
  | [], _ => rfl
  | (i, o) :: L, h => by
    rw [List.map_cons, pick_cons (h (i, o) (by simp)), pick_map fun x hx => h x (by simp [hx])]
/-- (the list is made once) -/
def pickK (l : List Oper) : List Nat → (List (Nat × Oper) → Prop) → Prop
  | [], K => K []
  | i :: r, K => match nthO l i with
    | some o => pickK l r fun L => K ((i, o) :: L)
    | none => pickK l r K
theorem pickK_eq (l : List Oper) : ∀ (idx : List Nat) (K : List (Nat × Oper) → Prop), pickK l idx K = K (pickO l idx)
  | [], _ => rfl
  | i :: r, K => by
    unfold pickK pickO
    cases nthO l i with
    | some o => exact pickK_eq l r _
    | none => exact pickK_eq l r _
structure okS (A : Prop) (K : Prop) : Prop where
  h : A
  k : K
theorem okS_intro {A K : Prop} (h : A) (hK : K) : okS A K := ⟨h, hK⟩
def takeR : Nat → Nat → (Nat → Prop) → Prop
  | 0, R, K => K R
  | l + 1, R, K => match R with
    | 0 => False
    | R + 1 => takeR l R K
theorem takeR_inv : ∀ {l R : Nat} {K : Nat → Prop}, takeR l R K → l ≤ R ∧ K (R - l)
  | 0, R, K, h => ⟨Nat.zero_le _, h⟩
  | l + 1, 0, K, h => h.elim
  | l + 1, R + 1, K, h => by
    obtain ⟨h1, h2⟩ := takeR_inv (l := l) (R := R) h
    exact ⟨by omega, by rw [Nat.add_sub_add_right]; exact h2⟩
def wpDraw (P : Program) (call : CallT) (n : Nat) (ops : Array Oper) (f : Frm) (m : Mem) (R ni : Nat) (K : Frm → Mem → Nat → Nat → Prop) : Prop :=
  okS (drwOK P n ops = true) (forceNs (drawMasks ops) fun masks => forceNs (efIdx 0 ops.toList) fun effs => forceNs (orIdx masks effs ops.toList 0 effs) fun idx =>
    takeR ops.toList.length R fun R => pickK ops.toList idx fun os => wpDrs P call n ops.toList masks os f m R ni [] [] K)
theorem wpDraw_ok (hn : n ≤ pow8 (lvl n)) {t : Fm Value (lvl n)} {ops : Array Oper} {Kr : Fm Value (lvl n) → St → Bool} {K : Frm → Mem → Nat → Nat → Prop} (hK : ∀ f' t' m' R' ni' s', FrameOK (lvl n) n t' f' → MemOK X Z s0 R' s' m' → K f' m' R' ni' → Kr t' s' = r)
    (hf : FrameOK (lvl n) n t f) (hm : MemOK X Z s0 R s m) (h : wpDraw P call n ops f m R ni K) : (cDraw P (lvl n) n ops).run call Kr t s = r := by
  obtain ⟨hd, h⟩ := h
  rw [forceNs_eq, forceNs_eq, forceNs_eq] at h
  obtain ⟨hd1, hd2⟩ := and_true hd
  obtain ⟨hd2, hd3⟩ := and_true hd2
  have he := sameNs_eq hd2
  obtain ⟨hR, h⟩ := takeR_inv h
  rw [pickK_eq] at h
  have hp : pickO ops.toList ((drawOrd P (lvl n) n ops).map (·.1)) = drawOrd P (lvl n) n ops := pick_map fun x hx => drawOrd_mem hx
  rw [← he, hp] at h
  have hnx := hm.nx
  refine run_draw hd1 (by omega) ?_
  have hkp : Kp ops.toList.length s ⟨s.h, Nat.add s.nx ops.toList.length, s.fl⟩ := Kp.more (Nat.le_refl _)
  have hm' : MemOK X Z s0 (R - ops.toList.length) ⟨s.h, Nat.add s.nx ops.toList.length, s.fl⟩ m := MemOK.keep (N := ops.toList.length) (hm.more (by omega)) hkp
  refine wpDrs_ok hn hK (pend := []) ⟨fun x hx => ?_, noDup_ok hd3, fun x _ => by simp, fun x hx y hy => ⟨fun hb => ?_, fun hb => ?_⟩⟩ hf hm' (fun x hx => by cases hx) (fun x hx => by cases hx) ⟨(fun x hx => by cases hx), List.nodup_nil, Nat.le_refl _, hm.fr.1, (fun x hx => by cases hx)⟩ h
  · exact idx_lt (drawOrd_mem hx)
  · have := ent_lt (hm.ent y hy) hb; omega
  · have := rd_lt (hm.ent y hy) hb; omega
end
end Go.Ab
