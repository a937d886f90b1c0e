/- Open runs: contracts of functions. -/
import Derived.Test.YtkkmgaigingmpaaProg
import Derived.Test.YtkkmgaigingmpaaEngQb
import Derived.KernelRfl
namespace Go.Proofs.Ytkkmgaigingmpaa
open Go.Ab
noncomputable abbrev CL (F d : Nat) : CallT := callF Try.prog F (extK 16 true) d
abbrev fnv (f : FuncId) : Value := .func (.func f) ⟨[]⟩ ⟨[]⟩
set_option maxRecDepth 100000 in
theorem call_fn (F d : Nat) (g : FuncId) (hg : Nat.beq g 16 = false) (args : List Value) (K : KV) (s : St) : CL F (d + 1) (fnv g) args K s = (cFun Try.prog F g).run (CL F d) args K s := by
  unfold CL fnv
  exact callF_extK (P := Try.prog) (F := F) (w := 16) (d := d) (g := g) (b := true) hg args K s
/-- what a call comes to: what its function's run does -/
theorem Sat.call {F d : Nat} {g : FuncId} {args : List Value} {s : St} {Post : Value → St → Prop} (hg : Nat.beq g 16 = false) (h : Sat (fun K => (cFun Try.prog F g).run (CL F d) args K s) Post) : Sat (fun K => CL F (d + 1) (fnv g) args K s) Post :=
  fun K r hK => (call_fn F d g hg args K s).trans (h K r hK)
theorem SlR_len {s : St} {v : Value} {rows : List (List Int)} (h : SlR s v rows) : ∃ a c, v = .slice a rows.length c := by
  rcases h with ⟨b, o, c, h, _⟩ | ⟨h0, h | h⟩
  · exact ⟨_, _, h⟩
  · subst h0; exact ⟨_, _, h⟩
  · subst h0; exact ⟨_, _, h⟩
theorem SlI_len {s : St} {v : Value} {l : List Int} (h : SlI s v l) : ∃ a c, v = .slice a l.length c := by
  rcases h with ⟨b, o, c, h, _⟩ | ⟨h0, h | h⟩
  · exact ⟨_, _, h⟩
  · subst h0; exact ⟨_, _, h⟩
  · subst h0; exact ⟨_, _, h⟩
attribute [local irreducible] iLt iEq wr runLoop ld1 ldN callF Ab.stN Ab.st1
set_option maxRecDepth 100000
def lgs : List (List Int) → Bool
  | [] => false
  | r :: l => iLt 30 (Int.ofNat r.length) || lgs l
theorem drop_nil {α : Type} {i : Nat} {l : List α} (h : iLt (Int.ofNat i) (Int.ofNat l.length) = false) : l.drop i = [] := by
  rw [iLt_eq] at h
  exact List.drop_eq_nil_of_le (by simp at h; omega)
theorem drop_lt {α : Type} {i : Nat} {l : List α} (h : iLt (Int.ofNat i) (Int.ofNat l.length) = true) : ∃ x, i < l.length ∧ l[i]? = some x ∧ l.drop i = x :: l.drop (i + 1) := by
  rw [iLt_eq] at h
  have hi : i < l.length := by simp at h; omega
  exact ⟨l[i], hi, List.getElem?_eq_getElem hi, List.drop_eq_getElem_cons hi⟩
theorem large1 (F d : Nat) (s : St) (hs : s.nx + 1 < 262144) (e : Int) (v : Value) (rows : List (List Int)) (h : SlR s v rows) (hF : rows.length < F) (hrl : rows.length < 9223372036854775807) : Sat (fun K => (cFun Try.prog F 15).run (CL F d) [.agg ⟨[.int .i64 e, v]⟩] K s) fun x s' => Kp 1 s s' ∧ x = .bool (iLt 30 (Int.ofNat rows.length) || lgs rows) := by
  intro K r hK
  show (cFun Try.prog F 15).run (CL F d) [.agg ⟨[.int .i64 e, v]⟩] K s = r
  conv => lhs; whnf
  rw [blt_of (show s.nx < 262144 by omega)]
  generalize hs1 : s.push _ = s1
  have hA : AtN s1 s.nx 0 [.int .i64 e, v] := by
    subst hs1
    exact AtN.push (l := [.int .i64 e, v]) (by show 2 ≤ 32768; omega) (by omega)
  have hkp : Kp 1 s s1 := by subst hs1; exact Kp.push _ (by omega)
  clear hs1
  have hk1 := hkp.1
  obtain ⟨a0, c0, hv⟩ := SlR_len h
  conv => lhs; whnf
  refine Eq.trans (hA.ld1 (j := 1) rfl rfl _) ?_
  rw [hv]
  conv => lhs; whnf
  refine runLoop_rule (fun j m t s' => m = [] ∧ s' = s1 ∧ (getW 2 1).g t = ptr s.nx 0 ∧ ∃ i B, (getW 2 3).g t = .bool B ∧ (getW 2 4).g t = .int .i64 (Int.ofNat i) ∧ i + j = rows.length ∧ (iLt 30 (Int.ofNat rows.length) || lgs rows) = (B || lgs (rows.drop i))) ?_ _ rows.length _ _ _ hF ?_
  · rintro j m t s' ih ⟨rfl, rfl, h1, i, B, h3, h4, hij, hB⟩ hih
    obtain ⟨c0, ⟨a1, a9, a17, a25, a33, a41, a49, a57⟩, c2, ⟨a3, a11, a19, a27, a35, a43, a51, a59⟩, ⟨a4, a12, a20, a28, a36, a44, a52, a60⟩, c5, c6, c7⟩ := t
    have h1 : a1 = _ := h1
    have h3 : a3 = _ := h3
    have h4 : a4 = _ := h4
    subst h1 h3 h4
    conv => lhs; whnf
    refine Eq.trans (hA.ld1 (j := 1) rfl rfl _) ?_
    rw [hv]
    conv => lhs; whnf
    cases h5 : iLt (Int.ofNat i) (Int.ofNat rows.length)
    · conv => lhs; whnf
      refine hK _ _ ⟨hkp, ?_⟩
      rw [hB, drop_nil h5]
      cases B <;> rfl
    · obtain ⟨row, hi, hx, hd⟩ := drop_lt h5
      have hw : wr .i64 ((Int.ofNat i).add 1) = Int.ofNat (i + 1) := wr_nat (show i + 1 < 9223372036854775808 by omega)
      cases B
      · conv => lhs; whnf
        refine Eq.trans (hA.ld1 (j := 1) rfl rfl _) ?_
        rcases h with ⟨b, o, c, hv', _, hat⟩ | ⟨h0, _⟩
        · obtain ⟨ci, ⟨vi, rfl, hvi⟩, _, hati⟩ := hat i row hx
          have hati := hati.keep hk1
          obtain ⟨ai, ci, rfl⟩ := SlI_len hvi
          rw [hv']
          conv => lhs; whnf
          rw [blt_of hi]
          conv => lhs; whnf
          refine Eq.trans (hati.ld1 (j := 0) rfl rfl _) ?_
          conv => lhs; whnf
          refine hih (j - 1) _ _ _ (by omega) ⟨rfl, rfl, rfl, i + 1, iLt 30 (Int.ofNat row.length), rfl, ?_, by omega, ?_⟩
          · refine Eq.trans ?_ (congrArg (Value.int .i64) hw); kernel_rfl
          · rw [hB, hd]; rfl
        · subst h0; exact absurd hi (Nat.not_lt_zero _)
      · conv => lhs; whnf
        refine hih (j - 1) _ _ _ (by omega) ⟨rfl, rfl, rfl, i + 1, true, ?_, ?_, by omega, ?_⟩
        · rfl
        · refine Eq.trans ?_ (congrArg (Value.int .i64) hw); kernel_rfl
        · rw [hB]; rfl
  · exact ⟨rfl, rfl, rfl, 0, _, rfl, rfl, Nat.zero_add _, rfl⟩
end Go.Proofs.Ytkkmgaigingmpaa
