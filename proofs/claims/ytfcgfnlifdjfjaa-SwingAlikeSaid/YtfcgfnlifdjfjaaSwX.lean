/- Swing: turns, windows, Clear; what it can return. -/
import Derived.Test.YtfcgfnlifdjfjaaSwHr
import Derived.Test.YtfcgfnlifdjfjaaEngQd
import Derived.Test.YtfcgfnlifdjfjaaEngSy
import Derived.KernelRfl
namespace Go.Proofs.Ytfcgfnlifdjfjaa
open Go.Ab
set_option maxRecDepth 100000
set_option maxHeartbeats 4000000
noncomputable abbrev CL (F d : Nat) : CallT := callF Try.prog F (extX libS 14) d
section
variable {P : Program} {k n : Nat} {call : CallT} {s : St} {r : Bool} {all os : List Oper} {o : Oper} {K : Fm Value k → St → Bool} {t : Fm Value k}
theorem step_eff {p : SW Value k} {c : EffC k} {v : Value} {s' : St} (hp : cPut k n o.dst = some p) (hg : cGuard k n all o.guard = some none) (hc : cOper P k n o = .eff c) (hv : ∀ K', c.m call t s K' = K' v s')
    (h : (cOps P k n all os).run call K (p.s v t) s' = r) : (cOps P k n all (o :: os)).run call K t s = r := by
  refine Eq.trans ops_cons ?_
  unfold stepO
  rw [hp, hg, hc]
  exact (hv _).trans h
theorem next_yes {x : GW Value k} {b p c wd : Nat} {w : ByteArray} (hx : x.g t = ptr b 0) (hok : s.ok b = true) (hat : s.at b = some (.sit w p)) (hlt : p < w.size) (hd : Utf8.decode w p = (c, wd)) {cl : EffC k} (hc : oNext x true = .eff cl) (K' : KV) :
    cl.m call t s K' = K' (.tuple ⟨[.bool true, .int .i64 (.ofNat p), .int .i32 (.ofNat c)]⟩) (s.set b (some (.sit w (Nat.add p wd)))) := by
  unfold oNext at hc
  injection hc with hc
  subst hc
  simp only [hx, ptr, asPtr, onAddr, hok, hat, hd, blt_of hlt, Nat.beq_refl, Bool.and_self, cond_true]
theorem next_no {x : GW Value k} {b p : Nat} {w : ByteArray} (hx : x.g t = ptr b 0) (hok : s.ok b = true) (hat : s.at b = some (.sit w p)) (hlt : Nat.blt p w.size = false) {cl : EffC k} (hc : oNext x true = .eff cl) (K' : KV) :
    cl.m call t s K' = K' over s := by
  unfold oNext at hc
  injection hc with hc
  subst hc
  simp only [hx, ptr, asPtr, onAddr, hok, hat, hlt, Nat.beq_refl, Bool.and_self, cond_true, cond_false]
end
theorem decode_mark {w : ByteArray} (hw : marks w) {p : Nat} (hp : p < w.size) : ∃ b : Nat, (b = 48 ∨ b = 49) ∧ Utf8.decode w p = (b, 1) := by
  have hb : w.get! p = w.data[p]! := rfl
  have hp' : p < w.data.size := hp
  have hm : w.data[p] ∈ w.data.toList := by rw [Array.mem_toList_iff]; exact Array.getElem_mem hp'
  have h2 : w.get! p = w.data[p] := by rw [hb, getElem!_pos w.data p hp']
  refine ⟨(w.get! p).toNat, ?_, ?_⟩
  · rw [h2]
    rcases hw _ hm with h | h <;> rw [h] <;> decide
  · unfold Utf8.decode
    have : (w.get! (p + 0)).toNat < 128 := by
      rw [Nat.add_zero, h2]
      rcases hw _ hm with h | h <;> rw [h] <;> decide
    rw [Nat.add_zero] at this
    simp only [Nat.add_zero]
    exact if_pos this
theorem c58_0 (F d : Nat) (K : KV) (s : St) : CL F (d + 4) (.func (.func 58) ⟨[]⟩ ⟨[]⟩) [.string known, .int .i32 48] K s = K (.bool true) s := by kernel_rfl
theorem c58_1 (F d : Nat) (K : KV) (s : St) : CL F (d + 4) (.func (.func 58) ⟨[]⟩ ⟨[]⟩) [.string known, .int .i32 49] K s = K (.bool true) s := by kernel_rfl
theorem c58 (F d b : Nat) (hb : b = 48 ∨ b = 49) (K : KV) (s : St) : CL F (d + 4) (.func (.func 58) ⟨[]⟩ ⟨[]⟩) [.string known, .int .i32 (.ofNat b)] K s = K (.bool true) s := by
  rcases hb with rfl | rfl
  · exact c58_0 F d K s
  · exact c58_1 F d K s
attribute [local irreducible] callF cFun
theorem c42 (F d : Nat) (hF : 100 < F) (w : ByteArray) (hw : marks w) (h64 : w.size ≤ 64) (s : St) (hs : s.nx + 10 < 4398046511104) (hfl : s.fl ≤ s.nx) :
    Sat (fun K => (cFun Try.prog F 42).run (CL F (d + 4)) [.string w, .string known] K s) fun v s' => Kp 1 s s' ∧ v = .int .i64 0 := by
  intro K r hK
  refine run_fn (k := 2) (n := 19) (c := _) Try.func42 rfl rfl rfl rfl rfl rfl ?_
  refine Eq.trans run_seq ?_
  refine Eq.trans run_region0 ?_
  refine step_sil (v := .int .i64 0) rfl rfl rfl (fun _ => rfl) ?_
  refine Eq.trans ops_nil ?_
  dsimp only
  refine Eq.trans run_seq ?_
  refine Eq.trans run_seq ?_
  refine Eq.trans run_region0 ?_
  refine step_sil (v := .string w) rfl rfl rfl (fun _ => rfl) ?_
  refine step_sil (v := .int .i64 (.ofNat w.size)) rfl rfl rfl (fun _ => rfl) ?_
  refine step_sil (v := .bool false) rfl rfl rfl (fun K' => congrArg (fun z => K' (.bool z)) (by rw [iLt_eq]; exact decide_eq_false (by show ¬ ((64 : Int) < Int.ofNat w.size); simp only [Int.ofNat_eq_natCast]; omega))) ?_
  refine Eq.trans ops_nil ?_
  dsimp only
  refine Eq.trans (run_if_f rfl rfl) ?_
  refine Eq.trans run_skip' ?_
  refine Eq.trans run_seq ?_
  refine Eq.trans run_seq ?_
  refine Eq.trans run_region0 ?_
  refine step_sil (v := .string w) rfl rfl rfl (fun _ => rfl) ?_
  refine step_eff (v := ptr s.nx 0) (s' := s.push (.sit w 0)) rfl rfl rfl (fun K' => by
    show (bif Nat.blt s.nx 4398046511104 then K' (ptr s.nx 0) (s.push (.sit w 0)) else false) = _
    rw [blt_of (by omega)]; rfl) ?_
  refine Eq.trans ops_nil ?_
  dsimp only
  refine Eq.trans run_block ?_
  refine Eq.trans run_loop ?_
  have hat0 : (s.push (.sit w 0)).at s.nx = some (.sit w 0) := by rw [St.at_push (by omega)]; rw [if_pos rfl]
  refine runLoop_rule (fun j m t s1 => m = [] ∧ s1.nx = s.nx + 1 ∧ Keep s s1 ∧ s1.fl = s.fl ∧ ∃ p, p + j = w.size ∧ s1.at s.nx = some (.sit w p) ∧ (getW 2 1).g t = .string known ∧ (getW 2 11).g t = ptr s.nx 0) ?_ _ w.size _ _ _ (by omega) ⟨rfl, St.nx_push _ _, Keep.push _ (by omega), rfl, 0, by omega, hat0, rfl, rfl⟩
  rintro j m t s1 ih ⟨rfl, hnx, hkp, hfl1, p, hp, hat, h1, h11⟩ hih
  refine Eq.trans run_seq ?_
  refine Eq.trans run_region0 ?_
  have hok : s1.ok s.nx = true := by unfold St.ok; rw [hfl1]; cases hb : Nat.blt s.nx s.fl with
    | false => rfl
    | true => have := blt_true hb; omega
  cases hlt0 : Nat.blt p w.size with
  | true =>
    have hlt := blt_true hlt0
    obtain ⟨b, hb, hd⟩ := decode_mark hw hlt
    refine step_eff (v := .tuple ⟨[.bool true, .int .i64 (.ofNat p), .int .i32 (.ofNat b)]⟩) (s' := s1.set s.nx (some (.sit w (p + 1)))) rfl rfl (show _ = OpC.eff _ from rfl) (next_yes (x := getW 2 11) h11 hok hat hlt hd rfl) ?_
    refine step_sil (v := .bool true) rfl rfl rfl (fun _ => rfl) ?_
    refine Eq.trans ops_nil ?_
    dsimp only
    refine Eq.trans run_seq ?_
    refine Eq.trans (run_if_t rfl rfl) ?_
    refine Eq.trans run_skip' ?_
    refine Eq.trans run_block ?_
    refine Eq.trans run_seq ?_
    refine Eq.trans run_region0 ?_
    refine step_sil (v := .int .i32 (.ofNat b)) rfl rfl rfl (fun _ => rfl) ?_
    refine step_sil (v := .int .i32 (.ofNat b)) rfl rfl rfl (fun _ => rfl) ?_
    refine Eq.trans ops_nil ?_
    dsimp only
    refine Eq.trans run_seq ?_
    refine Eq.trans run_region0 ?_
    refine step_sil (v := .string known) rfl rfl rfl (fun K' => congrArg K' h1) ?_
    refine step_sil (v := .int .i32 (.ofNat b)) rfl rfl rfl (fun _ => rfl) ?_
    refine step_call rfl rfl rfl ?_
    refine (c58 F d b hb _ _).trans ?_
    refine step_sil (v := .bool false) rfl rfl rfl (fun _ => rfl) ?_
    refine Eq.trans ops_nil ?_
    dsimp only
    refine Eq.trans (run_if_f rfl rfl) ?_
    refine Eq.trans run_skip' ?_
    have hlt1 : s.nx < 4398046511104 := by omega
    refine hih (j - 1) _ _ _ (by omega) ⟨rfl, ?_, ?_, ?_, p + 1, by omega, ?_, ?_, ?_⟩
    · exact hnx
    · exact hkp.set (Nat.le_refl _) hlt1
    · exact hfl1
    · rw [St.at_set hlt1, if_pos rfl]
    · exact h1
    · exact h11
  | false =>
    have hlt := hlt0
    refine step_eff (v := over) (s' := s1) rfl rfl (show _ = OpC.eff _ from rfl) (next_no (x := getW 2 11) h11 hok hat hlt rfl) ?_
    refine step_sil (v := .bool false) rfl rfl rfl (fun _ => rfl) ?_
    refine Eq.trans ops_nil ?_
    dsimp only
    refine Eq.trans run_seq ?_
    refine Eq.trans (run_if_f rfl rfl) ?_
    refine Eq.trans run_exit ?_
    dsimp only
    simp only [Nat.beq_refl, cond_true]
    refine Eq.trans run_seq ?_
    refine Eq.trans run_region0 ?_
    refine step_sil (v := .int .i64 0) rfl rfl rfl (fun _ => rfl) ?_
    refine Eq.trans ops_nil ?_
    dsimp only
    refine Eq.trans run_ret ?_
    exact hK _ _ ⟨⟨hkp, by omega⟩, rfl⟩
end Go.Proofs.Ytfcgfnlifdjfjaa
namespace Go.Proofs.Ytfcgfnlifdjfjaa
open Go.Ab
attribute [local irreducible] aggOk drwOK
set_option maxRecDepth 100000
set_option maxHeartbeats 4000000
set_option linter.unusedVariables false
set_option linter.unusedSimpArgs false
theorem pH {e : Ent} {j : Nat} {M : Mem} : Pick e ((j, e) :: M) M := Pick.here
theorem pT {e : Ent} {x : Nat × Ent} {M M' : Mem} (h : Pick e M M') : Pick e (x :: M) (x :: M') := Pick.there h
theorem WS {m m' : Mem} (h : WkM m m' := by refine Sel.wk ?_; (try simp only [List.cons_append, List.nil_append]); repeat' (first | exact Sel.nil | exact Sel.all | exact Sel.left | refine Sel.cons pH ?_ | refine Sel.cons (pT pH) ?_ | refine Sel.cons (pT (pT pH)) ?_ | refine Sel.cons (pT (pT (pT pH))) ?_ | refine Sel.cons (pT (pT (pT (pT pH)))) ?_ | refine Sel.cons (pT (pT (pT (pT (pT pH))))) ?_ | refine Sel.cons (pT (pT (pT (pT (pT (pT pH)))))) ?_ | refine Sel.cons (pT (pT (pT (pT (pT (pT (pT pH))))))) ?_ | refine Sel.cons (pT (pT (pT (pT (pT (pT (pT (pT pH)))))))) ?_ | refine Sel.cons (pT (pT (pT (pT (pT (pT (pT (pT (pT pH))))))))) ?_ | refine Sel.cons (pT (pT (pT (pT (pT (pT (pT (pT (pT (pT pH)))))))))) ?_ | refine Sel.cons (pT (pT (pT (pT (pT (pT (pT (pT (pT (pT (pT pH))))))))))) ?_ | refine Sel.cons (pT (pT (pT (pT (pT (pT (pT (pT (pT (pT (pT (pT pH)))))))))))) ?_ | refine Sel.cons (pT (pT (pT (pT (pT (pT (pT (pT (pT (pT (pT (pT (pT pH))))))))))))) ?_ | refine Sel.cons (pT (pT (pT (pT (pT (pT (pT (pT (pT (pT (pT (pT (pT (pT pH)))))))))))))) ?_ | refine Sel.cons (pT (pT (pT (pT (pT (pT (pT (pT (pT (pT (pT (pT (pT (pT (pT pH))))))))))))))) ?_ | refine Sel.consw pH ⟨rfl, rfl, rfl⟩ ?_ | refine Sel.consw (pT pH) ⟨rfl, rfl, rfl⟩ ?_ | refine Sel.consw (pT (pT pH)) ⟨rfl, rfl, rfl⟩ ?_ | refine Sel.consw (pT (pT (pT pH))) ⟨rfl, rfl, rfl⟩ ?_ | refine Sel.consw (pT (pT (pT (pT pH)))) ⟨rfl, rfl, rfl⟩ ?_ | refine Sel.consw (pT (pT (pT (pT (pT pH))))) ⟨rfl, rfl, rfl⟩ ?_ | refine Sel.consw (pT (pT (pT (pT (pT (pT pH)))))) ⟨rfl, rfl, rfl⟩ ?_ | refine Sel.consw (pT (pT (pT (pT (pT (pT (pT pH))))))) ⟨rfl, rfl, rfl⟩ ?_ | refine Sel.consw (pT (pT (pT (pT (pT (pT (pT (pT pH)))))))) ⟨rfl, rfl, rfl⟩ ?_ | refine Sel.consw (pT (pT (pT (pT (pT (pT (pT (pT (pT pH))))))))) ⟨rfl, rfl, rfl⟩ ?_ | refine Sel.consw (pT (pT (pT (pT (pT (pT (pT (pT (pT (pT pH)))))))))) ⟨rfl, rfl, rfl⟩ ?_ | refine Sel.consw (pT (pT (pT (pT (pT (pT (pT (pT (pT (pT (pT pH))))))))))) ⟨rfl, rfl, rfl⟩ ?_ | refine Sel.consw (pT (pT (pT (pT (pT (pT (pT (pT (pT (pT (pT (pT pH)))))))))))) ⟨rfl, rfl, rfl⟩ ?_ | refine Sel.consw (pT (pT (pT (pT (pT (pT (pT (pT (pT (pT (pT (pT (pT pH))))))))))))) ⟨rfl, rfl, rfl⟩ ?_ | refine Sel.consw (pT (pT (pT (pT (pT (pT (pT (pT (pT (pT (pT (pT (pT (pT pH)))))))))))))) ⟨rfl, rfl, rfl⟩ ?_ | refine Sel.consw (pT (pT (pT (pT (pT (pT (pT (pT (pT (pT (pT (pT (pT (pT (pT pH))))))))))))))) ⟨rfl, rfl, rfl⟩ ?_ | refine Sel.snoc pH ?_ | refine Sel.snoc (pT pH) ?_ | refine Sel.snoc (pT (pT pH)) ?_ | refine Sel.snoc (pT (pT (pT pH))) ?_ | refine Sel.snoc (pT (pT (pT (pT pH)))) ?_ | refine Sel.snoc (pT (pT (pT (pT (pT pH))))) ?_ | refine Sel.snoc (pT (pT (pT (pT (pT (pT pH)))))) ?_ | refine Sel.snoc (pT (pT (pT (pT (pT (pT (pT pH))))))) ?_ | refine Sel.snoc (pT (pT (pT (pT (pT (pT (pT (pT pH)))))))) ?_ | refine Sel.snoc (pT (pT (pT (pT (pT (pT (pT (pT (pT pH))))))))) ?_ | refine Sel.snoc (pT (pT (pT (pT (pT (pT (pT (pT (pT (pT pH)))))))))) ?_ | refine Sel.snoc (pT (pT (pT (pT (pT (pT (pT (pT (pT (pT (pT pH))))))))))) ?_ | refine Sel.snoc (pT (pT (pT (pT (pT (pT (pT (pT (pT (pT (pT (pT pH)))))))))))) ?_ | refine Sel.snoc (pT (pT (pT (pT (pT (pT (pT (pT (pT (pT (pT (pT (pT pH))))))))))))) ?_ | refine Sel.snoc (pT (pT (pT (pT (pT (pT (pT (pT (pT (pT (pT (pT (pT (pT pH)))))))))))))) ?_ | refine Sel.snoc (pT (pT (pT (pT (pT (pT (pT (pT (pT (pT (pT (pT (pT (pT (pT pH))))))))))))))) ?_ | refine Sel.drop ?_)) : WkM m m' := h
theorem WG {m m' : Mem} (h : WkM m m' := by refine Sel.wk ?_; (try simp only [List.cons_append, List.nil_append]); repeat' (first | exact Sel.nil | exact Sel.all | exact Sel.left | refine Sel.cons pH ?_ | refine Sel.cons (pT pH) ?_ | refine Sel.cons (pT (pT pH)) ?_ | refine Sel.cons (pT (pT (pT pH))) ?_ | refine Sel.cons (pT (pT (pT (pT pH)))) ?_ | refine Sel.cons (pT (pT (pT (pT (pT pH))))) ?_ | refine Sel.cons (pT (pT (pT (pT (pT (pT pH)))))) ?_ | refine Sel.cons (pT (pT (pT (pT (pT (pT (pT pH))))))) ?_ | refine Sel.cons (pT (pT (pT (pT (pT (pT (pT (pT pH)))))))) ?_ | refine Sel.cons (pT (pT (pT (pT (pT (pT (pT (pT (pT pH))))))))) ?_ | refine Sel.cons (pT (pT (pT (pT (pT (pT (pT (pT (pT (pT pH)))))))))) ?_ | refine Sel.cons (pT (pT (pT (pT (pT (pT (pT (pT (pT (pT (pT pH))))))))))) ?_ | refine Sel.cons (pT (pT (pT (pT (pT (pT (pT (pT (pT (pT (pT (pT pH)))))))))))) ?_ | refine Sel.cons (pT (pT (pT (pT (pT (pT (pT (pT (pT (pT (pT (pT (pT pH))))))))))))) ?_ | refine Sel.cons (pT (pT (pT (pT (pT (pT (pT (pT (pT (pT (pT (pT (pT (pT pH)))))))))))))) ?_ | refine Sel.cons (pT (pT (pT (pT (pT (pT (pT (pT (pT (pT (pT (pT (pT (pT (pT pH))))))))))))))) ?_ | refine Sel.consw pH ⟨rfl, rfl, rfl⟩ ?_ | refine Sel.consw (pT pH) ⟨rfl, rfl, rfl⟩ ?_ | refine Sel.consw (pT (pT pH)) ⟨rfl, rfl, rfl⟩ ?_ | refine Sel.consw (pT (pT (pT pH))) ⟨rfl, rfl, rfl⟩ ?_ | refine Sel.consw (pT (pT (pT (pT pH)))) ⟨rfl, rfl, rfl⟩ ?_ | refine Sel.consw (pT (pT (pT (pT (pT pH))))) ⟨rfl, rfl, rfl⟩ ?_ | refine Sel.consw (pT (pT (pT (pT (pT (pT pH)))))) ⟨rfl, rfl, rfl⟩ ?_ | refine Sel.consw (pT (pT (pT (pT (pT (pT (pT pH))))))) ⟨rfl, rfl, rfl⟩ ?_ | refine Sel.consw (pT (pT (pT (pT (pT (pT (pT (pT pH)))))))) ⟨rfl, rfl, rfl⟩ ?_ | refine Sel.consw (pT (pT (pT (pT (pT (pT (pT (pT (pT pH))))))))) ⟨rfl, rfl, rfl⟩ ?_ | refine Sel.consw (pT (pT (pT (pT (pT (pT (pT (pT (pT (pT pH)))))))))) ⟨rfl, rfl, rfl⟩ ?_ | refine Sel.consw (pT (pT (pT (pT (pT (pT (pT (pT (pT (pT (pT pH))))))))))) ⟨rfl, rfl, rfl⟩ ?_ | refine Sel.consw (pT (pT (pT (pT (pT (pT (pT (pT (pT (pT (pT (pT pH)))))))))))) ⟨rfl, rfl, rfl⟩ ?_ | refine Sel.consw (pT (pT (pT (pT (pT (pT (pT (pT (pT (pT (pT (pT (pT pH))))))))))))) ⟨rfl, rfl, rfl⟩ ?_ | refine Sel.consw (pT (pT (pT (pT (pT (pT (pT (pT (pT (pT (pT (pT (pT (pT pH)))))))))))))) ⟨rfl, rfl, rfl⟩ ?_ | refine Sel.consw (pT (pT (pT (pT (pT (pT (pT (pT (pT (pT (pT (pT (pT (pT (pT pH))))))))))))))) ⟨rfl, rfl, rfl⟩ ?_ | refine Sel.consw pH ⟨rfl, rfl, rfl, rfl, by assumption⟩ ?_ | refine Sel.consw (pT pH) ⟨rfl, rfl, rfl, rfl, by assumption⟩ ?_ | refine Sel.consw (pT (pT pH)) ⟨rfl, rfl, rfl, rfl, by assumption⟩ ?_ | refine Sel.consw (pT (pT (pT pH))) ⟨rfl, rfl, rfl, rfl, by assumption⟩ ?_ | refine Sel.consw (pT (pT (pT (pT pH)))) ⟨rfl, rfl, rfl, rfl, by assumption⟩ ?_ | refine Sel.consw (pT (pT (pT (pT (pT pH))))) ⟨rfl, rfl, rfl, rfl, by assumption⟩ ?_ | refine Sel.consw (pT (pT (pT (pT (pT (pT pH)))))) ⟨rfl, rfl, rfl, rfl, by assumption⟩ ?_ | refine Sel.consw (pT (pT (pT (pT (pT (pT (pT pH))))))) ⟨rfl, rfl, rfl, rfl, by assumption⟩ ?_ | refine Sel.consw (pT (pT (pT (pT (pT (pT (pT (pT pH)))))))) ⟨rfl, rfl, rfl, rfl, by assumption⟩ ?_ | refine Sel.consw (pT (pT (pT (pT (pT (pT (pT (pT (pT pH))))))))) ⟨rfl, rfl, rfl, rfl, by assumption⟩ ?_ | refine Sel.consw (pT (pT (pT (pT (pT (pT (pT (pT (pT (pT pH)))))))))) ⟨rfl, rfl, rfl, rfl, by assumption⟩ ?_ | refine Sel.consw (pT (pT (pT (pT (pT (pT (pT (pT (pT (pT (pT pH))))))))))) ⟨rfl, rfl, rfl, rfl, by assumption⟩ ?_ | refine Sel.consw (pT (pT (pT (pT (pT (pT (pT (pT (pT (pT (pT (pT pH)))))))))))) ⟨rfl, rfl, rfl, rfl, by assumption⟩ ?_ | refine Sel.consw (pT (pT (pT (pT (pT (pT (pT (pT (pT (pT (pT (pT (pT pH))))))))))))) ⟨rfl, rfl, rfl, rfl, by assumption⟩ ?_ | refine Sel.consw (pT (pT (pT (pT (pT (pT (pT (pT (pT (pT (pT (pT (pT (pT pH)))))))))))))) ⟨rfl, rfl, rfl, rfl, by assumption⟩ ?_ | refine Sel.consw (pT (pT (pT (pT (pT (pT (pT (pT (pT (pT (pT (pT (pT (pT (pT pH))))))))))))))) ⟨rfl, rfl, rfl, rfl, by assumption⟩ ?_ | refine Sel.consw pH ⟨rfl, rfl, rfl, .inl rfl, fun _ _ => rfl⟩ ?_ | refine Sel.consw (pT pH) ⟨rfl, rfl, rfl, .inl rfl, fun _ _ => rfl⟩ ?_ | refine Sel.consw (pT (pT pH)) ⟨rfl, rfl, rfl, .inl rfl, fun _ _ => rfl⟩ ?_ | refine Sel.consw (pT (pT (pT pH))) ⟨rfl, rfl, rfl, .inl rfl, fun _ _ => rfl⟩ ?_ | refine Sel.consw (pT (pT (pT (pT pH)))) ⟨rfl, rfl, rfl, .inl rfl, fun _ _ => rfl⟩ ?_ | refine Sel.consw (pT (pT (pT (pT (pT pH))))) ⟨rfl, rfl, rfl, .inl rfl, fun _ _ => rfl⟩ ?_ | refine Sel.consw (pT (pT (pT (pT (pT (pT pH)))))) ⟨rfl, rfl, rfl, .inl rfl, fun _ _ => rfl⟩ ?_ | refine Sel.consw (pT (pT (pT (pT (pT (pT (pT pH))))))) ⟨rfl, rfl, rfl, .inl rfl, fun _ _ => rfl⟩ ?_ | refine Sel.consw (pT (pT (pT (pT (pT (pT (pT (pT pH)))))))) ⟨rfl, rfl, rfl, .inl rfl, fun _ _ => rfl⟩ ?_ | refine Sel.consw (pT (pT (pT (pT (pT (pT (pT (pT (pT pH))))))))) ⟨rfl, rfl, rfl, .inl rfl, fun _ _ => rfl⟩ ?_ | refine Sel.consw (pT (pT (pT (pT (pT (pT (pT (pT (pT (pT pH)))))))))) ⟨rfl, rfl, rfl, .inl rfl, fun _ _ => rfl⟩ ?_ | refine Sel.consw (pT (pT (pT (pT (pT (pT (pT (pT (pT (pT (pT pH))))))))))) ⟨rfl, rfl, rfl, .inl rfl, fun _ _ => rfl⟩ ?_ | refine Sel.consw (pT (pT (pT (pT (pT (pT (pT (pT (pT (pT (pT (pT pH)))))))))))) ⟨rfl, rfl, rfl, .inl rfl, fun _ _ => rfl⟩ ?_ | refine Sel.consw (pT (pT (pT (pT (pT (pT (pT (pT (pT (pT (pT (pT (pT pH))))))))))))) ⟨rfl, rfl, rfl, .inl rfl, fun _ _ => rfl⟩ ?_ | refine Sel.consw (pT (pT (pT (pT (pT (pT (pT (pT (pT (pT (pT (pT (pT (pT pH)))))))))))))) ⟨rfl, rfl, rfl, .inl rfl, fun _ _ => rfl⟩ ?_ | refine Sel.consw (pT (pT (pT (pT (pT (pT (pT (pT (pT (pT (pT (pT (pT (pT (pT pH))))))))))))))) ⟨rfl, rfl, rfl, .inl rfl, fun _ _ => rfl⟩ ?_ | refine Sel.consw pH ⟨rfl, rfl, rfl, .inr rfl, fun _ _ => rfl⟩ ?_ | refine Sel.consw (pT pH) ⟨rfl, rfl, rfl, .inr rfl, fun _ _ => rfl⟩ ?_ | refine Sel.consw (pT (pT pH)) ⟨rfl, rfl, rfl, .inr rfl, fun _ _ => rfl⟩ ?_ | refine Sel.consw (pT (pT (pT pH))) ⟨rfl, rfl, rfl, .inr rfl, fun _ _ => rfl⟩ ?_ | refine Sel.consw (pT (pT (pT (pT pH)))) ⟨rfl, rfl, rfl, .inr rfl, fun _ _ => rfl⟩ ?_ | refine Sel.consw (pT (pT (pT (pT (pT pH))))) ⟨rfl, rfl, rfl, .inr rfl, fun _ _ => rfl⟩ ?_ | refine Sel.consw (pT (pT (pT (pT (pT (pT pH)))))) ⟨rfl, rfl, rfl, .inr rfl, fun _ _ => rfl⟩ ?_ | refine Sel.consw (pT (pT (pT (pT (pT (pT (pT pH))))))) ⟨rfl, rfl, rfl, .inr rfl, fun _ _ => rfl⟩ ?_ | refine Sel.consw (pT (pT (pT (pT (pT (pT (pT (pT pH)))))))) ⟨rfl, rfl, rfl, .inr rfl, fun _ _ => rfl⟩ ?_ | refine Sel.consw (pT (pT (pT (pT (pT (pT (pT (pT (pT pH))))))))) ⟨rfl, rfl, rfl, .inr rfl, fun _ _ => rfl⟩ ?_ | refine Sel.consw (pT (pT (pT (pT (pT (pT (pT (pT (pT (pT pH)))))))))) ⟨rfl, rfl, rfl, .inr rfl, fun _ _ => rfl⟩ ?_ | refine Sel.consw (pT (pT (pT (pT (pT (pT (pT (pT (pT (pT (pT pH))))))))))) ⟨rfl, rfl, rfl, .inr rfl, fun _ _ => rfl⟩ ?_ | refine Sel.consw (pT (pT (pT (pT (pT (pT (pT (pT (pT (pT (pT (pT pH)))))))))))) ⟨rfl, rfl, rfl, .inr rfl, fun _ _ => rfl⟩ ?_ | refine Sel.consw (pT (pT (pT (pT (pT (pT (pT (pT (pT (pT (pT (pT (pT pH))))))))))))) ⟨rfl, rfl, rfl, .inr rfl, fun _ _ => rfl⟩ ?_ | refine Sel.consw (pT (pT (pT (pT (pT (pT (pT (pT (pT (pT (pT (pT (pT (pT pH)))))))))))))) ⟨rfl, rfl, rfl, .inr rfl, fun _ _ => rfl⟩ ?_ | refine Sel.consw (pT (pT (pT (pT (pT (pT (pT (pT (pT (pT (pT (pT (pT (pT (pT pH))))))))))))))) ⟨rfl, rfl, rfl, .inr rfl, fun _ _ => rfl⟩ ?_ | refine Sel.snoc pH ?_ | refine Sel.snoc (pT pH) ?_ | refine Sel.snoc (pT (pT pH)) ?_ | refine Sel.snoc (pT (pT (pT pH))) ?_ | refine Sel.snoc (pT (pT (pT (pT pH)))) ?_ | refine Sel.snoc (pT (pT (pT (pT (pT pH))))) ?_ | refine Sel.snoc (pT (pT (pT (pT (pT (pT pH)))))) ?_ | refine Sel.snoc (pT (pT (pT (pT (pT (pT (pT pH))))))) ?_ | refine Sel.snoc (pT (pT (pT (pT (pT (pT (pT (pT pH)))))))) ?_ | refine Sel.snoc (pT (pT (pT (pT (pT (pT (pT (pT (pT pH))))))))) ?_ | refine Sel.snoc (pT (pT (pT (pT (pT (pT (pT (pT (pT (pT pH)))))))))) ?_ | refine Sel.snoc (pT (pT (pT (pT (pT (pT (pT (pT (pT (pT (pT pH))))))))))) ?_ | refine Sel.snoc (pT (pT (pT (pT (pT (pT (pT (pT (pT (pT (pT (pT pH)))))))))))) ?_ | refine Sel.snoc (pT (pT (pT (pT (pT (pT (pT (pT (pT (pT (pT (pT (pT pH))))))))))))) ?_ | refine Sel.snoc (pT (pT (pT (pT (pT (pT (pT (pT (pT (pT (pT (pT (pT (pT pH)))))))))))))) ?_ | refine Sel.snoc (pT (pT (pT (pT (pT (pT (pT (pT (pT (pT (pT (pT (pT (pT (pT pH))))))))))))))) ?_ | refine Sel.drop ?_)) : WkM m m' := h
abbrev i64 (n : Int) : SV := .int .i64 n
theorem lt_of_iLt {a b : Nat} (h : iLt (Int.ofNat a) (Int.ofNat b) = true) : a < b := by rw [iLt_eq] at h; simpa using h
theorem ge_of_iLt {a b : Nat} (h : iLt (Int.ofNat a) (Int.ofNat b) = false) : b ≤ a := by rw [iLt_eq] at h; simpa using h
theorem iLt_t {a b : Nat} (h : a < b) : iLt (Int.ofNat a) (Int.ofNat b) = true := by rw [iLt_eq]; simpa using h
theorem iLt_f {a b : Nat} (h : b ≤ a) : iLt (Int.ofNat a) (Int.ofNat b) = false := by rw [iLt_eq]; simpa using h
theorem iLt_0 (a : Nat) : iLt (Int.ofNat a) 0 = false := by rw [iLt_eq]; simp
theorem iEq_n {a b : Nat} : iEq (Int.ofNat a) (Int.ofNat b) = decide (a = b) := by rw [iEq_eq]; refine decide_eq_decide.2 ?_; show (a : Int) = (b : Int) ↔ _; omega
theorem sm {n : Int} (h : -1000000000000 ≤ n ∧ n ≤ 1000000000000) : wr .i64 n = n := wr_id (by omega) (by omega)
theorem smn {i : Nat} (h : i ≤ 1000000000000) : wr .i64 (Int.ofNat i) = Int.ofNat i := wr_nat (i := i) (by omega)
theorem cg2 {α β γ : Type} (f : α → β → γ) {a a2 : α} {b b2 : β} (h : a = a2) (k : b = b2) : f a b = f a2 b2 := by rw [h, k]
theorem bool_tf {b : Bool} (h : b ≠ true) : b = false := by cases b <;> simp_all
theorem growE {n sz : Nat} {f : Nat → List SV} {l : List SV} (hl : l.length = sz) (hv : f n = l) : ∀ j, j < n + 1 → grow n sz f l j = f j := fun j hj => by
  unfold grow
  by_cases hjn : j < n
  · rw [blt_of hjn, cond_true]
  · have e : j = n := by omega
    subst e
    have hb : Nat.blt j j = false := by
      cases hh : Nat.blt j j with
      | false => rfl
      | true => have := blt_true hh; omega
    rw [hb, cond_false, hv]
    show List.take sz (List.drop ((j - j) * sz) l) = _
    rw [Nat.sub_self, Nat.zero_mul, List.drop_zero, List.take_of_length_le (by omega)]
/-- a slice that is empty may be read wherever -/
theorem sees_nil {m : Mem} (c sz : Nat) (f : Nat → List SV) (a : Option Addr) : SeesE m (.ro a 0 c sz f) := fun X Z s0 R s hm => ⟨⟨fun j hj => absurd hj (Nat.not_lt_zero _), .inl rfl⟩, fun b hb => hb⟩
/-- a loop over a function; its own memory comes first again -/
theorem call_iter2 {callR callI : CallT} {fv fv' : SV} {me : Mem} {N c len : Nat} {L : Nat → List SV} (h : IterC callR callI fv me N c len L) (I : Nat → Mem → Prop) (Q : Mem → Prop) (m0 : Mem) (R2 : Nat) {i b : Nat} {m : Mem} {R ni : Nat} {K : SV → Mem → Nat → Nat → Prop}
    (hfv : den fv' = den fv) (hw : WkM m (me ++ m0)) (h0 : I 0 m0)
    (hr : ∀ k, k < len → ∀ m, I k m → ∀ (me' : Mem) R, callS callR (.yf i b) (L k) (m ++ me') (addL R c) 500 fun w m' R' _ => R ≤ R' ∧ ∃ m1, WkM m' (m1 ++ me') ∧ ((den w = .bool true ∧ I (k + 1) m1) ∨ (den w = .bool false ∧ Q m1)))
    (hN : R2 + N ≤ R) (hK : ∀ w m1, I len m1 ∨ Q m1 → K w (me ++ m1) R2 ni) : callS callI fv' [.yf i b] m R ni K := by
  refine callS.cast (fv' := fv) (args' := [.yf i b]) hfv rfl ?_
  refine callS.wk hw ?_
  have h1 := h i b I Q hr m0 h0 (R - N)
  rw [addL_eq, Nat.sub_add_cancel (by omega)] at h1
  exact call_post h1 fun w m' R' n' ⟨hR, m1, hw1, hI⟩ => ⟨w, me ++ m1, R2, ni, rfl, hw1.trans (WkM.comm _ _), by omega, hK w m1 hI⟩
theorem len1 {n : Nat} (h1 : 0 < n) (h2 : n ≤ 1000) : wr .i64 (Int.sub (Int.ofNat n) 1) = Int.ofNat (n - 1) := (sm (n := (n : Int) - 1) (by omega)).trans (by show (n : Int) - 1 = ((n - 1 : Nat) : Int); omega)
theorem getD_mem {l : List Nat} {k : Nat} (h : k < l.length) : l.getD k 0 ∈ l := by rw [List.getD_eq_getElem?_getD, List.getElem?_eq_getElem h]; exact List.getElem_mem h
theorem mem_getD {l : List Nat} {y : Nat} (h : y ∈ l) : ∃ k, k < l.length ∧ l.getD k 0 = y := by
  obtain ⟨k, hk, e⟩ := List.mem_iff_getElem.1 h
  exact ⟨k, hk, by rw [List.getD_eq_getElem?_getD, List.getElem?_eq_getElem hk]; exact e⟩
/-- a slice that is only read may be read twice -/
theorem WkM.dup {i j n c sz : Nat} {a : Option Addr} {f : Nat → List SV} {m : Mem} : WkM ((i, .ro a n c sz f) :: m) ((j, .ro a n c sz f) :: (i, .ro a n c sz f) :: m) := fun X Z s0 R s hm =>
  hm.cons (hm.ent (i, .ro a n c sz f) (by simp)) fun x hx => by
    rcases List.mem_cons.1 hx with rfl | hx
    · exact ⟨fun b hb => hb.elim, fun b hb => hb.elim, fun b _ hb => hb⟩
    · exact (List.pairwise_cons.1 hm.dis).1 x hx
theorem putG_all {n2 : Nat} {h g0 : Nat → List SV} : ∀ j, j < n2 → putG 0 n2 h g0 j = h j := fun j hj => by
  have := putG_in (p := 0) (h := h) (g := g0) hj
  rw [Nat.zero_add] at this; exact this
theorem emS_z {n : Nat} {K0 K1 : Prop} (hn : n = 0) (h : K0) : emS n K0 K1 := ⟨fun _ => h, fun h0 => absurd hn (by omega)⟩
theorem seS_sb {i b p b' p' j sz n c : Nat} {a : Option Addr} {K : Prop} (h1 : a = some ⟨b, p, none⟩) (h2 : a = some ⟨b', p', none⟩) (h : K) : seS (.sb i b p j sz n c) (.sb i b' p' j sz n c) K := by
  rw [h1] at h2; cases h2; exact ⟨rfl, h⟩
/-- whose turn it is among what Spare answers -/
theorem ltS_1 {p s b : Nat} {K : Prop} (hs : s = 1) (h : p < b) (k : K) : ltS (Nat.mul p s) b K := by subst hs; exact ltS_intro (by show p * 1 < b; omega) k
theorem ltS_2 {p q s b : Nat} {K : Prop} (hs : s = 1) (h : p + q < b) (k : K) : ltS (Nat.add (Nat.mul p s) (Nat.mul q s)) b K := by subst hs; exact ltS_intro (by show p * 1 + q * 1 < b; omega) k

theorem nM1 {A : Prop} (h : A := by (first | (simp only [addL_eq, addL_rec]; omega) | omega | exact Nat.le_refl _)) : A := h
theorem oM1 {A : Prop} (h : A := by first | omega | (simp only [Nat.add_eq, Nat.sub_eq, Nat.mul_eq, Nat.succ_eq_add_one]; omega)) : A := h
theorem gL {a b : Nat} {K : Prop} (k : K) (h : a < b := by first | assumption | decide | exact Nat.le_of_ble_eq_true rfl | omega) : ltS a b K := ltS_intro h k
theorem gM {a b : Nat} {K : Prop} (k : K) (h : a < b := by have := lt_of_iLt ‹iLt (Int.ofNat _) (Int.ofNat _) = true›; omega) : ltS a b K := ltS_intro h k
theorem gX {n q : Nat} {K : Nat → Prop} (k : K q) (h : q < n := by first | assumption | decide | omega) : ixS (Int.ofNat q) n K := ixS_of rfl h k
theorem gY {n q : Nat} {K : Nat → Prop} (k : K q) (h : q < n := by have := lt_of_iLt ‹iLt (Int.ofNat _) (Int.ofNat _) = true›; omega) : ixS (Int.ofNat q) n K := ixS_of rfl h k
theorem gE {n : Nat} {f : Nat → List SV} {K : Prop} (k : K) (h : ∀ j, j < n → okL (f j) = true := by exact fun _ _ => rfl) : flE n f K := flE_intro h k
theorem gT {b : Bool} {x y : Prop} (k : x) (h : b = true := by assumption) : brS b x y := brS_t h k
theorem gF {b : Bool} {x y : Prop} (k : y) (h : b = false := by assumption) : brS b x y := brS_f h k
theorem gI {a : Int} {x y : Prop} (k : x) : brS (iEq a a) x y := brS_t (iEq_self a) k
theorem gO {A K : Prop} (k : K) (h : A := by first | assumption | kernel_rfl) : okS A K := okS_intro h k
theorem gN {n : Int} {K : Prop} (k : K) (h : n ≠ 0 := by first | decide | assumption) : nzS n K := nzS_intro h k
/-- a day -/
def day0 : Nat := 0
/-- strings as numbers -/
def enc : List UInt8 → Nat
  | [] => 0
  | b :: l => 1 + b.toNat + 256 * enc l
def decF : Nat → Nat → List UInt8
  | 0, _ => []
  | f + 1, n => if n = 0 then [] else UInt8.ofNat ((n - 1) % 256) :: decF f ((n - 1) / 256)
theorem enc_decF : ∀ f n, n ≤ f → enc (decF f n) = n
  | 0, n, h => by have : n = 0 := by omega
                  subst this; rfl
  | f + 1, n, h => by
    unfold decF
    by_cases h0 : n = 0
    · rw [if_pos h0, h0]; rfl
    · rw [if_neg h0, enc, enc_decF f _ (by omega)]
      have : (UInt8.ofNat ((n - 1) % 256)).toNat = (n - 1) % 256 := by
        rw [UInt8.toNat_ofNat']; omega
      rw [this]; omega
theorem enc_inj : ∀ {l l' : List UInt8}, enc l = enc l' → l = l'
  | [], [], _ => rfl
  | [], b :: l, h => by simp only [enc] at h; omega
  | b :: l, [], h => by simp only [enc] at h; omega
  | b :: l, c :: l', h => by
    simp only [enc] at h
    have h1 := b.toNat_lt
    have h2 := c.toNat_lt
    have h3 : b.toNat = c.toNat := by omega
    rw [UInt8.toNat_inj.1 h3, enc_inj (show enc l = enc l' by omega)]
theorem dec_enc (l : List UInt8) : decF (enc l) (enc l) = l := enc_inj (enc_decF _ _ (Nat.le_refl _))
abbrev kvS (a : Nat) : SV := .val (.string ⟨⟨decF a a⟩⟩)
def en (w : ByteArray) : Nat := enc w.data.toList
theorem kvS_en (w : ByteArray) : den (SV.val (.string w)) = den (kvS (en w)) := by
  show Value.string w = Value.string _
  rw [en, dec_enc]
theorem en_inj {v w : ByteArray} (h : en v = en w) : v = w := by
  have h1 := kvS_en v
  have h2 := kvS_en w
  rw [h] at h1
  have := h1.trans h2.symm
  simpa [den] using this
theorem bbeq (a b : ByteArray) : (a == b) = decide (a = b) := by
  show ByteArray.beq a b = _
  obtain ⟨a⟩ := a
  obtain ⟨b⟩ := b
  unfold ByteArray.beq
  by_cases h : a = b <;> simp [h]
theorem keyS (d : TypeDesc) (h : Try.prog.underlying 9 = some d) : KeyH Try.prog 9 d (fun a => den (kvS a)) := by
  rw [Try.underlying9] at h
  cases h
  refine ⟨fun a => rfl, fun a b => ?_⟩
  show some ((⟨⟨decF a a⟩⟩ : ByteArray) == ⟨⟨decF b b⟩⟩) = _
  rw [bbeq]
  congr 1
  refine decide_eq_decide.2 ⟨fun h => ?_, fun h => by rw [h]⟩
  have h1 : decF a a = decF b b := by simpa using h
  rw [← enc_decF a a (Nat.le_refl _), h1, enc_decF b b (Nat.le_refl _)]
/-- a turn; a window -/
def tn (w : ByteArray) (k : Nat) : ByteArray := w.extract k w.size ++ w.extract 0 k
def wn (w : ByteArray) (n k : Nat) : ByteArray := (tn w k).extract 0 n
theorem tn_size (w : ByteArray) (k : Nat) (h : k ≤ w.size) : (tn w k).size = w.size := by
  unfold tn
  rw [ByteArray.size_append, ByteArray.size_extract, ByteArray.size_extract]; omega
theorem tn_sz (w : ByteArray) (k : Nat) (h : k ≤ w.size) (hw : w.size ≤ 64 := by assumption) : Nat.add (w.extract k w.size).size (w.extract 0 k).size < 9223372036854775808 := by
  show (w.extract k w.size).size + (w.extract 0 k).size < _
  rw [ByteArray.size_extract, ByteArray.size_extract]; omega
theorem c57 (F d c2 : Nat) (hF : 200 < F) (w : ByteArray) (hw : w.size ≤ 64) (bw : Nat) : IterC (CL F (d + 1)) (CL F (d + 2)) (.fn 57 [] [.ptr 901 bw 0]) [(901, .own bw 9 [.val (.string w)])] ((c2 + 60) * w.size + 100) c2 w.size (fun k => [.int .i64 (Int.ofNat k), .val (.string (tn w k))]) := by
  intro i b I Q hr m hI R
  rw [addL_eq, ← Nat.add_assoc, ← addL_eq _ 100, Nat.add_comm R]
  refine call_in (n := 21) Try.func57 rfl rfl rfl rfl rfl rfl rfl ?_
  repeat' ((conv => whnf); first | refine eqS_rfl ?_ | refine eqA_rfl ?_ | refine eqA_of (by assumption) ?_ | refine eqS_of (by rfl) ?_ | refine eqL_rfl ?_ | refine eqJ_rfl ?_ | refine gE ?_ | refine seS_rfl ?_ | refine lsS_of hup ?_ | refine lsS_rfl ?_ | refine brS_tt ?_ | refine brS_ff ?_ | refine brS_not ?_ | refine gI ?_ | refine gT ?_ | refine gF ?_ | refine brS_intro (fun _ => ?_) (fun _ => ?_) | refine gL ?_ | refine gX ?_ | refine gO ?_ | refine gN ?_ | intro _)
  conv => whnf
  refine loS_i (fun jj f mm R' ni => ∃ (j : Nat) (m1 : Mem), j ≤ w.size ∧ jj = w.size - j + 1 ∧ f = [(0, .yf i b), (1, .ptr 901 bw 0), (5, .int .i64 (Int.ofNat w.size)), (6, .int .i64 (Int.ofNat j))] ∧ mm = [(901, .own bw 9 [.val (.string w)])] ++ m1 ∧ I j m1 ∧ R' = addL ((c2 + 60) * (w.size - j) + R) 60 ∧ ni = 500) (w.size + 1) (by omega)
    ⟨[(0, .yf i b), (1, .ptr 901 bw 0), (5, .int .i64 (Int.ofNat w.size)), (6, .int .i64 (Int.ofNat 0))], [(901, .own bw 9 [.val (.string w)])] ++ m, addL ((c2 + 60) * (w.size - 0) + R) 60, 500, ⟨eqF_rfl _, eqF_rfl _, eqF_rfl _, eqF_rfl _, trivial⟩, WS, by rw [Nat.sub_zero]; (first | (simp only [addL_eq, addL_rec]; omega) | omega | exact Nat.le_refl _), 0, m, by omega, by omega, rfl, rfl, hI, rfl, rfl⟩ ?_
  rintro _ _ _ _ _ ⟨j, m1, hj, rfl, rfl, rfl, hI, rfl, rfl⟩
  by_cases hlt : j < w.size
  · have d1 := iLt_t hlt
    have hb : (c2 + 60) * (w.size - j) = (c2 + 60) * (w.size - (j + 1)) + (c2 + 60) := by rw [← Nat.mul_succ]; congr 1; omega
    repeat' ((conv => whnf); first | refine eqS_rfl ?_ | refine eqA_rfl ?_ | refine eqA_of (by assumption) ?_ | refine eqS_of (by rfl) ?_ | refine eqL_rfl ?_ | refine eqJ_rfl ?_ | refine gE ?_ | refine seS_rfl ?_ | refine lsS_of hup ?_ | refine lsS_rfl ?_ | refine brS_tt ?_ | refine brS_ff ?_ | refine brS_not ?_ | refine gI ?_ | refine gT ?_ | refine gF ?_ | refine brS_intro (fun _ => ?_) (fun _ => ?_) | refine gL ?_ | refine gX ?_ | refine gO ?_ | refine gN ?_ | refine gM ?_ | refine gY ?_ | refine ixS_of rfl (by show _ < _ + 1; omega) ?_ | refine ltS_intro (tn_sz w _ (by omega)) ?_ | refine call_round (k := j) hI (hr j hlt) [_] (addL ((c2 + 60) * (w.size - (j + 1)) + R) 75) (by rfl) (by exact WkM.refl _) (nM1) ?_ ?_ | intro _)
    all_goals conv => whnf
    all_goals first
      | exact ⟨w.size - (j + 1) + 1, [(0, .yf i b), (1, .ptr 901 bw 0), (5, .int .i64 (Int.ofNat w.size)), (6, .int .i64 (Int.ofNat (j + 1)))], [(901, .own bw 9 [.val (.string w)])] ++ _, addL ((c2 + 60) * (w.size - (j + 1)) + R) 60, 500, by omega, ⟨eqF_rfl _, eqF_rfl _, eqF_rfl _, ⟨congrArg (Value.int .i64) (smn (i := j + 1) (by omega)), rfl⟩, trivial⟩, WkM.refl _, nM1, j + 1, _, by omega, rfl, rfl, rfl, by assumption, rfl, rfl⟩
      | exact ⟨nM1, _, by repeat' (first | exact WkM.comm [(901, _)] _ | refine WkM.drop ?_), .inr (by assumption)⟩
      | trace_state
  · have e2 : w.size = j := by omega
    subst e2
    have d1 := iLt_f (Nat.le_refl w.size)
    repeat' ((conv => whnf); first | refine eqS_rfl ?_ | refine eqA_rfl ?_ | refine eqA_of (by assumption) ?_ | refine eqS_of (by rfl) ?_ | refine eqL_rfl ?_ | refine eqJ_rfl ?_ | refine gE ?_ | refine seS_rfl ?_ | refine lsS_of hup ?_ | refine lsS_rfl ?_ | refine brS_tt ?_ | refine brS_ff ?_ | refine brS_not ?_ | refine gI ?_ | refine gT ?_ | refine gF ?_ | refine brS_intro (fun _ => ?_) (fun _ => ?_) | refine gL ?_ | refine gX ?_ | refine gO ?_ | refine gN ?_ | intro _)
    conv => whnf
    exact ⟨nM1, m1, by repeat' (first | exact WkM.comm [(901, _)] _ | refine WkM.drop ?_), .inl hI⟩
end Go.Proofs.Ytfcgfnlifdjfjaa
namespace Go.Proofs.Ytfcgfnlifdjfjaa
open Go.Ab
attribute [local irreducible] aggOk drwOK
set_option maxRecDepth 100000
set_option maxHeartbeats 4000000
set_option linter.unusedVariables false
set_option linter.unusedSimpArgs false
/-- the windows so far -/
def FK (w : ByteArray) (n k : Nat) (a : Nat) : Option SV := bif (List.range k).any (fun q => Nat.beq (en (wn w n q)) a) then some (.bool true) else none
theorem FK_none {w : ByteArray} {n k : Nat} {v : ByteArray} (h : ∀ q, q < k → wn w n q ≠ v) : FK w n k (en v) = none := by
  unfold FK
  have : (List.range k).any (fun q => Nat.beq (en (wn w n q)) (en v)) = false := by
    rw [List.any_eq_false]
    intro q hq hb
    exact h q (List.mem_range.1 hq) (en_inj (beq_true (by simpa using hb)))
  rw [this]; rfl
theorem FK_some {w : ByteArray} {n k q : Nat} {v : ByteArray} (hq : q < k) (h : wn w n q = v) : FK w n k (en v) = some (.bool true) := by
  unfold FK
  have : (List.range k).any (fun q => Nat.beq (en (wn w n q)) (en v)) = true := by
    rw [List.any_eq_true]
    exact ⟨q, List.mem_range.2 hq, by rw [h]; exact Nat.beq_refl _⟩
  rw [this]; rfl
theorem FK_upd (w : ByteArray) (n k : Nat) : updM (FK w n k) (en (wn w n k)) (.bool true) = FK w n (k + 1) := by
  funext a
  unfold updM FK
  rw [List.range_succ, List.any_append]
  cases h : Nat.beq a (en (wn w n k)) with
  | true =>
    have := beq_true h
    subst this
    simp
  | false =>
    have h2 := beq_symm h
    simp [h2]
/-- whether the windows differ -/
def dfB (w : ByteArray) (n : Nat) : Bool := decide (∀ q, q < w.size → ∀ p, p < q → wn w n p ≠ wn w n q)
theorem c46 (F d : Nat) (hF : 200 < F) (w : ByteArray) (hw : w.size ≤ 64) (n : Nat) (hn : n ≤ w.size) : ReadC (CL F (d + 3)) 46 [.val (.string w), .int .i64 (Int.ofNat n)] [] (10000 + 200) (.bool (dfB w n)) := by
  intro R
  rw [show 10000 + 200 = (10000) + 200 from rfl, addL_eq, ← Nat.add_assoc, ← addL_eq _ 200, Nat.add_comm R (10000)]
  refine call_in (n := 22) Try.func46 rfl rfl rfl rfl rfl rfl rfl ?_
  repeat' ((conv => whnf); first | refine eqS_rfl ?_ | refine eqA_rfl ?_ | refine eqA_of (by assumption) ?_ | refine eqS_of (by rfl) ?_ | refine eqL_rfl ?_ | refine eqJ_rfl ?_ | refine gE ?_ | refine seS_rfl ?_ | refine lsS_of hup ?_ | refine lsS_rfl ?_ | refine brS_tt ?_ | refine brS_ff ?_ | refine brS_not ?_ | refine gI ?_ | refine gT ?_ | refine gF ?_ | refine brS_intro (fun _ => ?_) (fun _ => ?_) | refine gL ?_ | refine gX ?_ | refine gO ?_ | refine gN ?_ | refine call_in (n := 4) Try.func40 rfl rfl rfl rfl rfl rfl rfl ?_ | intro _)
  rename_i bx br bm bp bw b1 b2
  refine call_iter (c57 F d 60 hF w hw bw) (fun k m => ∃ kv, m = [(5, lopF Try.f46 0 b2 .ready none 22 [(3, .ptr 0 bx 0), (4, .ptr 1 br 0), (5, .ptr 3 bp 0)] b1), (dfN, .dfr [b1]), (3, .own bp 74 [.mpv 2 bm]), (2, .mp bm kv (FK w n k)), (1, .own br 4 [.bool false]), (0, .own bx 3 [.int .i64 (Int.ofNat n)])] ∧ (k ≠ 0 → kv = kvS) ∧ ∀ q, q < k → ∀ p, p < q → wn w n p ≠ wn w n q) (fun m => ∃ kv k, m = [(5, lopF Try.f46 0 b2 .done (some .ret) 22 [(3, .ptr 0 bx 0), (4, .ptr 1 br 0), (5, .ptr 3 bp 0)] b1), (dfN, .dfr [b1]), (3, .own bp 74 [.mpv 2 bm]), (2, .mp bm kv (FK w n k)), (1, .own br 4 [.bool false]), (0, .own bx 3 [.int .i64 (Int.ofNat n)])] ∧ dfB w n = false) [(5, lopF Try.f46 0 b2 .ready none 22 [(3, .ptr 0 bx 0), (4, .ptr 1 br 0), (5, .ptr 3 bp 0)] b1), (dfN, .dfr [b1]), (3, .own bp 74 [.mpv 2 bm]), (2, .mp bm jkM noM), (1, .own br 4 [.bool false]), (0, .own bx 3 [.int .i64 (Int.ofNat n)])] (addL R 50) (by rfl) (by exact (WkM.lop (i := 5) (j := 5) (f' := [(3, .ptr 0 bx 0), (4, .ptr 1 br 0), (5, .ptr 3 bp 0)]) ⟨eqF_rfl _, eqF_rfl _, eqF_rfl _, trivial⟩ (WkM.refl _)).trans WS) ⟨jkM, rfl, fun h => absurd rfl h, fun q hq => absurd hq (Nat.not_lt_zero _)⟩ ?_ (nM1) ?_
  · rintro k hk _ ⟨kv, rfl, hkv, hok⟩ me' R
    have hsz := tn_size w k (by omega)
    refine call_yield ?_
    rw [← FK_upd]
    rcases Nat.eq_zero_or_pos k with rfl | hk0
    · skip
      repeat' ((conv => whnf); first | refine eqS_rfl ?_ | refine eqA_rfl ?_ | refine eqA_of (by assumption) ?_ | refine eqS_of (by rfl) ?_ | refine eqL_rfl ?_ | refine eqJ_rfl ?_ | refine gE ?_ | refine seS_rfl ?_ | refine lsS_of hup ?_ | refine lsS_rfl ?_ | refine brS_tt ?_ | refine brS_ff ?_ | refine brS_not ?_ | refine gI ?_ | refine gT ?_ | refine gF ?_ | refine brS_intro (fun _ => ?_) (fun _ => ?_) | refine gL ?_ | refine gX ?_ | refine gO ?_ | refine gN ?_ | refine gM ?_ | refine gY ?_ | refine ixS_of rfl (by show _ < _ + 1; omega) ?_ | refine ltS_intro (tn_sz w _ (by omega)) ?_ | refine kyS_new kvS (en (wn w n 0)) (fun _ => rfl) (keyS _ rfl) (kvS_en _) ?_ | refine hasS_none rfl ?_ | intro _)
      conv => whnf
      exact ⟨nM1, [(5, lopF Try.f46 0 b2 .ready none 22 [(3, .ptr 0 bx 0), (4, .ptr 1 br 0), (5, .ptr 3 bp 0)] b1), (dfN, .dfr [b1]), (3, .own bp 74 [.mpv 2 bm]), (2, .mp bm kvS (updM (FK w n 0) (en (wn w n 0)) (.bool true))), (1, .own br 4 [.bool false]), (0, .own bx 3 [.int .i64 (Int.ofNat n)])], WS, .inl ⟨rfl, kvS, rfl, fun _ => rfl, fun q hq p hp => by omega⟩⟩
    · have e := hkv (by omega)
      subst e
      by_cases hs : ∃ q, q < k ∧ wn w n q = wn w n k
      · obtain ⟨q, hq, he⟩ := hs
        have hf := FK_some hq he
        have hno : dfB w n = false := decide_eq_false fun h => h k hk q hq he
        repeat' ((conv => whnf); first | refine eqS_rfl ?_ | refine eqA_rfl ?_ | refine eqA_of (by assumption) ?_ | refine eqS_of (by rfl) ?_ | refine eqL_rfl ?_ | refine eqJ_rfl ?_ | refine gE ?_ | refine seS_rfl ?_ | refine lsS_of hup ?_ | refine lsS_rfl ?_ | refine brS_tt ?_ | refine brS_ff ?_ | refine brS_not ?_ | refine gI ?_ | refine gT ?_ | refine gF ?_ | refine brS_intro (fun _ => ?_) (fun _ => ?_) | refine gL ?_ | refine gX ?_ | refine gO ?_ | refine gN ?_ | refine gM ?_ | refine gY ?_ | refine ixS_of rfl (by show _ < _ + 1; omega) ?_ | refine ltS_intro (tn_sz w _ (by omega)) ?_ | refine kyS_of (en (wn w n k)) (keyS _ rfl) (kvS_en _) ?_ | refine hasS_some hf ?_ | intro _)
        conv => whnf
        exact ⟨nM1, [(5, lopF Try.f46 0 b2 .done (some .ret) 22 [(3, .ptr 0 bx 0), (4, .ptr 1 br 0), (5, .ptr 3 bp 0)] b1), (dfN, .dfr [b1]), (3, .own bp 74 [.mpv 2 bm]), (2, .mp bm kvS (FK w n k)), (1, .own br 4 [.bool false]), (0, .own bx 3 [.int .i64 (Int.ofNat n)])], WS, .inr ⟨rfl, kvS, k, rfl, hno⟩⟩
      · have hf : FK w n k (en (wn w n k)) = none := FK_none fun q hq he => hs ⟨q, hq, he⟩
        repeat' ((conv => whnf); first | refine eqS_rfl ?_ | refine eqA_rfl ?_ | refine eqA_of (by assumption) ?_ | refine eqS_of (by rfl) ?_ | refine eqL_rfl ?_ | refine eqJ_rfl ?_ | refine gE ?_ | refine seS_rfl ?_ | refine lsS_of hup ?_ | refine lsS_rfl ?_ | refine brS_tt ?_ | refine brS_ff ?_ | refine brS_not ?_ | refine gI ?_ | refine gT ?_ | refine gF ?_ | refine brS_intro (fun _ => ?_) (fun _ => ?_) | refine gL ?_ | refine gX ?_ | refine gO ?_ | refine gN ?_ | refine gM ?_ | refine gY ?_ | refine ixS_of rfl (by show _ < _ + 1; omega) ?_ | refine ltS_intro (tn_sz w _ (by omega)) ?_ | refine kyS_of (en (wn w n k)) (keyS _ rfl) (kvS_en _) ?_ | refine hasS_none hf ?_ | intro _)
        conv => whnf
        refine ⟨nM1, [(5, lopF Try.f46 0 b2 .ready none 22 [(3, .ptr 0 bx 0), (4, .ptr 1 br 0), (5, .ptr 3 bp 0)] b1), (dfN, .dfr [b1]), (3, .own bp 74 [.mpv 2 bm]), (2, .mp bm kvS (updM (FK w n k) (en (wn w n k)) (.bool true))), (1, .own br 4 [.bool false]), (0, .own bx 3 [.int .i64 (Int.ofNat n)])], WS, .inl ⟨rfl, kvS, rfl, fun _ => rfl, fun q hq p hp => ?_⟩⟩
        by_cases e2 : q = k
        · subst e2; exact fun he => hs ⟨p, hp, he⟩
        · exact hok q (by omega) p hp
  · rintro _ _ (⟨kv, rfl, _, h⟩ | ⟨kv, k, rfl, h⟩)
    · rw [show dfB w n = true from decide_eq_true h]
      repeat' ((conv => whnf); first | refine eqS_rfl ?_ | refine eqA_rfl ?_ | refine eqA_of (by assumption) ?_ | refine eqS_of (by rfl) ?_ | refine eqL_rfl ?_ | refine eqJ_rfl ?_ | refine gE ?_ | refine seS_rfl ?_ | refine lsS_of hup ?_ | refine lsS_rfl ?_ | refine brS_tt ?_ | refine brS_ff ?_ | refine brS_not ?_ | refine gI ?_ | refine gT ?_ | refine gF ?_ | refine brS_intro (fun _ => ?_) (fun _ => ?_) | refine gL ?_ | refine gX ?_ | refine gO ?_ | refine gN ?_ | intro _)
      conv => whnf
      exact ⟨rfl, nM1⟩
    · rw [h]
      repeat' ((conv => whnf); first | refine eqS_rfl ?_ | refine eqA_rfl ?_ | refine eqA_of (by assumption) ?_ | refine eqS_of (by rfl) ?_ | refine eqL_rfl ?_ | refine eqJ_rfl ?_ | refine gE ?_ | refine seS_rfl ?_ | refine lsS_of hup ?_ | refine lsS_rfl ?_ | refine brS_tt ?_ | refine brS_ff ?_ | refine brS_not ?_ | refine gI ?_ | refine gT ?_ | refine gF ?_ | refine brS_intro (fun _ => ?_) (fun _ => ?_) | refine gL ?_ | refine gX ?_ | refine gO ?_ | refine gN ?_ | intro _)
      conv => whnf
      exact ⟨rfl, nM1⟩
end Go.Proofs.Ytfcgfnlifdjfjaa
namespace Go.Proofs.Ytfcgfnlifdjfjaa
open Go.Ab
attribute [local irreducible] aggOk drwOK
set_option maxRecDepth 100000
set_option maxHeartbeats 4000000
set_option linter.unusedVariables false
set_option linter.unusedSimpArgs false
theorem toList_data (w : ByteArray) : w.toList = w.data.toList := ByteArray.toList_eq w
theorem ne_empty {w : ByteArray} (h : 0 < w.size) : (w.toList == (ByteArray.mk #[]).toList) = false := by
  rw [toList_data, toList_data]
  cases hl : w.data.toList with
  | nil =>
    have h2 : w.data.size = 0 := by rw [← Array.length_toList, hl]; rfl
    have h3 : w.size = w.data.size := rfl
    omega
  | cons _ _ => rfl
theorem c42s (F d : Nat) (hF : 200 < F) (w : ByteArray) (hw : marks w) (h64 : w.size ≤ 64) (m : Mem) (R : Nat) (X Z : Nat → Prop) (s0 s : St) (hm : MemOK X Z s0 (addL R 20) s m) :
    Sat (fun Kr => CL F (d + 5) (den (.fn 42 [] [])) (dens [.val (.string w), .val (.string known)]) Kr s) fun v s' => Kp 1 s s' ∧ v = den (.int .i64 0) := by
  intro K r hK
  have h1 := hm.nx
  rw [addL_eq] at h1
  refine Eq.trans (callF_X rfl rfl [] [.string w, .string known] [] K s) ?_
  exact c42 F d (by omega) w hw h64 s (by omega) hm.fls K r hK
theorem c22 (F d : Nat) (hF : 200 < F) (w : ByteArray) (hw : marks w) (h0 : 0 < w.size) (h64 : w.size ≤ 64) : ReadC (CL F (d + 6)) 22 [.val (.string w)] [] (100 + 100) (.int .i64 0) := by
  intro R
  rw [show 100 + 100 = (100) + 100 from rfl, addL_eq, ← Nat.add_assoc, ← addL_eq _ 100, Nat.add_comm R (100)]
  have t1 := ne_empty h0
  refine call_in (n := 7) Try.func22 rfl rfl rfl rfl rfl rfl rfl ?_
  repeat' ((conv => whnf); first | refine eqS_rfl ?_ | refine eqA_rfl ?_ | refine eqA_of (by assumption) ?_ | refine eqS_of (by rfl) ?_ | refine eqL_rfl ?_ | refine eqJ_rfl ?_ | refine gE ?_ | refine seS_rfl ?_ | refine lsS_of hup ?_ | refine lsS_rfl ?_ | refine brS_tt ?_ | refine brS_ff ?_ | refine brS_not ?_ | refine gI ?_ | refine gT ?_ | refine gF ?_ | refine brS_intro (fun _ => ?_) (fun _ => ?_) | refine gL ?_ | refine gX ?_ | refine gO ?_ | refine gN ?_ | refine call_sat (N := 1) (.int .i64 0) (fun X Z s0 s hm => c42s F d hF w hw h64 _ _ X Z s0 s hm) ?_ | intro _)
  conv => whnf
  exact ⟨rfl, nM1⟩
/-- what Clear returns -/
def clV (w : ByteArray) : SV := match (List.range w.size).find? (fun n => dfB w n) with
  | some n => .tup [.int .i64 (Int.ofNat n), .int .i64 0]
  | none => .tup [.int .i64 0, .int .i64 14]
theorem clV_some {w : ByteArray} {j : Nat} (hj : j < w.size) (h : ∀ q, q < j → dfB w q = false) (hd : dfB w j = true) : clV w = .tup [.int .i64 (Int.ofNat j), .int .i64 0] := by
  unfold clV
  rw [List.find?_range_eq_some.2 ⟨hd, List.mem_range.2 hj, fun q hq => by rw [h q hq]; rfl⟩]
theorem clV_none {w : ByteArray} (h : ∀ q, q < w.size → dfB w q = false) : clV w = .tup [.int .i64 0, .int .i64 14] := by
  unfold clV
  rw [List.find?_eq_none.2 fun q hq => by rw [h q (List.mem_range.1 hq)]; decide]
theorem c19 (F d : Nat) (hF : 200 < F) (w : ByteArray) (hw : marks w) (h0 : 0 < w.size) (h64 : w.size ≤ 64) : ReadC (CL F (d + 7)) 19 [.val (.string w)] [] (20000 * w.size + 1000 + 100) (clV w) := by
  intro R
  rw [show 20000 * w.size + 1000 + 100 = (20000 * w.size + 1000) + 100 from rfl, addL_eq, ← Nat.add_assoc, ← addL_eq _ 100, Nat.add_comm R (20000 * w.size + 1000)]
  have k22 := c22 F d hF w hw h0 h64
  refine call_in (n := 21) Try.func19 rfl rfl rfl rfl rfl rfl rfl ?_
  repeat' ((conv => whnf); first | refine eqS_rfl ?_ | refine eqA_rfl ?_ | refine eqA_of (by assumption) ?_ | refine eqS_of (by rfl) ?_ | refine eqL_rfl ?_ | refine eqJ_rfl ?_ | refine gE ?_ | refine seS_rfl ?_ | refine lsS_of hup ?_ | refine lsS_rfl ?_ | refine brS_tt ?_ | refine brS_ff ?_ | refine brS_not ?_ | refine gI ?_ | refine gT ?_ | refine gF ?_ | refine brS_intro (fun _ => ?_) (fun _ => ?_) | refine gL ?_ | refine gX ?_ | refine gO ?_ | refine gN ?_ | refine call_readL k22 (addL (20000 * w.size + R) 70) (by rfl) (SeesM.nil _) (nM1) ?_ | intro _)
  conv => whnf
  refine loS_i (fun jj f mm R' ni => ∃ j : Nat, j ≤ w.size ∧ jj = w.size - j + 1 ∧ f = [(0, .val (.string w)), (12, .int .i64 (Int.ofNat w.size)), (13, .int .i64 (Int.ofNat j))] ∧ mm = [] ∧ (∀ q, q < j → dfB w q = false) ∧ R' = (addL (20000 * (w.size - j) + R) 60) ∧ ni = 10) (w.size + 1) (by omega)
    ⟨[(0, .val (.string w)), (12, .int .i64 (Int.ofNat w.size)), (13, .int .i64 (Int.ofNat 0))], [], (addL (20000 * (w.size - 0) + R) 60), 10, ⟨eqF_rfl _, eqF_rfl _, eqF_rfl _, trivial⟩, WS, by rw [Nat.sub_zero]; (first | (simp only [addL_eq, addL_rec]; omega) | omega | exact Nat.le_refl _), 0, by omega, by omega, rfl, rfl, fun q hq => absurd hq (Nat.not_lt_zero _), rfl, rfl⟩ ?_
  rintro _ _ _ _ _ ⟨j, hj, rfl, rfl, rfl, hno, rfl, rfl⟩
  by_cases hlt : j < w.size
  · have d1 := iLt_t hlt
    have hb : 20000 * (w.size - j) = 20000 * (w.size - (j + 1)) + 20000 := by omega
    have k46 := c46 F (d + 3) hF w h64 j (by omega)
    cases hd : dfB w j with
    | true =>
      rw [hd] at k46
      rw [clV_some hlt hno hd]
      repeat' ((conv => whnf); first | refine eqS_rfl ?_ | refine eqA_rfl ?_ | refine eqA_of (by assumption) ?_ | refine eqS_of (by rfl) ?_ | refine eqL_rfl ?_ | refine eqJ_rfl ?_ | refine gE ?_ | refine seS_rfl ?_ | refine lsS_of hup ?_ | refine lsS_rfl ?_ | refine brS_tt ?_ | refine brS_ff ?_ | refine brS_not ?_ | refine gI ?_ | refine gT ?_ | refine gF ?_ | refine brS_intro (fun _ => ?_) (fun _ => ?_) | refine gL ?_ | refine gX ?_ | refine gO ?_ | refine gN ?_ | refine gM ?_ | refine gY ?_ | refine call_readL k46 (addL (20000 * (w.size - (j + 1)) + R) 70) (by rfl) (SeesM.nil _) (nM1) ?_ | intro _)
      conv => whnf
      exact ⟨rfl, nM1⟩
    | false =>
      rw [hd] at k46
      repeat' ((conv => whnf); first | refine eqS_rfl ?_ | refine eqA_rfl ?_ | refine eqA_of (by assumption) ?_ | refine eqS_of (by rfl) ?_ | refine eqL_rfl ?_ | refine eqJ_rfl ?_ | refine gE ?_ | refine seS_rfl ?_ | refine lsS_of hup ?_ | refine lsS_rfl ?_ | refine brS_tt ?_ | refine brS_ff ?_ | refine brS_not ?_ | refine gI ?_ | refine gT ?_ | refine gF ?_ | refine brS_intro (fun _ => ?_) (fun _ => ?_) | refine gL ?_ | refine gX ?_ | refine gO ?_ | refine gN ?_ | refine gM ?_ | refine gY ?_ | refine call_readL k46 (addL (20000 * (w.size - (j + 1)) + R) 70) (by rfl) (SeesM.nil _) (nM1) ?_ | intro _)
      conv => whnf
      refine ⟨w.size - (j + 1) + 1, [(0, .val (.string w)), (12, .int .i64 (Int.ofNat w.size)), (13, .int .i64 (Int.ofNat (j + 1)))], [], (addL (20000 * (w.size - (j + 1)) + R) 60), 10, by omega, ⟨eqF_rfl _, eqF_rfl _, ⟨congrArg (Value.int .i64) (smn (i := j + 1) (by omega)), rfl⟩, trivial⟩, WS, nM1, j + 1, by omega, rfl, rfl, rfl, fun q hq => ?_, rfl, rfl⟩
      by_cases e2 : q = j
      · rw [e2]; exact hd
      · exact hno q (by omega)
  · have e2 : j = w.size := by omega
    subst e2
    have d1 := iLt_f (Nat.le_refl w.size)
    rw [clV_none hno]
    repeat' ((conv => whnf); first | refine eqS_rfl ?_ | refine eqA_rfl ?_ | refine eqA_of (by assumption) ?_ | refine eqS_of (by rfl) ?_ | refine eqL_rfl ?_ | refine eqJ_rfl ?_ | refine gE ?_ | refine seS_rfl ?_ | refine lsS_of hup ?_ | refine lsS_rfl ?_ | refine brS_tt ?_ | refine brS_ff ?_ | refine brS_not ?_ | refine gI ?_ | refine gT ?_ | refine gF ?_ | refine brS_intro (fun _ => ?_) (fun _ => ?_) | refine gL ?_ | refine gX ?_ | refine gO ?_ | refine gN ?_ | intro _)
    conv => whnf
    exact ⟨rfl, nM1⟩
end Go.Proofs.Ytfcgfnlifdjfjaa
namespace Go.Proofs.Ytfcgfnlifdjfjaa
open Go.Ab Go.RowKit
set_option maxRecDepth 100000
/-- Clear -/
theorem calls_clear (w : ByteArray) (hw : marks w) (h0 : 0 < w.size) (h64 : w.size ≤ 64) (W : World) : Calls Try.prog 19 #[.string w] W fun e W' => e = .returned (den (clV w)) ∧ Below W.heap.size W W' := by
  refine calls_pure draws name_ok extS_ok (F := 1000) (D := 6) (args := [.string w]) ?_ (fun x hx => by rw [List.mem_singleton.1 hx]; rfl) (fun K' => ?_) W
  · unfold clV; split <;> rfl
  · have h := c19 1000 0 (by decide) w hw h0 h64
    have hm : MemOK (fun _ => False) (fun _ => True) st0 (addL 0 (20000 * w.size + 1000 + 100)) st0 [] := ⟨.refl _ _, by rw [addL_eq, Nat.zero_add]; show 0 + _ ≤ 4398046511104; omega, Nat.le_refl _, (fun x hx => by cases hx), List.Pairwise.nil⟩
    have h1 := (h 0).run _ _ st0 st0 hm (fun x _ => K' x) (K' (den (clV w))) fun v _ _ _ _ _ hv => by rw [hv.1]
    have h1 : callF Try.prog 1000 (extX libS 14) (0 + 7) (.func (.func 19) ⟨[]⟩ ⟨[]⟩) (dens [.val (.string w)]) (fun x _ => K' x) st0 = K' (den (clV w)) := h1
    rw [show 0 + 7 = 6 + 1 from rfl, callF_B3 rfl rfl, List.nil_append, List.append_nil] at h1
    exact h1
/-! How many windows there can be -/
theorem pigeon : ∀ (N m : Nat) (f : Nat → Nat), (∀ i, i < m → f i < N) → (∀ j, j < m → ∀ i, i < j → f i ≠ f j) → m ≤ N
  | 0, m, f, h1, _ => by
    rcases Nat.eq_zero_or_pos m with h | h
    · omega
    · exact absurd (h1 0 h) (by omega)
  | N + 1, 0, _, _, _ => Nat.zero_le _
  | N + 1, m + 1, f, h1, h2 => by
    have : m ≤ N := pigeon N m (fun i => if f i = N then f m else f i) (fun i hi => by
      have a := h1 i (by omega)
      have b := h1 m (by omega)
      have c := h2 m (by omega) i hi
      show (if f i = N then f m else f i) < N
      split <;> omega) (fun j hj i hi => by
      have a := h2 j (by omega) i hi
      have b := h2 m (by omega) i (by omega)
      have c := h2 m (by omega) j hj
      show (if f i = N then f m else f i) ≠ (if f j = N then f m else f j)
      split <;> split <;> omega)
    omega
def bits : List UInt8 → Nat
  | [] => 0
  | b :: l => (if b = 49 then 1 else 0) + 2 * bits l
theorem bits_lt : ∀ l : List UInt8, bits l < 2 ^ l.length
  | [] => by decide
  | b :: l => by
    have h := bits_lt l
    rw [bits, List.length_cons, Nat.pow_succ]
    split <;> omega
theorem bits_inj : ∀ {l l' : List UInt8}, l.length = l'.length → (∀ x, x ∈ l → x = 48 ∨ x = 49) → (∀ x, x ∈ l' → x = 48 ∨ x = 49) → bits l = bits l' → l = l'
  | [], [], _, _, _, _ => rfl
  | [], _ :: _, h, _, _, _ => by simp at h
  | _ :: _, [], h, _, _, _ => by simp at h
  | b :: l, c :: l', h, h1, h2, h3 => by
    simp only [bits] at h3
    have hb := h1 b (by simp)
    have hc := h2 c (by simp)
    have e : b = c := by
      rcases hb with rfl | rfl <;> rcases hc with rfl | rfl <;> simp at h3 ⊢ <;> omega
    subst e
    rw [bits_inj (l := l) (l' := l') (by simpa using h) (fun x hx => h1 x (by simp [hx])) (fun x hx => h2 x (by simp [hx])) (by omega)]
theorem tn_data (w : ByteArray) (k : Nat) : (tn w k).data.toList = w.data.toList.drop k ++ w.data.toList.take k := by
  unfold tn
  rw [ByteArray.data_append, Array.toList_append, ByteArray.data_extract, ByteArray.data_extract, Array.toList_extract, Array.toList_extract]
  have h : w.size = w.data.toList.length := Array.length_toList.symm
  rw [h, List.extract_eq_take_drop, List.extract_eq_take_drop, List.drop_zero, Nat.sub_zero]
  rw [List.take_of_length_le (by rw [List.length_drop]; exact Nat.le_refl _)]
theorem wn_data (w : ByteArray) (n k : Nat) : (wn w n k).data.toList = ((tn w k).data.toList).take n := by
  unfold wn
  rw [ByteArray.data_extract, Array.toList_extract, List.extract_eq_take_drop, List.drop_zero, Nat.sub_zero]
theorem marks_wn {w : ByteArray} (hw : marks w) (n k : Nat) : marks (wn w n k) := fun x hx => by
  rw [wn_data, tn_data] at hx
  have h := List.mem_of_mem_take hx
  rcases List.mem_append.1 h with h | h
  · exact hw x (List.mem_of_mem_drop h)
  · exact hw x (List.mem_of_mem_take h)
theorem wn_len {w : ByteArray} {n k : Nat} (hk : k ≤ w.size) (hn : n ≤ w.size) : (wn w n k).data.toList.length = n := by
  have h := tn_size w k hk
  have h2 : (tn w k).data.toList.length = w.size := by rw [← h]; exact Array.length_toList
  rw [wn_data, List.length_take]; omega
theorem dfB_le {w : ByteArray} (hw : marks w) {n : Nat} (hn : n ≤ w.size) (h : dfB w n = true) : w.size ≤ 2 ^ n := by
  have h := of_decide_eq_true h
  refine pigeon (2 ^ n) w.size (fun k => bits (wn w n k).data.toList) (fun k hk => ?_) (fun q hq p hp he => h q hq p hp ?_)
  · have := bits_lt (wn w n k).data.toList
    rw [wn_len (by omega) hn] at this
    exact this
  · have := bits_inj ((wn_len (by omega) hn).trans (wn_len (by omega) hn).symm) (marks_wn hw n p) (marks_wn hw n q) he
    exact en_inj (congrArg enc this)
/-- what Clear can return -/
def okN (n m : Nat) : Bool := Nat.ble 6 n || Nat.ble m (Nat.pow 2 n)
theorem clV_ok {w : ByteArray} (hw : marks w) (h64 : w.size ≤ 64) : clV w = .tup [.int .i64 0, .int .i64 14] ∨ ∃ n, n < 64 ∧ okN n w.size = true ∧ clV w = .tup [.int .i64 (Int.ofNat n), .int .i64 0] := by
  unfold clV
  split
  · rename_i n hf
    have h1 := List.find?_range_eq_some.1 hf
    have h2 := List.mem_range.1 h1.2.1
    refine .inr ⟨n, by omega, ?_, rfl⟩
    show (Nat.ble 6 n || Nat.ble w.size (2 ^ n)) = true
    rw [Nat.ble_eq_true_of_le (dfB_le hw (by omega) h1.1), Bool.or_true]
  · exact .inl rfl
end Go.Proofs.Ytfcgfnlifdjfjaa
