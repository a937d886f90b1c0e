/- Keys: rules to spare. -/
import Derived.Test.YtoocmgefoagfnaaKyKeysSpareB
import Derived.KernelRfl
namespace Go.Proofs.Ytoocmgefoagfnaa
open Go.Ab
attribute [local irreducible] aggOk drwOK
set_option maxRecDepth 100000
set_option maxHeartbeats 4000000
set_option linter.unusedVariables false
set_option linter.unusedSimpArgs false
theorem WQ {m m' : Mem} (h : WkM m m' := by refine Sel.wk ?_; (try simp only [List.cons_append, List.nil_append]); repeat' (first | exact Sel.nil | exact Sel.all | exact Sel.left | refine Sel.cons Pick.here ?_ | refine Sel.cons (Pick.there Pick.here) ?_ | refine Sel.cons (Pick.there (Pick.there Pick.here)) ?_ | refine Sel.cons (Pick.there (Pick.there (Pick.there Pick.here))) ?_ | refine Sel.cons (Pick.there (Pick.there (Pick.there (Pick.there Pick.here)))) ?_ | refine Sel.cons (Pick.there (Pick.there (Pick.there (Pick.there (Pick.there Pick.here))))) ?_ | refine Sel.cons (Pick.there (Pick.there (Pick.there (Pick.there (Pick.there (Pick.there Pick.here)))))) ?_ | refine Sel.cons (Pick.there (Pick.there (Pick.there (Pick.there (Pick.there (Pick.there (Pick.there Pick.here))))))) ?_ | refine Sel.cons (Pick.there (Pick.there (Pick.there (Pick.there (Pick.there (Pick.there (Pick.there (Pick.there Pick.here)))))))) ?_ | refine Sel.cons (Pick.there (Pick.there (Pick.there (Pick.there (Pick.there (Pick.there (Pick.there (Pick.there (Pick.there Pick.here))))))))) ?_ | refine Sel.cons (Pick.there (Pick.there (Pick.there (Pick.there (Pick.there (Pick.there (Pick.there (Pick.there (Pick.there (Pick.there Pick.here)))))))))) ?_ | refine Sel.cons (Pick.there (Pick.there (Pick.there (Pick.there (Pick.there (Pick.there (Pick.there (Pick.there (Pick.there (Pick.there (Pick.there Pick.here))))))))))) ?_ | refine Sel.cons (Pick.there (Pick.there (Pick.there (Pick.there (Pick.there (Pick.there (Pick.there (Pick.there (Pick.there (Pick.there (Pick.there (Pick.there Pick.here)))))))))))) ?_ | refine Sel.cons (Pick.there (Pick.there (Pick.there (Pick.there (Pick.there (Pick.there (Pick.there (Pick.there (Pick.there (Pick.there (Pick.there (Pick.there (Pick.there Pick.here))))))))))))) ?_ | refine Sel.cons (Pick.there (Pick.there (Pick.there (Pick.there (Pick.there (Pick.there (Pick.there (Pick.there (Pick.there (Pick.there (Pick.there (Pick.there (Pick.there (Pick.there Pick.here)))))))))))))) ?_ | refine Sel.cons (Pick.there (Pick.there (Pick.there (Pick.there (Pick.there (Pick.there (Pick.there (Pick.there (Pick.there (Pick.there (Pick.there (Pick.there (Pick.there (Pick.there (Pick.there Pick.here))))))))))))))) ?_ | refine Sel.consw Pick.here ⟨rfl, rfl, rfl⟩ ?_ | refine Sel.consw (Pick.there Pick.here) ⟨rfl, rfl, rfl⟩ ?_ | refine Sel.consw (Pick.there (Pick.there Pick.here)) ⟨rfl, rfl, rfl⟩ ?_ | refine Sel.consw (Pick.there (Pick.there (Pick.there Pick.here))) ⟨rfl, rfl, rfl⟩ ?_ | refine Sel.consw (Pick.there (Pick.there (Pick.there (Pick.there Pick.here)))) ⟨rfl, rfl, rfl⟩ ?_ | refine Sel.consw (Pick.there (Pick.there (Pick.there (Pick.there (Pick.there Pick.here))))) ⟨rfl, rfl, rfl⟩ ?_ | refine Sel.consw (Pick.there (Pick.there (Pick.there (Pick.there (Pick.there (Pick.there Pick.here)))))) ⟨rfl, rfl, rfl⟩ ?_ | refine Sel.consw (Pick.there (Pick.there (Pick.there (Pick.there (Pick.there (Pick.there (Pick.there Pick.here))))))) ⟨rfl, rfl, rfl⟩ ?_ | refine Sel.consw (Pick.there (Pick.there (Pick.there (Pick.there (Pick.there (Pick.there (Pick.there (Pick.there Pick.here)))))))) ⟨rfl, rfl, rfl⟩ ?_ | refine Sel.consw (Pick.there (Pick.there (Pick.there (Pick.there (Pick.there (Pick.there (Pick.there (Pick.there (Pick.there Pick.here))))))))) ⟨rfl, rfl, rfl⟩ ?_ | refine Sel.consw (Pick.there (Pick.there (Pick.there (Pick.there (Pick.there (Pick.there (Pick.there (Pick.there (Pick.there (Pick.there Pick.here)))))))))) ⟨rfl, rfl, rfl⟩ ?_ | refine Sel.consw (Pick.there (Pick.there (Pick.there (Pick.there (Pick.there (Pick.there (Pick.there (Pick.there (Pick.there (Pick.there (Pick.there Pick.here))))))))))) ⟨rfl, rfl, rfl⟩ ?_ | refine Sel.consw (Pick.there (Pick.there (Pick.there (Pick.there (Pick.there (Pick.there (Pick.there (Pick.there (Pick.there (Pick.there (Pick.there (Pick.there Pick.here)))))))))))) ⟨rfl, rfl, rfl⟩ ?_ | refine Sel.consw (Pick.there (Pick.there (Pick.there (Pick.there (Pick.there (Pick.there (Pick.there (Pick.there (Pick.there (Pick.there (Pick.there (Pick.there (Pick.there Pick.here))))))))))))) ⟨rfl, rfl, rfl⟩ ?_ | refine Sel.consw (Pick.there (Pick.there (Pick.there (Pick.there (Pick.there (Pick.there (Pick.there (Pick.there (Pick.there (Pick.there (Pick.there (Pick.there (Pick.there (Pick.there Pick.here)))))))))))))) ⟨rfl, rfl, rfl⟩ ?_ | refine Sel.consw (Pick.there (Pick.there (Pick.there (Pick.there (Pick.there (Pick.there (Pick.there (Pick.there (Pick.there (Pick.there (Pick.there (Pick.there (Pick.there (Pick.there (Pick.there Pick.here))))))))))))))) ⟨rfl, rfl, rfl⟩ ?_ | refine Sel.consw Pick.here ⟨rfl, rfl, rfl, rfl, by assumption⟩ ?_ | refine Sel.consw (Pick.there Pick.here) ⟨rfl, rfl, rfl, rfl, by assumption⟩ ?_ | refine Sel.consw (Pick.there (Pick.there Pick.here)) ⟨rfl, rfl, rfl, rfl, by assumption⟩ ?_ | refine Sel.consw (Pick.there (Pick.there (Pick.there Pick.here))) ⟨rfl, rfl, rfl, rfl, by assumption⟩ ?_ | refine Sel.consw (Pick.there (Pick.there (Pick.there (Pick.there Pick.here)))) ⟨rfl, rfl, rfl, rfl, by assumption⟩ ?_ | refine Sel.consw (Pick.there (Pick.there (Pick.there (Pick.there (Pick.there Pick.here))))) ⟨rfl, rfl, rfl, rfl, by assumption⟩ ?_ | refine Sel.consw (Pick.there (Pick.there (Pick.there (Pick.there (Pick.there (Pick.there Pick.here)))))) ⟨rfl, rfl, rfl, rfl, by assumption⟩ ?_ | refine Sel.consw (Pick.there (Pick.there (Pick.there (Pick.there (Pick.there (Pick.there (Pick.there Pick.here))))))) ⟨rfl, rfl, rfl, rfl, by assumption⟩ ?_ | refine Sel.consw (Pick.there (Pick.there (Pick.there (Pick.there (Pick.there (Pick.there (Pick.there (Pick.there Pick.here)))))))) ⟨rfl, rfl, rfl, rfl, by assumption⟩ ?_ | refine Sel.consw (Pick.there (Pick.there (Pick.there (Pick.there (Pick.there (Pick.there (Pick.there (Pick.there (Pick.there Pick.here))))))))) ⟨rfl, rfl, rfl, rfl, by assumption⟩ ?_ | refine Sel.consw (Pick.there (Pick.there (Pick.there (Pick.there (Pick.there (Pick.there (Pick.there (Pick.there (Pick.there (Pick.there Pick.here)))))))))) ⟨rfl, rfl, rfl, rfl, by assumption⟩ ?_ | refine Sel.consw (Pick.there (Pick.there (Pick.there (Pick.there (Pick.there (Pick.there (Pick.there (Pick.there (Pick.there (Pick.there (Pick.there Pick.here))))))))))) ⟨rfl, rfl, rfl, rfl, by assumption⟩ ?_ | refine Sel.consw (Pick.there (Pick.there (Pick.there (Pick.there (Pick.there (Pick.there (Pick.there (Pick.there (Pick.there (Pick.there (Pick.there (Pick.there Pick.here)))))))))))) ⟨rfl, rfl, rfl, rfl, by assumption⟩ ?_ | refine Sel.consw (Pick.there (Pick.there (Pick.there (Pick.there (Pick.there (Pick.there (Pick.there (Pick.there (Pick.there (Pick.there (Pick.there (Pick.there (Pick.there Pick.here))))))))))))) ⟨rfl, rfl, rfl, rfl, by assumption⟩ ?_ | refine Sel.consw (Pick.there (Pick.there (Pick.there (Pick.there (Pick.there (Pick.there (Pick.there (Pick.there (Pick.there (Pick.there (Pick.there (Pick.there (Pick.there (Pick.there Pick.here)))))))))))))) ⟨rfl, rfl, rfl, rfl, by assumption⟩ ?_ | refine Sel.consw (Pick.there (Pick.there (Pick.there (Pick.there (Pick.there (Pick.there (Pick.there (Pick.there (Pick.there (Pick.there (Pick.there (Pick.there (Pick.there (Pick.there (Pick.there Pick.here))))))))))))))) ⟨rfl, rfl, rfl, rfl, by assumption⟩ ?_ | refine Sel.consw Pick.here ⟨rfl, rfl, rfl, .inl rfl, fun _ _ => rfl⟩ ?_ | refine Sel.consw (Pick.there Pick.here) ⟨rfl, rfl, rfl, .inl rfl, fun _ _ => rfl⟩ ?_ | refine Sel.consw (Pick.there (Pick.there Pick.here)) ⟨rfl, rfl, rfl, .inl rfl, fun _ _ => rfl⟩ ?_ | refine Sel.consw (Pick.there (Pick.there (Pick.there Pick.here))) ⟨rfl, rfl, rfl, .inl rfl, fun _ _ => rfl⟩ ?_ | refine Sel.consw (Pick.there (Pick.there (Pick.there (Pick.there Pick.here)))) ⟨rfl, rfl, rfl, .inl rfl, fun _ _ => rfl⟩ ?_ | refine Sel.consw (Pick.there (Pick.there (Pick.there (Pick.there (Pick.there Pick.here))))) ⟨rfl, rfl, rfl, .inl rfl, fun _ _ => rfl⟩ ?_ | refine Sel.consw (Pick.there (Pick.there (Pick.there (Pick.there (Pick.there (Pick.there Pick.here)))))) ⟨rfl, rfl, rfl, .inl rfl, fun _ _ => rfl⟩ ?_ | refine Sel.consw (Pick.there (Pick.there (Pick.there (Pick.there (Pick.there (Pick.there (Pick.there Pick.here))))))) ⟨rfl, rfl, rfl, .inl rfl, fun _ _ => rfl⟩ ?_ | refine Sel.consw (Pick.there (Pick.there (Pick.there (Pick.there (Pick.there (Pick.there (Pick.there (Pick.there Pick.here)))))))) ⟨rfl, rfl, rfl, .inl rfl, fun _ _ => rfl⟩ ?_ | refine Sel.consw (Pick.there (Pick.there (Pick.there (Pick.there (Pick.there (Pick.there (Pick.there (Pick.there (Pick.there Pick.here))))))))) ⟨rfl, rfl, rfl, .inl rfl, fun _ _ => rfl⟩ ?_ | refine Sel.consw (Pick.there (Pick.there (Pick.there (Pick.there (Pick.there (Pick.there (Pick.there (Pick.there (Pick.there (Pick.there Pick.here)))))))))) ⟨rfl, rfl, rfl, .inl rfl, fun _ _ => rfl⟩ ?_ | refine Sel.consw (Pick.there (Pick.there (Pick.there (Pick.there (Pick.there (Pick.there (Pick.there (Pick.there (Pick.there (Pick.there (Pick.there Pick.here))))))))))) ⟨rfl, rfl, rfl, .inl rfl, fun _ _ => rfl⟩ ?_ | refine Sel.consw (Pick.there (Pick.there (Pick.there (Pick.there (Pick.there (Pick.there (Pick.there (Pick.there (Pick.there (Pick.there (Pick.there (Pick.there Pick.here)))))))))))) ⟨rfl, rfl, rfl, .inl rfl, fun _ _ => rfl⟩ ?_ | refine Sel.consw (Pick.there (Pick.there (Pick.there (Pick.there (Pick.there (Pick.there (Pick.there (Pick.there (Pick.there (Pick.there (Pick.there (Pick.there (Pick.there Pick.here))))))))))))) ⟨rfl, rfl, rfl, .inl rfl, fun _ _ => rfl⟩ ?_ | refine Sel.consw (Pick.there (Pick.there (Pick.there (Pick.there (Pick.there (Pick.there (Pick.there (Pick.there (Pick.there (Pick.there (Pick.there (Pick.there (Pick.there (Pick.there Pick.here)))))))))))))) ⟨rfl, rfl, rfl, .inl rfl, fun _ _ => rfl⟩ ?_ | refine Sel.consw (Pick.there (Pick.there (Pick.there (Pick.there (Pick.there (Pick.there (Pick.there (Pick.there (Pick.there (Pick.there (Pick.there (Pick.there (Pick.there (Pick.there (Pick.there Pick.here))))))))))))))) ⟨rfl, rfl, rfl, .inl rfl, fun _ _ => rfl⟩ ?_ | refine Sel.consw Pick.here ⟨rfl, rfl, rfl, .inr rfl, fun _ _ => rfl⟩ ?_ | refine Sel.consw (Pick.there Pick.here) ⟨rfl, rfl, rfl, .inr rfl, fun _ _ => rfl⟩ ?_ | refine Sel.consw (Pick.there (Pick.there Pick.here)) ⟨rfl, rfl, rfl, .inr rfl, fun _ _ => rfl⟩ ?_ | refine Sel.consw (Pick.there (Pick.there (Pick.there Pick.here))) ⟨rfl, rfl, rfl, .inr rfl, fun _ _ => rfl⟩ ?_ | refine Sel.consw (Pick.there (Pick.there (Pick.there (Pick.there Pick.here)))) ⟨rfl, rfl, rfl, .inr rfl, fun _ _ => rfl⟩ ?_ | refine Sel.consw (Pick.there (Pick.there (Pick.there (Pick.there (Pick.there Pick.here))))) ⟨rfl, rfl, rfl, .inr rfl, fun _ _ => rfl⟩ ?_ | refine Sel.consw (Pick.there (Pick.there (Pick.there (Pick.there (Pick.there (Pick.there Pick.here)))))) ⟨rfl, rfl, rfl, .inr rfl, fun _ _ => rfl⟩ ?_ | refine Sel.consw (Pick.there (Pick.there (Pick.there (Pick.there (Pick.there (Pick.there (Pick.there Pick.here))))))) ⟨rfl, rfl, rfl, .inr rfl, fun _ _ => rfl⟩ ?_ | refine Sel.consw (Pick.there (Pick.there (Pick.there (Pick.there (Pick.there (Pick.there (Pick.there (Pick.there Pick.here)))))))) ⟨rfl, rfl, rfl, .inr rfl, fun _ _ => rfl⟩ ?_ | refine Sel.consw (Pick.there (Pick.there (Pick.there (Pick.there (Pick.there (Pick.there (Pick.there (Pick.there (Pick.there Pick.here))))))))) ⟨rfl, rfl, rfl, .inr rfl, fun _ _ => rfl⟩ ?_ | refine Sel.consw (Pick.there (Pick.there (Pick.there (Pick.there (Pick.there (Pick.there (Pick.there (Pick.there (Pick.there (Pick.there Pick.here)))))))))) ⟨rfl, rfl, rfl, .inr rfl, fun _ _ => rfl⟩ ?_ | refine Sel.consw (Pick.there (Pick.there (Pick.there (Pick.there (Pick.there (Pick.there (Pick.there (Pick.there (Pick.there (Pick.there (Pick.there Pick.here))))))))))) ⟨rfl, rfl, rfl, .inr rfl, fun _ _ => rfl⟩ ?_ | refine Sel.consw (Pick.there (Pick.there (Pick.there (Pick.there (Pick.there (Pick.there (Pick.there (Pick.there (Pick.there (Pick.there (Pick.there (Pick.there Pick.here)))))))))))) ⟨rfl, rfl, rfl, .inr rfl, fun _ _ => rfl⟩ ?_ | refine Sel.consw (Pick.there (Pick.there (Pick.there (Pick.there (Pick.there (Pick.there (Pick.there (Pick.there (Pick.there (Pick.there (Pick.there (Pick.there (Pick.there Pick.here))))))))))))) ⟨rfl, rfl, rfl, .inr rfl, fun _ _ => rfl⟩ ?_ | refine Sel.consw (Pick.there (Pick.there (Pick.there (Pick.there (Pick.there (Pick.there (Pick.there (Pick.there (Pick.there (Pick.there (Pick.there (Pick.there (Pick.there (Pick.there Pick.here)))))))))))))) ⟨rfl, rfl, rfl, .inr rfl, fun _ _ => rfl⟩ ?_ | refine Sel.consw (Pick.there (Pick.there (Pick.there (Pick.there (Pick.there (Pick.there (Pick.there (Pick.there (Pick.there (Pick.there (Pick.there (Pick.there (Pick.there (Pick.there (Pick.there Pick.here))))))))))))))) ⟨rfl, rfl, rfl, .inr rfl, fun _ _ => rfl⟩ ?_ | refine Sel.consw Pick.here ⟨rfl, .inl ⟨rfl, by assumption⟩⟩ ?_ | refine Sel.consw (Pick.there Pick.here) ⟨rfl, .inl ⟨rfl, by assumption⟩⟩ ?_ | refine Sel.consw (Pick.there (Pick.there Pick.here)) ⟨rfl, .inl ⟨rfl, by assumption⟩⟩ ?_ | refine Sel.consw (Pick.there (Pick.there (Pick.there Pick.here))) ⟨rfl, .inl ⟨rfl, by assumption⟩⟩ ?_ | refine Sel.consw (Pick.there (Pick.there (Pick.there (Pick.there Pick.here)))) ⟨rfl, .inl ⟨rfl, by assumption⟩⟩ ?_ | refine Sel.consw (Pick.there (Pick.there (Pick.there (Pick.there (Pick.there Pick.here))))) ⟨rfl, .inl ⟨rfl, by assumption⟩⟩ ?_ | refine Sel.consw (Pick.there (Pick.there (Pick.there (Pick.there (Pick.there (Pick.there Pick.here)))))) ⟨rfl, .inl ⟨rfl, by assumption⟩⟩ ?_ | refine Sel.consw (Pick.there (Pick.there (Pick.there (Pick.there (Pick.there (Pick.there (Pick.there Pick.here))))))) ⟨rfl, .inl ⟨rfl, by assumption⟩⟩ ?_ | refine Sel.consw Pick.here ⟨rfl, .inr ⟨fun _ => rfl, fun _ => rfl⟩⟩ ?_ | refine Sel.consw (Pick.there Pick.here) ⟨rfl, .inr ⟨fun _ => rfl, fun _ => rfl⟩⟩ ?_ | refine Sel.consw (Pick.there (Pick.there Pick.here)) ⟨rfl, .inr ⟨fun _ => rfl, fun _ => rfl⟩⟩ ?_ | refine Sel.consw (Pick.there (Pick.there (Pick.there Pick.here))) ⟨rfl, .inr ⟨fun _ => rfl, fun _ => rfl⟩⟩ ?_ | refine Sel.consw (Pick.there (Pick.there (Pick.there (Pick.there Pick.here)))) ⟨rfl, .inr ⟨fun _ => rfl, fun _ => rfl⟩⟩ ?_ | refine Sel.consw (Pick.there (Pick.there (Pick.there (Pick.there (Pick.there Pick.here))))) ⟨rfl, .inr ⟨fun _ => rfl, fun _ => rfl⟩⟩ ?_ | refine Sel.consw (Pick.there (Pick.there (Pick.there (Pick.there (Pick.there (Pick.there Pick.here)))))) ⟨rfl, .inr ⟨fun _ => rfl, fun _ => rfl⟩⟩ ?_ | refine Sel.consw (Pick.there (Pick.there (Pick.there (Pick.there (Pick.there (Pick.there (Pick.there Pick.here))))))) ⟨rfl, .inr ⟨fun _ => rfl, fun _ => rfl⟩⟩ ?_ | refine Sel.consw Pick.here ⟨rfl, rfl, rfl, .inl rfl, hpg _⟩ ?_ | refine Sel.consw (Pick.there Pick.here) ⟨rfl, rfl, rfl, .inl rfl, hpg _⟩ ?_ | refine Sel.consw (Pick.there (Pick.there Pick.here)) ⟨rfl, rfl, rfl, .inl rfl, hpg _⟩ ?_ | refine Sel.consw (Pick.there (Pick.there (Pick.there Pick.here))) ⟨rfl, rfl, rfl, .inl rfl, hpg _⟩ ?_ | refine Sel.consw (Pick.there (Pick.there (Pick.there (Pick.there Pick.here)))) ⟨rfl, rfl, rfl, .inl rfl, hpg _⟩ ?_ | refine Sel.consw (Pick.there (Pick.there (Pick.there (Pick.there (Pick.there Pick.here))))) ⟨rfl, rfl, rfl, .inl rfl, hpg _⟩ ?_ | refine Sel.consw Pick.here ⟨rfl, rfl, rfl, rfl, hpg _⟩ ?_ | refine Sel.consw (Pick.there Pick.here) ⟨rfl, rfl, rfl, rfl, hpg _⟩ ?_ | refine Sel.consw (Pick.there (Pick.there Pick.here)) ⟨rfl, rfl, rfl, rfl, hpg _⟩ ?_ | refine Sel.consw (Pick.there (Pick.there (Pick.there Pick.here))) ⟨rfl, rfl, rfl, rfl, hpg _⟩ ?_ | refine Sel.consw (Pick.there (Pick.there (Pick.there (Pick.there Pick.here)))) ⟨rfl, rfl, rfl, rfl, hpg _⟩ ?_ | refine Sel.consw (Pick.there (Pick.there (Pick.there (Pick.there (Pick.there Pick.here))))) ⟨rfl, rfl, rfl, rfl, hpg _⟩ ?_ | refine Sel.snoc Pick.here ?_ | refine Sel.snoc (Pick.there Pick.here) ?_ | refine Sel.snoc (Pick.there (Pick.there Pick.here)) ?_ | refine Sel.snoc (Pick.there (Pick.there (Pick.there Pick.here))) ?_ | refine Sel.snoc (Pick.there (Pick.there (Pick.there (Pick.there Pick.here)))) ?_ | refine Sel.snoc (Pick.there (Pick.there (Pick.there (Pick.there (Pick.there Pick.here))))) ?_ | refine Sel.snoc (Pick.there (Pick.there (Pick.there (Pick.there (Pick.there (Pick.there Pick.here)))))) ?_ | refine Sel.snoc (Pick.there (Pick.there (Pick.there (Pick.there (Pick.there (Pick.there (Pick.there Pick.here))))))) ?_ | refine Sel.snoc (Pick.there (Pick.there (Pick.there (Pick.there (Pick.there (Pick.there (Pick.there (Pick.there Pick.here)))))))) ?_ | refine Sel.snoc (Pick.there (Pick.there (Pick.there (Pick.there (Pick.there (Pick.there (Pick.there (Pick.there (Pick.there Pick.here))))))))) ?_ | refine Sel.snoc (Pick.there (Pick.there (Pick.there (Pick.there (Pick.there (Pick.there (Pick.there (Pick.there (Pick.there (Pick.there Pick.here)))))))))) ?_ | refine Sel.snoc (Pick.there (Pick.there (Pick.there (Pick.there (Pick.there (Pick.there (Pick.there (Pick.there (Pick.there (Pick.there (Pick.there Pick.here))))))))))) ?_ | refine Sel.snoc (Pick.there (Pick.there (Pick.there (Pick.there (Pick.there (Pick.there (Pick.there (Pick.there (Pick.there (Pick.there (Pick.there (Pick.there Pick.here)))))))))))) ?_ | refine Sel.snoc (Pick.there (Pick.there (Pick.there (Pick.there (Pick.there (Pick.there (Pick.there (Pick.there (Pick.there (Pick.there (Pick.there (Pick.there (Pick.there Pick.here))))))))))))) ?_ | refine Sel.snoc (Pick.there (Pick.there (Pick.there (Pick.there (Pick.there (Pick.there (Pick.there (Pick.there (Pick.there (Pick.there (Pick.there (Pick.there (Pick.there (Pick.there Pick.here)))))))))))))) ?_ | refine Sel.snoc (Pick.there (Pick.there (Pick.there (Pick.there (Pick.there (Pick.there (Pick.there (Pick.there (Pick.there (Pick.there (Pick.there (Pick.there (Pick.there (Pick.there (Pick.there Pick.here))))))))))))))) ?_ | refine Sel.drop ?_)) : WkM m m' := h
theorem emS_z {n : Nat} {K0 K1 : Prop} (hn : n = 0) (h : K0) : emS n K0 K1 := ⟨fun _ => h, fun h0 => absurd hn (by omega)⟩
/-- the rules without one of them -/
def lr (ru : Nat → Nat × Nat) (i j : Nat) : Nat × Nat := if j < i then ru j else ru (j + 1)
theorem c76 (F d k i : Nat) (hF : 100 < F) (T : Nat) (a : Option Addr) (n c : Nat) (hi : i < n) (hn : n ≤ 80) (hc : n ≤ c) (ru : Nat → Nat × Nat) (R : Nat) :
    callS (CL F (d + 4)) (.fn 76 [] []) [bk T a n c, .int .i64 (Int.ofNat i)] [(1000, roR a n 87 ru)] (addL R (400 + 100)) 0 fun w m' R' _ => (∃ w0 mf, QB k T (n - 1) (lr ru i) w0 mf ∧ den w = den w0 ∧ WkM m' mf) ∧ R ≤ R' := by
  have ix1 : wr .i64 (Int.add (Int.ofNat i) 1) = Int.ofNat (i + 1) := smn (i := i + 1) (by omega)
  have e1 : wr .i64 (Int.add 0 (Int.ofNat i)) = Int.ofNat i := (smn (i := 0 + i) (by omega)).trans (by rw [Nat.zero_add])
  have e2 : wr .i64 (Int.add (Int.ofNat i) (Int.ofNat (Nat.sub n (i + 1)))) = Int.ofNat (n - 1) := (smn (i := i + (n - (i + 1))) (by omega)).trans (by rw [show i + (n - (i + 1)) = n - 1 by omega])
  have sz1 : iLt (wr .i64 (Int.add 0 (Int.ofNat i))) 0 = false := by rw [e1]; exact iLt_0 _
  have sz2 : iLt (wr .i64 (Int.add (wr .i64 (Int.add 0 (Int.ofNat i))) (Int.ofNat (Nat.sub n (i + 1))))) 0 = false := by rw [e1, e2]; exact iLt_0 _
  have sz5 : wr .i64 (Int.sub (wr .i64 (Int.add (wr .i64 (Int.add 0 (Int.ofNat i))) (Int.ofNat (Nat.sub n (i + 1))))) (wr .i64 (Int.sub (Int.ofNat 0) (Int.ofNat 0)))) = Int.ofNat (n - 1) := by
    rw [e1, e2]
    exact (sm (n := ((n - 1 : Nat) : Int) - 0) (by omega)).trans (by show ((n - 1 : Nat) : Int) - 0 = ((n - 1 : Nat) : Int); omega)
  rw [show 400 + 100 = (400) + 100 from rfl, addL_eq, ← Nat.add_assoc, ← addL_eq _ 100, Nat.add_comm R (400)]
  by_cases h1 : n = 1
  · have sz4 : iLt 0 (wr .i64 (Int.sub (wr .i64 (Int.add (wr .i64 (Int.add 0 (Int.ofNat i))) (Int.ofNat (Nat.sub n (i + 1))))) (wr .i64 (Int.sub (Int.ofNat 0) (Int.ofNat 0))))) = false := by rw [sz5]; exact iLt_f (a := 0) (b := n - 1) (by omega)
    refine call_in (n := 19) Try.func76 rfl rfl rfl rfl rfl rfl rfl ?_
    repeat' ((conv => whnf); first
             | refine eqS_rfl ?_
             | refine eqA_rfl ?_
             | refine eqA_of (by assumption) ?_
             | refine eqS_of (by rfl) ?_
             | refine eqL_rfl ?_
             | refine eqJ_rfl ?_
             | refine flE_intro (fun _ _ => rfl) ?_
             | refine seS_rfl ?_
             | refine lsS_of hup ?_
             | refine lsS_rfl ?_
             | refine brS_tt ?_
             | refine brS_ff ?_
             | refine brS_not ?_
             | refine brS_t (iEq_self _) ?_
             | refine brS_t (by assumption) ?_
             | refine brS_f (by assumption) ?_
             | refine brS_intro (fun _ => ?_) (fun _ => ?_)
             | refine ltS_intro (by first | assumption | decide | exact Nat.le_of_ble_eq_true rfl | omega) ?_
             | refine ixS_of rfl (by first | assumption | decide | omega) ?_
             | refine okS_intro (by first | assumption | kernel_rfl) ?_
             | refine nzS_intro (by first | decide | assumption) ?_
             | refine ltS_intro (Nat.lt_of_le_of_lt (Nat.mul_le_mul_right _ (show n - 1 ≤ 80 by omega)) (Nat.le_of_ble_eq_true (by kernel_rfl))) ?_
             | refine brS_f sz1 ?_
             | refine brS_f sz2 ?_
             | refine brS_t sz4 ?_
             | refine brS_f sz4 ?_
             | refine ixS_of sz5 (by omega) ?_
             | refine ixS_of ix1 (Nat.succ_lt_succ hi) ?_
             | refine ixS_of (q := 0) rfl (Nat.succ_pos _) ?_
             | refine ixS_of rfl (by first | omega | (simp only [Nat.add_eq, Nat.sub_eq, Nat.mul_eq, Nat.succ_eq_add_one]; omega)) ?_
             | refine ltS_intro (by first | omega | (simp only [Nat.add_eq, Nat.sub_eq, Nat.mul_eq, Nat.succ_eq_add_one]; omega)) ?_
             | refine emS_z (by first | omega | (simp only [Nat.add_eq, Nat.sub_eq, Nat.mul_eq, Nat.succ_eq_add_one]; omega)) ?_
             | refine emS_p (by first | omega | (simp only [Nat.add_eq, Nat.sub_eq, Nat.mul_eq, Nat.succ_eq_add_one]; omega)) ?_
             | refine orS_l (by constructor <;> (first | omega | (simp only [Nat.add_eq, Nat.sub_eq, Nat.mul_eq, Nat.succ_eq_add_one]; omega))) ?_
             | refine orS_l (by first | omega | (simp only [Nat.add_eq, Nat.sub_eq, Nat.mul_eq, Nat.succ_eq_add_one]; omega)) ?_
             | refine flE_intro (fun _ _ => rfl) ?_
             | refine loS_u 3 (by omega) ?_
             | refine call_in (n := 36) Try.func94 rfl rfl rfl rfl rfl rfl rfl ?_
             | refine call_in (n := 27) Try.func103 rfl rfl rfl rfl rfl rfl rfl ?_
             | intro _)
    conv => whnf
    have e3 : n - 1 = 0 := by omega
    rw [e3]
    exact ⟨⟨.agg [.int .i64 (Int.ofNat T), .sl k none 0 0], _, ⟨none, rfl, rfl⟩, rfl, WkM.gr0 WS⟩, by (first | (simp only [addL_eq, addL_rec]; omega) | omega | exact Nat.le_refl _)⟩
  · have sz4 : iLt 0 (wr .i64 (Int.sub (wr .i64 (Int.add (wr .i64 (Int.add 0 (Int.ofNat i))) (Int.ofNat (Nat.sub n (i + 1))))) (wr .i64 (Int.sub (Int.ofNat 0) (Int.ofNat 0))))) = true := by rw [sz5]; exact iLt_t (a := 0) (b := n - 1) (by omega)
    by_cases h2 : i = 0
    · refine call_in (n := 19) Try.func76 rfl rfl rfl rfl rfl rfl rfl ?_
      repeat' ((conv => whnf); first
               | refine eqS_rfl ?_
               | refine eqA_rfl ?_
               | refine eqA_of (by assumption) ?_
               | refine eqS_of (by rfl) ?_
               | refine eqL_rfl ?_
               | refine eqJ_rfl ?_
               | refine flE_intro (fun _ _ => rfl) ?_
               | refine seS_rfl ?_
               | refine lsS_of hup ?_
               | refine lsS_rfl ?_
               | refine brS_tt ?_
               | refine brS_ff ?_
               | refine brS_not ?_
               | refine brS_t (iEq_self _) ?_
               | refine brS_t (by assumption) ?_
               | refine brS_f (by assumption) ?_
               | refine brS_intro (fun _ => ?_) (fun _ => ?_)
               | refine ltS_intro (by first | assumption | decide | exact Nat.le_of_ble_eq_true rfl | omega) ?_
               | refine ixS_of rfl (by first | assumption | decide | omega) ?_
               | refine okS_intro (by first | assumption | kernel_rfl) ?_
               | refine nzS_intro (by first | decide | assumption) ?_
               | refine ltS_intro (Nat.lt_of_le_of_lt (Nat.mul_le_mul_right _ (show n - 1 ≤ 80 by omega)) (Nat.le_of_ble_eq_true (by kernel_rfl))) ?_
               | refine brS_f sz1 ?_
               | refine brS_f sz2 ?_
               | refine brS_t sz4 ?_
               | refine brS_f sz4 ?_
               | refine ixS_of sz5 (by omega) ?_
               | refine ixS_of ix1 (Nat.succ_lt_succ hi) ?_
               | refine ixS_of (q := 0) rfl (Nat.succ_pos _) ?_
               | refine ixS_of rfl (by first | omega | (simp only [Nat.add_eq, Nat.sub_eq, Nat.mul_eq, Nat.succ_eq_add_one]; omega)) ?_
               | refine ltS_intro (by first | omega | (simp only [Nat.add_eq, Nat.sub_eq, Nat.mul_eq, Nat.succ_eq_add_one]; omega)) ?_
               | refine emS_z (by first | omega | (simp only [Nat.add_eq, Nat.sub_eq, Nat.mul_eq, Nat.succ_eq_add_one]; omega)) ?_
               | refine emS_p (by first | omega | (simp only [Nat.add_eq, Nat.sub_eq, Nat.mul_eq, Nat.succ_eq_add_one]; omega)) ?_
               | refine orS_l (by constructor <;> (first | omega | (simp only [Nat.add_eq, Nat.sub_eq, Nat.mul_eq, Nat.succ_eq_add_one]; omega))) ?_
               | refine orS_l (by first | omega | (simp only [Nat.add_eq, Nat.sub_eq, Nat.mul_eq, Nat.succ_eq_add_one]; omega)) ?_
               | refine flE_intro (fun _ _ => rfl) ?_
               | refine loS_u 3 (by omega) ?_
               | refine call_in (n := 36) Try.func94 rfl rfl rfl rfl rfl rfl rfl ?_
               | refine call_in (n := 27) Try.func103 rfl rfl rfl rfl rfl rfl rfl ?_
               | intro _)
      rename_i az
      conv => whnf
      have hpg : ∀ g0 : Nat → List SV, ∀ j, j < n - 1 → putG 0 (Nat.sub n (i + 1)) (fun j => rl (ru (Nat.add (i + 1) j))) g0 j = rl (lr ru i j) := fun g0 j hj => by
        rw [show Nat.sub n (i + 1) = n - (i + 1) from rfl, putG_all j (show j < n - (i + 1) by omega)]
        show rl (ru (i + 1 + j)) = _
        unfold lr
        rw [if_neg (by omega), show i + 1 + j = j + 1 by omega]
      exact ⟨⟨.agg [.int .i64 (Int.ofNat T), .sl k az (n - 1) (n - 1)], _, ⟨az, rfl, rfl⟩, congrArg (fun z => Value.agg ⟨[.int .i64 (Int.ofNat T), .slice az z (n - 1)]⟩) (show 0 + (n - (i + 1)) = n - 1 by omega), WQ⟩, by (first | (simp only [addL_eq, addL_rec]; omega) | omega | exact Nat.le_refl _)⟩
    · by_cases h3 : i = n - 1
      · refine call_in (n := 19) Try.func76 rfl rfl rfl rfl rfl rfl rfl ?_
        repeat' ((conv => whnf); first
                 | refine eqS_rfl ?_
                 | refine eqA_rfl ?_
                 | refine eqA_of (by assumption) ?_
                 | refine eqS_of (by rfl) ?_
                 | refine eqL_rfl ?_
                 | refine eqJ_rfl ?_
                 | refine flE_intro (fun _ _ => rfl) ?_
                 | refine seS_rfl ?_
                 | refine lsS_of hup ?_
                 | refine lsS_rfl ?_
                 | refine brS_tt ?_
                 | refine brS_ff ?_
                 | refine brS_not ?_
                 | refine brS_t (iEq_self _) ?_
                 | refine brS_t (by assumption) ?_
                 | refine brS_f (by assumption) ?_
                 | refine brS_intro (fun _ => ?_) (fun _ => ?_)
                 | refine ltS_intro (by first | assumption | decide | exact Nat.le_of_ble_eq_true rfl | omega) ?_
                 | refine ixS_of rfl (by first | assumption | decide | omega) ?_
                 | refine okS_intro (by first | assumption | kernel_rfl) ?_
                 | refine nzS_intro (by first | decide | assumption) ?_
                 | refine ltS_intro (Nat.lt_of_le_of_lt (Nat.mul_le_mul_right _ (show n - 1 ≤ 80 by omega)) (Nat.le_of_ble_eq_true (by kernel_rfl))) ?_
                 | refine brS_f sz1 ?_
                 | refine brS_f sz2 ?_
                 | refine brS_t sz4 ?_
                 | refine brS_f sz4 ?_
                 | refine ixS_of sz5 (by omega) ?_
                 | refine ixS_of ix1 (Nat.succ_lt_succ hi) ?_
                 | refine ixS_of (q := 0) rfl (Nat.succ_pos _) ?_
                 | refine ixS_of rfl (by first | omega | (simp only [Nat.add_eq, Nat.sub_eq, Nat.mul_eq, Nat.succ_eq_add_one]; omega)) ?_
                 | refine ltS_intro (by first | omega | (simp only [Nat.add_eq, Nat.sub_eq, Nat.mul_eq, Nat.succ_eq_add_one]; omega)) ?_
                 | refine emS_z (by first | omega | (simp only [Nat.add_eq, Nat.sub_eq, Nat.mul_eq, Nat.succ_eq_add_one]; omega)) ?_
                 | refine emS_p (by first | omega | (simp only [Nat.add_eq, Nat.sub_eq, Nat.mul_eq, Nat.succ_eq_add_one]; omega)) ?_
                 | refine orS_l (by constructor <;> (first | omega | (simp only [Nat.add_eq, Nat.sub_eq, Nat.mul_eq, Nat.succ_eq_add_one]; omega))) ?_
                 | refine orS_l (by first | omega | (simp only [Nat.add_eq, Nat.sub_eq, Nat.mul_eq, Nat.succ_eq_add_one]; omega)) ?_
                 | refine flE_intro (fun _ _ => rfl) ?_
                 | refine loS_u 3 (by omega) ?_
                 | refine call_in (n := 36) Try.func94 rfl rfl rfl rfl rfl rfl rfl ?_
                 | refine call_in (n := 27) Try.func103 rfl rfl rfl rfl rfl rfl rfl ?_
                 | intro _)
        rename_i az
        conv => whnf
        have hpg : ∀ g0 : Nat → List SV, ∀ j, j < n - 1 → putG 0 i (fun j => rl (ru j)) g0 j = rl (lr ru i j) := fun g0 j hj => by
          rw [putG_all j (by omega)]
          unfold lr
          rw [if_pos (by omega)]
        exact ⟨⟨.agg [.int .i64 (Int.ofNat T), .sl k az (n - 1) (n - 1)], _, ⟨az, rfl, rfl⟩, congrArg (fun z => Value.agg ⟨[.int .i64 (Int.ofNat T), .slice az z (n - 1)]⟩) (show 0 + i = n - 1 by omega), WQ⟩, by (first | (simp only [addL_eq, addL_rec]; omega) | omega | exact Nat.le_refl _)⟩
      · refine call_in (n := 19) Try.func76 rfl rfl rfl rfl rfl rfl rfl ?_
        repeat' ((conv => whnf); first
                 | refine eqS_rfl ?_
                 | refine eqA_rfl ?_
                 | refine eqA_of (by assumption) ?_
                 | refine eqS_of (by rfl) ?_
                 | refine eqL_rfl ?_
                 | refine eqJ_rfl ?_
                 | refine flE_intro (fun _ _ => rfl) ?_
                 | refine seS_rfl ?_
                 | refine lsS_of hup ?_
                 | refine lsS_rfl ?_
                 | refine brS_tt ?_
                 | refine brS_ff ?_
                 | refine brS_not ?_
                 | refine brS_t (iEq_self _) ?_
                 | refine brS_t (by assumption) ?_
                 | refine brS_f (by assumption) ?_
                 | refine brS_intro (fun _ => ?_) (fun _ => ?_)
                 | refine ltS_intro (by first | assumption | decide | exact Nat.le_of_ble_eq_true rfl | omega) ?_
                 | refine ixS_of rfl (by first | assumption | decide | omega) ?_
                 | refine okS_intro (by first | assumption | kernel_rfl) ?_
                 | refine nzS_intro (by first | decide | assumption) ?_
                 | refine ltS_intro (Nat.lt_of_le_of_lt (Nat.mul_le_mul_right _ (show n - 1 ≤ 80 by omega)) (Nat.le_of_ble_eq_true (by kernel_rfl))) ?_
                 | refine brS_f sz1 ?_
                 | refine brS_f sz2 ?_
                 | refine brS_t sz4 ?_
                 | refine brS_f sz4 ?_
                 | refine ixS_of sz5 (by omega) ?_
                 | refine ixS_of ix1 (Nat.succ_lt_succ hi) ?_
                 | refine ixS_of (q := 0) rfl (Nat.succ_pos _) ?_
                 | refine ixS_of rfl (by first | omega | (simp only [Nat.add_eq, Nat.sub_eq, Nat.mul_eq, Nat.succ_eq_add_one]; omega)) ?_
                 | refine ltS_intro (by first | omega | (simp only [Nat.add_eq, Nat.sub_eq, Nat.mul_eq, Nat.succ_eq_add_one]; omega)) ?_
                 | refine emS_z (by first | omega | (simp only [Nat.add_eq, Nat.sub_eq, Nat.mul_eq, Nat.succ_eq_add_one]; omega)) ?_
                 | refine emS_p (by first | omega | (simp only [Nat.add_eq, Nat.sub_eq, Nat.mul_eq, Nat.succ_eq_add_one]; omega)) ?_
                 | refine orS_l (by constructor <;> (first | omega | (simp only [Nat.add_eq, Nat.sub_eq, Nat.mul_eq, Nat.succ_eq_add_one]; omega))) ?_
                 | refine orS_l (by first | omega | (simp only [Nat.add_eq, Nat.sub_eq, Nat.mul_eq, Nat.succ_eq_add_one]; omega)) ?_
                 | refine flE_intro (fun _ _ => rfl) ?_
                 | refine loS_u 3 (by omega) ?_
                 | refine call_in (n := 36) Try.func94 rfl rfl rfl rfl rfl rfl rfl ?_
                 | refine call_in (n := 27) Try.func103 rfl rfl rfl rfl rfl rfl rfl ?_
                 | intro _)
        rename_i az
        conv => whnf
        have hpg : ∀ g0 : Nat → List SV, ∀ j, j < n - 1 → putG (Nat.add 0 i) (Nat.sub n (i + 1)) (fun j => rl (ru (Nat.add (i + 1) j))) (putG 0 i (fun j => rl (ru j)) g0) j = rl (lr ru i j) := fun g0 j hj => by
          unfold lr
          rw [show Nat.add 0 i = i from Nat.zero_add i]
          by_cases hji : j < i
          · rw [if_pos hji, putG_lo hji, putG_all j hji]
          · rw [if_neg hji]
            have := putG_in (p := i) (k := n - (i + 1)) (q := j - i) (h := fun j => rl (ru (Nat.add (i + 1) j))) (g := putG 0 i (fun j => rl (ru j)) g0) (by omega)
            rw [show i + (j - i) = j by omega] at this
            rw [show Nat.sub n (i + 1) = n - (i + 1) from rfl, this]
            show rl (ru (i + 1 + (j - i))) = _
            rw [show i + 1 + (j - i) = j + 1 by omega]
        exact ⟨⟨.agg [.int .i64 (Int.ofNat T), .sl k az (n - 1) (n - 1)], _, ⟨az, rfl, rfl⟩, congrArg (fun z => Value.agg ⟨[.int .i64 (Int.ofNat T), .slice az z (n - 1)]⟩) (show 0 + i + (n - (i + 1)) = n - 1 by omega), WQ⟩, by (first | (simp only [addL_eq, addL_rec]; omega) | omega | exact Nat.le_refl _)⟩
end Go.Proofs.Ytoocmgefoagfnaa
namespace Go.Proofs.Ytoocmgefoagfnaa
open Go.Ab
attribute [local irreducible] aggOk drwOK
set_option maxRecDepth 100000
set_option maxHeartbeats 4000000
set_option linter.unusedVariables false
set_option linter.unusedSimpArgs false
/-- a rule follows from the others: no truth of theirs has both of its cases otherwise -/
def sp (ru : Nat → Nat × Nat) (n T i : Nat) : Bool := !(List.range (2 ^ T)).any fun bits => okR (lr ru i) (n - 1) bits && okG (fun j => if j = 0 then ng (ru i).1 else ng (ru i).2) 2 bits
abbrev spL (ru : Nat → Nat × Nat) (n T k : Nat) : List Nat := (List.range k).filter (sp ru n T)
theorem spL_succ (ru : Nat → Nat × Nat) (n T k : Nat) : spL ru n T (k + 1) = spL ru n T k ++ if sp ru n T k then [k] else [] := by
  unfold spL
  rw [List.range_succ, List.filter_append]
  cases h : sp ru n T k <;> simp [List.filter, h]
theorem spL_pre (ru : Nat → Nat × Nat) (n T : Nat) {i k : Nat} (h : i ≤ k) : ∃ t, spL ru n T k = spL ru n T i ++ t := by
  induction k with
  | zero => rw [show i = 0 by omega]; exact ⟨[], by simp⟩
  | succ k ih =>
    by_cases e : i = k + 1
    · rw [e]; exact ⟨[], by simp⟩
    · obtain ⟨t, ht⟩ := ih (by omega)
      exact ⟨t ++ if sp ru n T k then [k] else [], by rw [spL_succ, ht, List.append_assoc]⟩
theorem spL_len (ru : Nat → Nat × Nat) (n T k : Nat) : (spL ru n T k).length ≤ k := by
  have := List.length_filter_le (sp ru n T) (List.range k)
  rw [List.length_range] at this
  exact this
theorem call76 (q : Nat) {call : CallT} {g : FuncId} {args args0 : List SV} {m0 : Mem} {N T k : Nat} {ru : Nat → Nat × Nat} (h : ∀ R, callS call (.fn g [] []) args0 m0 (addL R N) 0 fun w m' R' _ => (∃ w0 mf, QB q T k ru w0 mf ∧ den w = den w0 ∧ WkM m' mf) ∧ R ≤ R') (R2 : Nat) {m : Mem} {R ni : Nat} {K : SV → Mem → Nat → Nat → Prop} (ha : dens args = dens args0) (hs : SeesM m m0) (hN : R2 + N ≤ R)
    (hK : ∀ a, K (.agg [.int .i64 (Int.ofNat T), .sl q a k k]) ((q, .gr a k 86 4 fun j => rl (ru j)) :: m) R2 ni) : callS call (.fn g [] []) args m R ni K := call40 h R2 ha hs hN hK
theorem call77 {F d T n e c n2 e2 c2 N : Nat} {a a2 : Option Addr} {ru : Nat → Nat × Nat} {mo : Nat → Nat} {bs bm : Nat} {f : Nat → Option SV} {rest : Mem} {P : Bool → Prop}
    (h : ∀ R, callS (CL F (d + 8)) (.fn 77 [] []) [.ptr 900 bs 0, .sl 1001 a2 n2 c2] ([(900, .own bs 100 [.int .i64 (Int.ofNat T), .sl 1000 a n c, .val (.slice none 0 0), .mpv 901 bm]), (901, .mp bm cv f), (1000, roR a n e ru), (1001, roC a2 n2 e2 mo)] ++ rest) (addL R N) 1000 fun w m' R' _ => R ≤ R' ∧ ∃ f' hb, P hb ∧ den w = .bool hb ∧ WkM m' ([(900, .own bs 100 [.int .i64 (Int.ofNat T), .sl 1000 a n c, .val (.slice none 0 0), .mpv 901 bm]), (901, .mp bm cv f'), (1000, roR a n e ru), (1001, roC a2 n2 e2 mo)] ++ rest))
    (R2 : Nat) {args : List SV} {m : Mem} {R ni : Nat} {K : SV → Mem → Nat → Nat → Prop} (ha : dens args = dens [.ptr 900 bs 0, .sl 1001 a2 n2 c2]) (hw : WkM m ([(900, .own bs 100 [.int .i64 (Int.ofNat T), .sl 1000 a n c, .val (.slice none 0 0), .mpv 901 bm]), (901, .mp bm cv f), (1000, roR a n e ru), (1001, roC a2 n2 e2 mo)] ++ rest)) (hN : R2 + N ≤ R)
    (hK : ∀ hb, P hb → K (.bool hb) rest R2 ni) : callS (CL F (d + 8)) (.fn 77 [] []) args m R ni K := by
  refine callS.cast (fv' := .fn 77 [] []) rfl ha ?_
  refine callS.wk hw ?_
  have h1 := h (R - N)
  rw [addL_eq, Nat.sub_add_cancel (by omega)] at h1
  exact call_post h1 fun w m' R' n' ⟨hR, f', hb, hP, e, hw1⟩ => ⟨.bool hb, rest, R2, ni, e, hw1.trans (WkM.sub (by rw [List.map_append]; exact List.sublist_append_right _ _)), by omega, hK hb hP⟩
def QE (i : Nat) (l : List Nat) (w0 : SV) (mf : Mem) : Prop := ∃ a, w0 = .tup [.sl i a l.length l.length, i64 0] ∧ mf = [(i, .gr a l.length 3 1 fun j => [.int .i64 (Int.ofNat (l.getD j 0))])]
theorem c36 (F d i0 : Nat) (T : Nat) (hF : 2 * T + 400 < F) (hT : 1 ≤ T ∧ T ≤ 24) (a : Option Addr) (n c : Nat) (hn : n ≤ 80) (hc : n ≤ c) (ru : Nat → Nat × Nat) (hr : ∀ j, j < n → (ru j).1 < 2 * T ∧ (ru j).2 < 2 * T) (B C : Nat) (hB : 200 * n + 400 ≤ B) (hC : C = B * (2 * T + 1) + 3000) (R : Nat) :
    callS (CL F (d + 9)) (.fn 36 [] []) [bk T a n c] [(1000, roR a n 87 ru)] (addL R (((2 * C + 100) * T + C + 1500) * n + 3000 + 100)) 0 fun w m' R' _ => (∃ w0 mf, QE i0 (spL ru n T n) w0 mf ∧ den w = den w0 ∧ WkM m' mf) ∧ R ≤ R' := by
  have k26 := c26 F (d + 6) T a n 87 c ru (by omega) hT hn hr
  rw [show ((2 * C + 100) * T + C + 1500) * n + 3000 + 100 = (((2 * C + 100) * T + C + 1500) * n + 3000) + 100 from rfl, addL_eq, ← Nat.add_assoc, ← addL_eq _ 100, Nat.add_comm R (((2 * C + 100) * T + C + 1500) * n + 3000)]
  refine call_in (n := 40) Try.func36 rfl rfl rfl rfl rfl rfl rfl ?_
  repeat' ((conv => whnf); first
           | refine eqS_rfl ?_
           | refine eqA_rfl ?_
           | refine eqA_of (by assumption) ?_
           | refine eqS_of (by rfl) ?_
           | refine eqL_rfl ?_
           | refine eqJ_rfl ?_
           | refine flE_intro (fun _ _ => rfl) ?_
           | refine seS_rfl ?_
           | refine lsS_of hup ?_
           | refine lsS_rfl ?_
           | refine brS_tt ?_
           | refine brS_ff ?_
           | refine brS_not ?_
           | refine brS_t (iEq_self _) ?_
           | refine brS_t (by assumption) ?_
           | refine brS_f (by assumption) ?_
           | refine brS_intro (fun _ => ?_) (fun _ => ?_)
           | refine ltS_intro (by first | assumption | decide | exact Nat.le_of_ble_eq_true rfl | omega) ?_
           | refine ixS_of rfl (by first | assumption | decide | omega) ?_
           | refine okS_intro (by first | assumption | kernel_rfl) ?_
           | refine nzS_intro (by first | decide | assumption) ?_
           | refine call_readL k26 (addL (((2 * C + 100) * T + C + 1500) * n + R) 95) (by rfl) (by exact SeesM.cons 1000 (sees_ro (i := 1000) (by rfl)) (SeesM.nil _) (fun _ _ _ _ _ _ x hx => by cases hx)) (by (first | (simp only [addL_eq, addL_rec]; omega) | omega | exact Nat.le_refl _)) ?_
           | intro _)
  rename_i b1
  conv => whnf
  refine loS_i (fun jj f mm R' ni => ∃ (i : Nat) (a1 : Option Addr), i ≤ n ∧ jj = n - i + 1 ∧ f = [(1, .ptr 0 b1 0), (5, .sl 600 a1 (spL ru n T i).length (spL ru n T i).length), (14, .sl 1000 a n c), (15, .int .i64 (Int.ofNat n)), (16, .int .i64 (Int.ofNat i))] ∧ mm = [(600, .gr a1 (spL ru n T i).length 3 1 (fun z => [.int .i64 (Int.ofNat ((spL ru n T n).getD z 0))])), (0, .own b1 24 [.int .i64 (Int.ofNat T), .sl 1000 a n c]), (1000, roR a n 87 ru)] ∧ R' = addL (((2 * C + 100) * T + C + 1500) * (n - i) + R) 60 ∧ ni = 3500) (n + 1) (by omega)
    ⟨[(1, .ptr 0 b1 0), (5, .sl 600 none (spL ru n T 0).length (spL ru n T 0).length), (14, .sl 1000 a n c), (15, .int .i64 (Int.ofNat n)), (16, .int .i64 (Int.ofNat 0))], [(600, .gr none (spL ru n T 0).length 3 1 (fun z => [.int .i64 (Int.ofNat ((spL ru n T n).getD z 0))])), (0, .own b1 24 [.int .i64 (Int.ofNat T), .sl 1000 a n c]), (1000, roR a n 87 ru)], addL (((2 * C + 100) * T + C + 1500) * (n - 0) + R) 60, 3500, ⟨eqF_rfl _, ⟨rfl, rfl⟩, eqF_rfl _, eqF_rfl _, eqF_rfl _, trivial⟩, by exact (WkM.gr0 (WkM.refl _)).trans WS, by rw [Nat.sub_zero]; (first | (simp only [addL_eq, addL_rec]; omega) | omega | exact Nat.le_refl _), 0, none, by omega, by omega, rfl, rfl, rfl, rfl⟩ ?_
  rintro _ _ _ _ _ ⟨i, a1, hi, rfl, rfl, rfl, rfl, rfl⟩
  by_cases hlt : i < n
  · have h1 := iLt_t hlt
    have hb : ((2 * C + 100) * T + C + 1500) * (n - i) = ((2 * C + 100) * T + C + 1500) * (n - (i + 1)) + ((2 * C + 100) * T + C + 1500) := by rw [← Nat.mul_succ]; congr 1; omega
    have k76 := c76 F (d + 4) 910 i (by omega) T a n c hlt hn hc ru
    repeat' ((conv => whnf); first
             | refine eqS_rfl ?_
             | refine eqA_rfl ?_
             | refine eqA_of (by assumption) ?_
             | refine eqS_of (by rfl) ?_
             | refine eqL_rfl ?_
             | refine eqJ_rfl ?_
             | refine flE_intro (fun _ _ => rfl) ?_
             | refine seS_rfl ?_
             | refine lsS_of hup ?_
             | refine lsS_rfl ?_
             | refine brS_tt ?_
             | refine brS_ff ?_
             | refine brS_not ?_
             | refine brS_t (iEq_self _) ?_
             | refine brS_t (by assumption) ?_
             | refine brS_f (by assumption) ?_
             | refine brS_intro (fun _ => ?_) (fun _ => ?_)
             | refine ltS_intro (by first | assumption | decide | exact Nat.le_of_ble_eq_true rfl | omega) ?_
             | refine ixS_of rfl (by first | assumption | decide | omega) ?_
             | refine okS_intro (by first | assumption | kernel_rfl) ?_
             | refine nzS_intro (by first | decide | assumption) ?_
             | refine ltS_intro (by have := lt_of_iLt ‹iLt (Int.ofNat _) (Int.ofNat _) = true›; omega) ?_
             | refine ixS_of rfl (by have := lt_of_iLt ‹iLt (Int.ofNat _) (Int.ofNat _) = true›; omega) ?_
             | refine call76 910 (fun R => k76 R) (addL (((2 * C + 100) * T + C + 1500) * (n - (i + 1)) + ((2 * C + 100) * T + C + 900) + R) 60) (by rfl) (by exact SeesM.cons 1000 (sees_ro (i := 1000) (by rfl)) (SeesM.nil _) (fun _ _ _ _ _ _ x hx => by cases hx)) (by (first | (simp only [addL_eq, addL_rec]; omega) | omega | exact Nat.le_refl _)) ?_
             | refine call_pure (c74 F _ _) ?_
             | refine call_in (n := 11) Try.func67 rfl rfl rfl rfl rfl rfl rfl ?_
             | refine call_in (n := 8) Try.func89 rfl rfl rfl rfl rfl rfl rfl ?_
             | intro _)
    rename_i b4 a9 bx bm bs bq
    have hlr : ∀ j, j < n - 1 → (lr ru i j).1 < 2 * T ∧ (lr ru i j).2 < 2 * T := fun j hj => by unfold lr; split <;> exact hr _ (by omega)
    obtain ⟨mo, hmo⟩ : ∃ mo : Nat → Nat, mo = fun j => if j = 0 then ng (ru i).1 else ng (ru i).2 := ⟨_, rfl⟩
    have hml : ∀ j, j < 2 → mo j < 2 * T := fun j hj => by rw [hmo]; show (if j = 0 then _ else _) < _; split <;> exact ng_lt (by first | exact (hr i hlt).1 | exact (hr i hlt).2)
    have hsl : slL (fun z => cl (mo z)) 2 = dens (cl (ng (ru i).1) ++ cl (ng (ru i).2)) := by rw [hmo]; rfl
    have k77 := fun rest => c77 F d T hF hT.2 a9 (n - 1) 87 (n - 1) (by omega) (lr ru i) hlr (some ⟨bq, 0, none⟩) 2 0 2 mo (by omega) (by omega) hml bs bm (fun _ => none) B C (by omega) hC rest
    conv => whnf
    refine call77 (rest := [(3500, .own b4 86 (rl (ru i)))] ++ [(600, .gr a1 (spL ru n T i).length 3 1 (fun z => [.int .i64 (Int.ofNat ((spL ru n T n).getD z 0))])), (0, .own b1 24 [.int .i64 (Int.ofNat T), .sl 1000 a n c]), (1000, roR a n 87 ru)]) (k77 _) (addL (((2 * C + 100) * T + C + 1500) * (n - (i + 1)) + R) 100) (by rfl) ?_ (by (first | (simp only [addL_eq, addL_rec]; omega) | omega | exact Nat.le_refl _)) ?_
    · exact WO
    intro hb2 hP
    have esp : sp ru n T i = !hb2 := by
      unfold sp
      rw [← hmo]
      congr 1
      cases hb2 with
      | true =>
        obtain ⟨bits, h1, h2, h3⟩ := hP.1 rfl
        refine List.any_eq_true.2 ⟨bits, List.mem_range.2 h1, ?_⟩
        rw [h2, h3]; rfl
      | false =>
        refine List.any_eq_false.2 fun bits h1 h2 => ?_
        rw [List.mem_range] at h1
        rw [Bool.and_eq_true] at h2
        have := hP.2 ⟨bits, h1, h2.1, h2.2⟩
        cases this
    have hLl := spL_len ru n T i
    cases hb2 with
    | true =>
      have hs : spL ru n T (i + 1) = spL ru n T i := by rw [spL_succ, esp]; simp
      repeat' ((conv => whnf); first
               | refine eqS_rfl ?_
               | refine eqA_rfl ?_
               | refine eqA_of (by assumption) ?_
               | refine eqS_of (by rfl) ?_
               | refine eqL_rfl ?_
               | refine eqJ_rfl ?_
               | refine flE_intro (fun _ _ => rfl) ?_
               | refine seS_rfl ?_
               | refine lsS_of hup ?_
               | refine lsS_rfl ?_
               | refine brS_tt ?_
               | refine brS_ff ?_
               | refine brS_not ?_
               | refine brS_t (iEq_self _) ?_
               | refine brS_t (by assumption) ?_
               | refine brS_f (by assumption) ?_
               | refine brS_intro (fun _ => ?_) (fun _ => ?_)
               | refine ltS_intro (by first | assumption | decide | exact Nat.le_of_ble_eq_true rfl | omega) ?_
               | refine ixS_of rfl (by first | assumption | decide | omega) ?_
               | refine okS_intro (by first | assumption | kernel_rfl) ?_
               | refine nzS_intro (by first | decide | assumption) ?_
               | refine ltS_intro (by have := lt_of_iLt ‹iLt (Int.ofNat _) (Int.ofNat _) = true›; omega) ?_
               | refine ixS_of rfl (by have := lt_of_iLt ‹iLt (Int.ofNat _) (Int.ofNat _) = true›; omega) ?_
               | intro _)
      conv => whnf
      exact ⟨n - (i + 1) + 1, [(1, .ptr 0 b1 0), (5, .sl 600 a1 (spL ru n T (i + 1)).length (spL ru n T (i + 1)).length), (14, .sl 1000 a n c), (15, .int .i64 (Int.ofNat n)), (16, .int .i64 (Int.ofNat (i + 1)))], [(600, .gr a1 (spL ru n T (i + 1)).length 3 1 (fun z => [.int .i64 (Int.ofNat ((spL ru n T n).getD z 0))])), (0, .own b1 24 [.int .i64 (Int.ofNat T), .sl 1000 a n c]), (1000, roR a n 87 ru)], addL (((2 * C + 100) * T + C + 1500) * (n - (i + 1)) + R) 60, 3500, by omega, ⟨eqF_rfl _, by rw [hs]; exact eqF_rfl _, eqF_rfl _, eqF_rfl _, ⟨congrArg (Value.int .i64) (smn (i := i + 1) (by omega)), rfl⟩, trivial⟩, by rw [hs]; exact WG, by (first | (simp only [addL_eq, addL_rec]; omega) | omega | exact Nat.le_refl _), i + 1, _, by omega, rfl, rfl, rfl, rfl, rfl⟩
    | false =>
      have hs : spL ru n T (i + 1) = spL ru n T i ++ [i] := by rw [spL_succ, esp]; simp
      have hl : (spL ru n T (i + 1)).length = (spL ru n T i).length + 1 := by rw [hs]; simp
      obtain ⟨t, ht⟩ := spL_pre ru n T (show i + 1 ≤ n by omega)
      have hg2 := grow1 (n := (spL ru n T i).length) (f := fun z => [.int .i64 (Int.ofNat ((spL ru n T n).getD z 0))]) (v := .int .i64 (Int.ofNat i)) (by
        show [SV.int .i64 (Int.ofNat ((spL ru n T n).getD _ 0))] = _
        rw [ht, hs]; simp [List.getD_eq_getElem?_getD, List.getElem?_append_right, List.getElem?_append_left])
      repeat' ((conv => whnf); first
               | refine eqS_rfl ?_
               | refine eqA_rfl ?_
               | refine eqA_of (by assumption) ?_
               | refine eqS_of (by rfl) ?_
               | refine eqL_rfl ?_
               | refine eqJ_rfl ?_
               | refine flE_intro (fun _ _ => rfl) ?_
               | refine seS_rfl ?_
               | refine lsS_of hup ?_
               | refine lsS_rfl ?_
               | refine brS_tt ?_
               | refine brS_ff ?_
               | refine brS_not ?_
               | refine brS_t (iEq_self _) ?_
               | refine brS_t (by assumption) ?_
               | refine brS_f (by assumption) ?_
               | refine brS_intro (fun _ => ?_) (fun _ => ?_)
               | refine ltS_intro (by first | assumption | decide | exact Nat.le_of_ble_eq_true rfl | omega) ?_
               | refine ixS_of rfl (by first | assumption | decide | omega) ?_
               | refine okS_intro (by first | assumption | kernel_rfl) ?_
               | refine nzS_intro (by first | decide | assumption) ?_
               | refine ltS_intro (by have := lt_of_iLt ‹iLt (Int.ofNat _) (Int.ofNat _) = true›; omega) ?_
               | refine ixS_of rfl (by have := lt_of_iLt ‹iLt (Int.ofNat _) (Int.ofNat _) = true›; omega) ?_
               | refine ltS_intro (show (spL ru n T i).length * 1 + 1 < 32769 by omega) ?_
               | intro _)
      rename_i b7 a7
      conv => whnf
      exact ⟨n - (i + 1) + 1, [(1, .ptr 0 b1 0), (5, .sl 600 a7 (spL ru n T (i + 1)).length (spL ru n T (i + 1)).length), (14, .sl 1000 a n c), (15, .int .i64 (Int.ofNat n)), (16, .int .i64 (Int.ofNat (i + 1)))], [(600, .gr a7 (spL ru n T (i + 1)).length 3 1 (fun z => [.int .i64 (Int.ofNat ((spL ru n T n).getD z 0))])), (0, .own b1 24 [.int .i64 (Int.ofNat T), .sl 1000 a n c]), (1000, roR a n 87 ru)], addL (((2 * C + 100) * T + C + 1500) * (n - (i + 1)) + R) 60, 3500, by omega, ⟨eqF_rfl _, by rw [hl]; exact ⟨rfl, rfl⟩, eqF_rfl _, eqF_rfl _, ⟨congrArg (Value.int .i64) (smn (i := i + 1) (by omega)), rfl⟩, trivial⟩, by rw [hl]; exact WG, by (first | (simp only [addL_eq, addL_rec]; omega) | omega | exact Nat.le_refl _), i + 1, _, by omega, rfl, rfl, rfl, rfl, rfl⟩
  · have e2 : i = n := by omega
    subst e2
    have h1 := iLt_f (Nat.le_refl i)
    repeat' ((conv => whnf); first
             | refine eqS_rfl ?_
             | refine eqA_rfl ?_
             | refine eqA_of (by assumption) ?_
             | refine eqS_of (by rfl) ?_
             | refine eqL_rfl ?_
             | refine eqJ_rfl ?_
             | refine flE_intro (fun _ _ => rfl) ?_
             | refine seS_rfl ?_
             | refine lsS_of hup ?_
             | refine lsS_rfl ?_
             | refine brS_tt ?_
             | refine brS_ff ?_
             | refine brS_not ?_
             | refine brS_t (iEq_self _) ?_
             | refine brS_t (by assumption) ?_
             | refine brS_f (by assumption) ?_
             | refine brS_intro (fun _ => ?_) (fun _ => ?_)
             | refine ltS_intro (by first | assumption | decide | exact Nat.le_of_ble_eq_true rfl | omega) ?_
             | refine ixS_of rfl (by first | assumption | decide | omega) ?_
             | refine okS_intro (by first | assumption | kernel_rfl) ?_
             | refine nzS_intro (by first | decide | assumption) ?_
             | intro _)
    conv => whnf
    exact ⟨⟨_, _, ⟨a1, rfl, rfl⟩, rfl, WS⟩, by (first | (simp only [addL_eq, addL_rec]; omega) | omega | exact Nat.le_refl _)⟩
end Go.Proofs.Ytoocmgefoagfnaa
namespace Go.Proofs.Ytoocmgefoagfnaa
open Go.Ab
attribute [local irreducible] aggOk drwOK
set_option maxRecDepth 100000
set_option maxHeartbeats 4000000
set_option linter.unusedVariables false
set_option linter.unusedSimpArgs false
theorem WX {m m' : Mem} (h : WkM m m' := by refine Sel.wk ?_; (try simp only [List.cons_append, List.nil_append]); repeat' (first | exact Sel.nil | exact Sel.all | exact Sel.left | refine Sel.cons Pick.here ?_ | refine Sel.cons (Pick.there Pick.here) ?_ | refine Sel.cons (Pick.there (Pick.there Pick.here)) ?_ | refine Sel.cons (Pick.there (Pick.there (Pick.there Pick.here))) ?_ | refine Sel.cons (Pick.there (Pick.there (Pick.there (Pick.there Pick.here)))) ?_ | refine Sel.cons (Pick.there (Pick.there (Pick.there (Pick.there (Pick.there Pick.here))))) ?_ | refine Sel.cons (Pick.there (Pick.there (Pick.there (Pick.there (Pick.there (Pick.there Pick.here)))))) ?_ | refine Sel.cons (Pick.there (Pick.there (Pick.there (Pick.there (Pick.there (Pick.there (Pick.there Pick.here))))))) ?_ | refine Sel.cons (Pick.there (Pick.there (Pick.there (Pick.there (Pick.there (Pick.there (Pick.there (Pick.there Pick.here)))))))) ?_ | refine Sel.cons (Pick.there (Pick.there (Pick.there (Pick.there (Pick.there (Pick.there (Pick.there (Pick.there (Pick.there Pick.here))))))))) ?_ | refine Sel.cons (Pick.there (Pick.there (Pick.there (Pick.there (Pick.there (Pick.there (Pick.there (Pick.there (Pick.there (Pick.there Pick.here)))))))))) ?_ | refine Sel.cons (Pick.there (Pick.there (Pick.there (Pick.there (Pick.there (Pick.there (Pick.there (Pick.there (Pick.there (Pick.there (Pick.there Pick.here))))))))))) ?_ | refine Sel.cons (Pick.there (Pick.there (Pick.there (Pick.there (Pick.there (Pick.there (Pick.there (Pick.there (Pick.there (Pick.there (Pick.there (Pick.there Pick.here)))))))))))) ?_ | refine Sel.cons (Pick.there (Pick.there (Pick.there (Pick.there (Pick.there (Pick.there (Pick.there (Pick.there (Pick.there (Pick.there (Pick.there (Pick.there (Pick.there Pick.here))))))))))))) ?_ | refine Sel.cons (Pick.there (Pick.there (Pick.there (Pick.there (Pick.there (Pick.there (Pick.there (Pick.there (Pick.there (Pick.there (Pick.there (Pick.there (Pick.there (Pick.there Pick.here)))))))))))))) ?_ | refine Sel.cons (Pick.there (Pick.there (Pick.there (Pick.there (Pick.there (Pick.there (Pick.there (Pick.there (Pick.there (Pick.there (Pick.there (Pick.there (Pick.there (Pick.there (Pick.there Pick.here))))))))))))))) ?_ | refine Sel.consw Pick.here ⟨rfl, rfl, rfl⟩ ?_ | refine Sel.consw (Pick.there Pick.here) ⟨rfl, rfl, rfl⟩ ?_ | refine Sel.consw (Pick.there (Pick.there Pick.here)) ⟨rfl, rfl, rfl⟩ ?_ | refine Sel.consw (Pick.there (Pick.there (Pick.there Pick.here))) ⟨rfl, rfl, rfl⟩ ?_ | refine Sel.consw (Pick.there (Pick.there (Pick.there (Pick.there Pick.here)))) ⟨rfl, rfl, rfl⟩ ?_ | refine Sel.consw (Pick.there (Pick.there (Pick.there (Pick.there (Pick.there Pick.here))))) ⟨rfl, rfl, rfl⟩ ?_ | refine Sel.consw (Pick.there (Pick.there (Pick.there (Pick.there (Pick.there (Pick.there Pick.here)))))) ⟨rfl, rfl, rfl⟩ ?_ | refine Sel.consw (Pick.there (Pick.there (Pick.there (Pick.there (Pick.there (Pick.there (Pick.there Pick.here))))))) ⟨rfl, rfl, rfl⟩ ?_ | refine Sel.consw (Pick.there (Pick.there (Pick.there (Pick.there (Pick.there (Pick.there (Pick.there (Pick.there Pick.here)))))))) ⟨rfl, rfl, rfl⟩ ?_ | refine Sel.consw (Pick.there (Pick.there (Pick.there (Pick.there (Pick.there (Pick.there (Pick.there (Pick.there (Pick.there Pick.here))))))))) ⟨rfl, rfl, rfl⟩ ?_ | refine Sel.consw (Pick.there (Pick.there (Pick.there (Pick.there (Pick.there (Pick.there (Pick.there (Pick.there (Pick.there (Pick.there Pick.here)))))))))) ⟨rfl, rfl, rfl⟩ ?_ | refine Sel.consw (Pick.there (Pick.there (Pick.there (Pick.there (Pick.there (Pick.there (Pick.there (Pick.there (Pick.there (Pick.there (Pick.there Pick.here))))))))))) ⟨rfl, rfl, rfl⟩ ?_ | refine Sel.consw (Pick.there (Pick.there (Pick.there (Pick.there (Pick.there (Pick.there (Pick.there (Pick.there (Pick.there (Pick.there (Pick.there (Pick.there Pick.here)))))))))))) ⟨rfl, rfl, rfl⟩ ?_ | refine Sel.consw (Pick.there (Pick.there (Pick.there (Pick.there (Pick.there (Pick.there (Pick.there (Pick.there (Pick.there (Pick.there (Pick.there (Pick.there (Pick.there Pick.here))))))))))))) ⟨rfl, rfl, rfl⟩ ?_ | refine Sel.consw (Pick.there (Pick.there (Pick.there (Pick.there (Pick.there (Pick.there (Pick.there (Pick.there (Pick.there (Pick.there (Pick.there (Pick.there (Pick.there (Pick.there Pick.here)))))))))))))) ⟨rfl, rfl, rfl⟩ ?_ | refine Sel.consw (Pick.there (Pick.there (Pick.there (Pick.there (Pick.there (Pick.there (Pick.there (Pick.there (Pick.there (Pick.there (Pick.there (Pick.there (Pick.there (Pick.there (Pick.there Pick.here))))))))))))))) ⟨rfl, rfl, rfl⟩ ?_ | refine Sel.consw Pick.here ⟨rfl, rfl, rfl, rfl, by assumption⟩ ?_ | refine Sel.consw (Pick.there Pick.here) ⟨rfl, rfl, rfl, rfl, by assumption⟩ ?_ | refine Sel.consw (Pick.there (Pick.there Pick.here)) ⟨rfl, rfl, rfl, rfl, by assumption⟩ ?_ | refine Sel.consw (Pick.there (Pick.there (Pick.there Pick.here))) ⟨rfl, rfl, rfl, rfl, by assumption⟩ ?_ | refine Sel.consw (Pick.there (Pick.there (Pick.there (Pick.there Pick.here)))) ⟨rfl, rfl, rfl, rfl, by assumption⟩ ?_ | refine Sel.consw (Pick.there (Pick.there (Pick.there (Pick.there (Pick.there Pick.here))))) ⟨rfl, rfl, rfl, rfl, by assumption⟩ ?_ | refine Sel.consw (Pick.there (Pick.there (Pick.there (Pick.there (Pick.there (Pick.there Pick.here)))))) ⟨rfl, rfl, rfl, rfl, by assumption⟩ ?_ | refine Sel.consw (Pick.there (Pick.there (Pick.there (Pick.there (Pick.there (Pick.there (Pick.there Pick.here))))))) ⟨rfl, rfl, rfl, rfl, by assumption⟩ ?_ | refine Sel.consw (Pick.there (Pick.there (Pick.there (Pick.there (Pick.there (Pick.there (Pick.there (Pick.there Pick.here)))))))) ⟨rfl, rfl, rfl, rfl, by assumption⟩ ?_ | refine Sel.consw (Pick.there (Pick.there (Pick.there (Pick.there (Pick.there (Pick.there (Pick.there (Pick.there (Pick.there Pick.here))))))))) ⟨rfl, rfl, rfl, rfl, by assumption⟩ ?_ | refine Sel.consw (Pick.there (Pick.there (Pick.there (Pick.there (Pick.there (Pick.there (Pick.there (Pick.there (Pick.there (Pick.there Pick.here)))))))))) ⟨rfl, rfl, rfl, rfl, by assumption⟩ ?_ | refine Sel.consw (Pick.there (Pick.there (Pick.there (Pick.there (Pick.there (Pick.there (Pick.there (Pick.there (Pick.there (Pick.there (Pick.there Pick.here))))))))))) ⟨rfl, rfl, rfl, rfl, by assumption⟩ ?_ | refine Sel.consw (Pick.there (Pick.there (Pick.there (Pick.there (Pick.there (Pick.there (Pick.there (Pick.there (Pick.there (Pick.there (Pick.there (Pick.there Pick.here)))))))))))) ⟨rfl, rfl, rfl, rfl, by assumption⟩ ?_ | refine Sel.consw (Pick.there (Pick.there (Pick.there (Pick.there (Pick.there (Pick.there (Pick.there (Pick.there (Pick.there (Pick.there (Pick.there (Pick.there (Pick.there Pick.here))))))))))))) ⟨rfl, rfl, rfl, rfl, by assumption⟩ ?_ | refine Sel.consw (Pick.there (Pick.there (Pick.there (Pick.there (Pick.there (Pick.there (Pick.there (Pick.there (Pick.there (Pick.there (Pick.there (Pick.there (Pick.there (Pick.there Pick.here)))))))))))))) ⟨rfl, rfl, rfl, rfl, by assumption⟩ ?_ | refine Sel.consw (Pick.there (Pick.there (Pick.there (Pick.there (Pick.there (Pick.there (Pick.there (Pick.there (Pick.there (Pick.there (Pick.there (Pick.there (Pick.there (Pick.there (Pick.there Pick.here))))))))))))))) ⟨rfl, rfl, rfl, rfl, by assumption⟩ ?_ | refine Sel.consw Pick.here ⟨rfl, rfl, rfl, .inl rfl, fun _ _ => rfl⟩ ?_ | refine Sel.consw (Pick.there Pick.here) ⟨rfl, rfl, rfl, .inl rfl, fun _ _ => rfl⟩ ?_ | refine Sel.consw (Pick.there (Pick.there Pick.here)) ⟨rfl, rfl, rfl, .inl rfl, fun _ _ => rfl⟩ ?_ | refine Sel.consw (Pick.there (Pick.there (Pick.there Pick.here))) ⟨rfl, rfl, rfl, .inl rfl, fun _ _ => rfl⟩ ?_ | refine Sel.consw (Pick.there (Pick.there (Pick.there (Pick.there Pick.here)))) ⟨rfl, rfl, rfl, .inl rfl, fun _ _ => rfl⟩ ?_ | refine Sel.consw (Pick.there (Pick.there (Pick.there (Pick.there (Pick.there Pick.here))))) ⟨rfl, rfl, rfl, .inl rfl, fun _ _ => rfl⟩ ?_ | refine Sel.consw (Pick.there (Pick.there (Pick.there (Pick.there (Pick.there (Pick.there Pick.here)))))) ⟨rfl, rfl, rfl, .inl rfl, fun _ _ => rfl⟩ ?_ | refine Sel.consw (Pick.there (Pick.there (Pick.there (Pick.there (Pick.there (Pick.there (Pick.there Pick.here))))))) ⟨rfl, rfl, rfl, .inl rfl, fun _ _ => rfl⟩ ?_ | refine Sel.consw (Pick.there (Pick.there (Pick.there (Pick.there (Pick.there (Pick.there (Pick.there (Pick.there Pick.here)))))))) ⟨rfl, rfl, rfl, .inl rfl, fun _ _ => rfl⟩ ?_ | refine Sel.consw (Pick.there (Pick.there (Pick.there (Pick.there (Pick.there (Pick.there (Pick.there (Pick.there (Pick.there Pick.here))))))))) ⟨rfl, rfl, rfl, .inl rfl, fun _ _ => rfl⟩ ?_ | refine Sel.consw (Pick.there (Pick.there (Pick.there (Pick.there (Pick.there (Pick.there (Pick.there (Pick.there (Pick.there (Pick.there Pick.here)))))))))) ⟨rfl, rfl, rfl, .inl rfl, fun _ _ => rfl⟩ ?_ | refine Sel.consw (Pick.there (Pick.there (Pick.there (Pick.there (Pick.there (Pick.there (Pick.there (Pick.there (Pick.there (Pick.there (Pick.there Pick.here))))))))))) ⟨rfl, rfl, rfl, .inl rfl, fun _ _ => rfl⟩ ?_ | refine Sel.consw (Pick.there (Pick.there (Pick.there (Pick.there (Pick.there (Pick.there (Pick.there (Pick.there (Pick.there (Pick.there (Pick.there (Pick.there Pick.here)))))))))))) ⟨rfl, rfl, rfl, .inl rfl, fun _ _ => rfl⟩ ?_ | refine Sel.consw (Pick.there (Pick.there (Pick.there (Pick.there (Pick.there (Pick.there (Pick.there (Pick.there (Pick.there (Pick.there (Pick.there (Pick.there (Pick.there Pick.here))))))))))))) ⟨rfl, rfl, rfl, .inl rfl, fun _ _ => rfl⟩ ?_ | refine Sel.consw (Pick.there (Pick.there (Pick.there (Pick.there (Pick.there (Pick.there (Pick.there (Pick.there (Pick.there (Pick.there (Pick.there (Pick.there (Pick.there (Pick.there Pick.here)))))))))))))) ⟨rfl, rfl, rfl, .inl rfl, fun _ _ => rfl⟩ ?_ | refine Sel.consw (Pick.there (Pick.there (Pick.there (Pick.there (Pick.there (Pick.there (Pick.there (Pick.there (Pick.there (Pick.there (Pick.there (Pick.there (Pick.there (Pick.there (Pick.there Pick.here))))))))))))))) ⟨rfl, rfl, rfl, .inl rfl, fun _ _ => rfl⟩ ?_ | refine Sel.consw Pick.here ⟨rfl, rfl, rfl, .inr rfl, fun _ _ => rfl⟩ ?_ | refine Sel.consw (Pick.there Pick.here) ⟨rfl, rfl, rfl, .inr rfl, fun _ _ => rfl⟩ ?_ | refine Sel.consw (Pick.there (Pick.there Pick.here)) ⟨rfl, rfl, rfl, .inr rfl, fun _ _ => rfl⟩ ?_ | refine Sel.consw (Pick.there (Pick.there (Pick.there Pick.here))) ⟨rfl, rfl, rfl, .inr rfl, fun _ _ => rfl⟩ ?_ | refine Sel.consw (Pick.there (Pick.there (Pick.there (Pick.there Pick.here)))) ⟨rfl, rfl, rfl, .inr rfl, fun _ _ => rfl⟩ ?_ | refine Sel.consw (Pick.there (Pick.there (Pick.there (Pick.there (Pick.there Pick.here))))) ⟨rfl, rfl, rfl, .inr rfl, fun _ _ => rfl⟩ ?_ | refine Sel.consw (Pick.there (Pick.there (Pick.there (Pick.there (Pick.there (Pick.there Pick.here)))))) ⟨rfl, rfl, rfl, .inr rfl, fun _ _ => rfl⟩ ?_ | refine Sel.consw (Pick.there (Pick.there (Pick.there (Pick.there (Pick.there (Pick.there (Pick.there Pick.here))))))) ⟨rfl, rfl, rfl, .inr rfl, fun _ _ => rfl⟩ ?_ | refine Sel.consw (Pick.there (Pick.there (Pick.there (Pick.there (Pick.there (Pick.there (Pick.there (Pick.there Pick.here)))))))) ⟨rfl, rfl, rfl, .inr rfl, fun _ _ => rfl⟩ ?_ | refine Sel.consw (Pick.there (Pick.there (Pick.there (Pick.there (Pick.there (Pick.there (Pick.there (Pick.there (Pick.there Pick.here))))))))) ⟨rfl, rfl, rfl, .inr rfl, fun _ _ => rfl⟩ ?_ | refine Sel.consw (Pick.there (Pick.there (Pick.there (Pick.there (Pick.there (Pick.there (Pick.there (Pick.there (Pick.there (Pick.there Pick.here)))))))))) ⟨rfl, rfl, rfl, .inr rfl, fun _ _ => rfl⟩ ?_ | refine Sel.consw (Pick.there (Pick.there (Pick.there (Pick.there (Pick.there (Pick.there (Pick.there (Pick.there (Pick.there (Pick.there (Pick.there Pick.here))))))))))) ⟨rfl, rfl, rfl, .inr rfl, fun _ _ => rfl⟩ ?_ | refine Sel.consw (Pick.there (Pick.there (Pick.there (Pick.there (Pick.there (Pick.there (Pick.there (Pick.there (Pick.there (Pick.there (Pick.there (Pick.there Pick.here)))))))))))) ⟨rfl, rfl, rfl, .inr rfl, fun _ _ => rfl⟩ ?_ | refine Sel.consw (Pick.there (Pick.there (Pick.there (Pick.there (Pick.there (Pick.there (Pick.there (Pick.there (Pick.there (Pick.there (Pick.there (Pick.there (Pick.there Pick.here))))))))))))) ⟨rfl, rfl, rfl, .inr rfl, fun _ _ => rfl⟩ ?_ | refine Sel.consw (Pick.there (Pick.there (Pick.there (Pick.there (Pick.there (Pick.there (Pick.there (Pick.there (Pick.there (Pick.there (Pick.there (Pick.there (Pick.there (Pick.there Pick.here)))))))))))))) ⟨rfl, rfl, rfl, .inr rfl, fun _ _ => rfl⟩ ?_ | refine Sel.consw (Pick.there (Pick.there (Pick.there (Pick.there (Pick.there (Pick.there (Pick.there (Pick.there (Pick.there (Pick.there (Pick.there (Pick.there (Pick.there (Pick.there (Pick.there Pick.here))))))))))))))) ⟨rfl, rfl, rfl, .inr rfl, fun _ _ => rfl⟩ ?_ | refine Sel.consw Pick.here ⟨rfl, .inl ⟨rfl, by assumption⟩⟩ ?_ | refine Sel.consw (Pick.there Pick.here) ⟨rfl, .inl ⟨rfl, by assumption⟩⟩ ?_ | refine Sel.consw (Pick.there (Pick.there Pick.here)) ⟨rfl, .inl ⟨rfl, by assumption⟩⟩ ?_ | refine Sel.consw (Pick.there (Pick.there (Pick.there Pick.here))) ⟨rfl, .inl ⟨rfl, by assumption⟩⟩ ?_ | refine Sel.consw (Pick.there (Pick.there (Pick.there (Pick.there Pick.here)))) ⟨rfl, .inl ⟨rfl, by assumption⟩⟩ ?_ | refine Sel.consw (Pick.there (Pick.there (Pick.there (Pick.there (Pick.there Pick.here))))) ⟨rfl, .inl ⟨rfl, by assumption⟩⟩ ?_ | refine Sel.consw (Pick.there (Pick.there (Pick.there (Pick.there (Pick.there (Pick.there Pick.here)))))) ⟨rfl, .inl ⟨rfl, by assumption⟩⟩ ?_ | refine Sel.consw (Pick.there (Pick.there (Pick.there (Pick.there (Pick.there (Pick.there (Pick.there Pick.here))))))) ⟨rfl, .inl ⟨rfl, by assumption⟩⟩ ?_ | refine Sel.consw Pick.here ⟨rfl, .inr ⟨fun _ => rfl, fun _ => rfl⟩⟩ ?_ | refine Sel.consw (Pick.there Pick.here) ⟨rfl, .inr ⟨fun _ => rfl, fun _ => rfl⟩⟩ ?_ | refine Sel.consw (Pick.there (Pick.there Pick.here)) ⟨rfl, .inr ⟨fun _ => rfl, fun _ => rfl⟩⟩ ?_ | refine Sel.consw (Pick.there (Pick.there (Pick.there Pick.here))) ⟨rfl, .inr ⟨fun _ => rfl, fun _ => rfl⟩⟩ ?_ | refine Sel.consw (Pick.there (Pick.there (Pick.there (Pick.there Pick.here)))) ⟨rfl, .inr ⟨fun _ => rfl, fun _ => rfl⟩⟩ ?_ | refine Sel.consw (Pick.there (Pick.there (Pick.there (Pick.there (Pick.there Pick.here))))) ⟨rfl, .inr ⟨fun _ => rfl, fun _ => rfl⟩⟩ ?_ | refine Sel.consw (Pick.there (Pick.there (Pick.there (Pick.there (Pick.there (Pick.there Pick.here)))))) ⟨rfl, .inr ⟨fun _ => rfl, fun _ => rfl⟩⟩ ?_ | refine Sel.consw (Pick.there (Pick.there (Pick.there (Pick.there (Pick.there (Pick.there (Pick.there Pick.here))))))) ⟨rfl, .inr ⟨fun _ => rfl, fun _ => rfl⟩⟩ ?_ | refine Sel.consw Pick.here ⟨rfl, hkl, rfl, rfl, hpg⟩ ?_ | refine Sel.consw (Pick.there Pick.here) ⟨rfl, hkl, rfl, rfl, hpg⟩ ?_ | refine Sel.consw (Pick.there (Pick.there Pick.here)) ⟨rfl, hkl, rfl, rfl, hpg⟩ ?_ | refine Sel.consw (Pick.there (Pick.there (Pick.there Pick.here))) ⟨rfl, hkl, rfl, rfl, hpg⟩ ?_ | refine Sel.consw (Pick.there (Pick.there (Pick.there (Pick.there Pick.here)))) ⟨rfl, hkl, rfl, rfl, hpg⟩ ?_ | refine Sel.consw (Pick.there (Pick.there (Pick.there (Pick.there (Pick.there Pick.here))))) ⟨rfl, hkl, rfl, rfl, hpg⟩ ?_ | refine Sel.snoc Pick.here ?_ | refine Sel.snoc (Pick.there Pick.here) ?_ | refine Sel.snoc (Pick.there (Pick.there Pick.here)) ?_ | refine Sel.snoc (Pick.there (Pick.there (Pick.there Pick.here))) ?_ | refine Sel.snoc (Pick.there (Pick.there (Pick.there (Pick.there Pick.here)))) ?_ | refine Sel.snoc (Pick.there (Pick.there (Pick.there (Pick.there (Pick.there Pick.here))))) ?_ | refine Sel.snoc (Pick.there (Pick.there (Pick.there (Pick.there (Pick.there (Pick.there Pick.here)))))) ?_ | refine Sel.snoc (Pick.there (Pick.there (Pick.there (Pick.there (Pick.there (Pick.there (Pick.there Pick.here))))))) ?_ | refine Sel.snoc (Pick.there (Pick.there (Pick.there (Pick.there (Pick.there (Pick.there (Pick.there (Pick.there Pick.here)))))))) ?_ | refine Sel.snoc (Pick.there (Pick.there (Pick.there (Pick.there (Pick.there (Pick.there (Pick.there (Pick.there (Pick.there Pick.here))))))))) ?_ | refine Sel.snoc (Pick.there (Pick.there (Pick.there (Pick.there (Pick.there (Pick.there (Pick.there (Pick.there (Pick.there (Pick.there Pick.here)))))))))) ?_ | refine Sel.snoc (Pick.there (Pick.there (Pick.there (Pick.there (Pick.there (Pick.there (Pick.there (Pick.there (Pick.there (Pick.there (Pick.there Pick.here))))))))))) ?_ | refine Sel.snoc (Pick.there (Pick.there (Pick.there (Pick.there (Pick.there (Pick.there (Pick.there (Pick.there (Pick.there (Pick.there (Pick.there (Pick.there Pick.here)))))))))))) ?_ | refine Sel.snoc (Pick.there (Pick.there (Pick.there (Pick.there (Pick.there (Pick.there (Pick.there (Pick.there (Pick.there (Pick.there (Pick.there (Pick.there (Pick.there Pick.here))))))))))))) ?_ | refine Sel.snoc (Pick.there (Pick.there (Pick.there (Pick.there (Pick.there (Pick.there (Pick.there (Pick.there (Pick.there (Pick.there (Pick.there (Pick.there (Pick.there (Pick.there Pick.here)))))))))))))) ?_ | refine Sel.snoc (Pick.there (Pick.there (Pick.there (Pick.there (Pick.there (Pick.there (Pick.there (Pick.there (Pick.there (Pick.there (Pick.there (Pick.there (Pick.there (Pick.there (Pick.there Pick.here))))))))))))))) ?_ | refine Sel.drop ?_)) : WkM m m' := h
theorem call36 {call : CallT} {g : FuncId} {args args0 : List SV} {m0 : Mem} {N i : Nat} {l : List Nat} (h : ∀ R, callS call (.fn g [] []) args0 m0 (addL R N) 0 fun w m' R' _ => (∃ w0 mf, QE i l w0 mf ∧ den w = den w0 ∧ WkM m' mf) ∧ R ≤ R') (R2 : Nat) {m : Mem} {R ni : Nat} {K : SV → Mem → Nat → Nat → Prop} (ha : dens args = dens args0) (hs : SeesM m m0) (hN : R2 + N ≤ R)
    (hK : ∀ a, K (.tup [.sl i a l.length l.length, i64 0]) ((i, .gr a l.length 3 1 fun j => [.int .i64 (Int.ofNat (l.getD j 0))]) :: m) R2 ni) : callS call (.fn g [] []) args m R ni K := by
  refine call_freshL (QE i l) h ?_ R2 ha hs hN ?_
  · rintro _ _ ⟨a1, rfl, rfl⟩ x hx
    rw [List.mem_singleton.1 hx]; exact ⟨_, _, _, _, _, rfl⟩
  · rintro _ _ ⟨a1, rfl, rfl⟩
    exact hK a1
theorem filt_len {l : List Nat} {p q : Nat → Bool} (h : ∀ x, q x = true → p x = true) : ((l.filter p).length = (l.filter q).length) ↔ ∀ x ∈ l, p x = q x := by
  induction l with
  | nil => simp
  | cons a l ih =>
    have hle : (l.filter q).length ≤ (l.filter p).length := by
      rw [← List.countP_eq_length_filter, ← List.countP_eq_length_filter]
      exact List.countP_mono_left fun x _ hx => h x hx
    simp only [List.filter_cons, List.mem_cons, forall_eq_or_imp]
    cases hp : p a <;> cases hq : q a
    · simpa using ih
    · have := h a hq; rw [hp] at this; cases this
    · simp only [if_true, List.length_cons]
      constructor
      · intro h2
        exfalso
        have : (l.filter p).length + 1 = (l.filter q).length := by simpa using h2
        omega
      · intro h2; exact absurd h2.1 (by simp)
    · simpa using ih
/-- the rules, by the others and one of them -/
theorem okR_lr {ru : Nat → Nat × Nat} {k i bits : Nat} (hi : i < k) : okR ru k bits = (okR (lr ru i) (k - 1) bits && (trB bits (ru i).1 || trB bits (ru i).2)) := by
  rw [Bool.eq_iff_iff, Bool.and_eq_true]
  unfold okR
  rw [List.all_eq_true, List.all_eq_true]
  constructor
  · intro h
    refine ⟨fun j hj => ?_, h i (List.mem_range.2 hi)⟩
    have hj2 := List.mem_range.1 hj
    unfold lr
    split
    · exact h j (List.mem_range.2 (by omega))
    · exact h (j + 1) (List.mem_range.2 (by omega))
  · rintro ⟨h, h2⟩ j hj
    have hj2 := List.mem_range.1 hj
    by_cases e : j = i
    · rw [e]; exact h2
    · by_cases e2 : j < i
      · have := h j (List.mem_range.2 (by omega))
        unfold lr at this
        rw [if_pos e2] at this
        exact this
      · have := h (j - 1) (List.mem_range.2 (by omega))
        unfold lr at this
        rw [if_neg (by omega), show j - 1 + 1 = j by omega] at this
        exact this
abbrev gz : Nat → Nat := fun _ => 0
theorem spare_iff {ru : Nat → Nat × Nat} {k T i : Nat} (hi : i < k) : ((trL (lr ru i) (k - 1) gz 0 (2 ^ T)).length = (trL ru k gz 0 (2 ^ T)).length) ↔ sp ru k T i = true := by
  unfold trL
  rw [filt_len]
  · unfold sp
    rw [Bool.not_eq_true', List.any_eq_false]
    refine forall_congr' fun bits => forall_congr' fun _ => ?_
    have eg : ∀ gv, okG gv 0 bits = true := fun gv => by unfold okG; simp
    have e2 : okG (fun j => if j = 0 then ng (ru i).1 else ng (ru i).2) 2 bits = !(trB bits (ru i).1 || trB bits (ru i).2) := by
      rw [okG_succ, okG_succ, eg, Bool.true_and]
      show (trB bits (ng (ru i).1) && trB bits (ng (ru i).2)) = _
      rw [trB_ng, trB_ng, Bool.not_or]
    rw [eg, Bool.and_true, Bool.and_true, okR_lr hi, e2]
    cases okR (lr ru i) (k - 1) bits <;> cases (trB bits (ru i).1 || trB bits (ru i).2) <;> simp
  · intro bits h
    rw [okR_lr hi] at h
    rw [Bool.and_eq_true, Bool.and_eq_true] at h
    rw [Bool.and_eq_true]
    exact ⟨h.1.1, h.2⟩
theorem ltS_2 {p q s b : Nat} {K : Prop} (hs : s = 4) (h : p * 4 + q * 4 < b) (k : K) : ltS (Nat.add (Nat.mul p s) (Nat.mul q s)) b K := by subst hs; exact ltS_intro h k
theorem ltS_1 {p s b : Nat} {K : Prop} (hs : s = 4) (h : p * 4 < b) (k : K) : ltS (Nat.mul p s) b K := by subst hs; exact ltS_intro h k
theorem seS_sb {i b p b' p' j sz n c : Nat} {a : Option Addr} {K : Prop} (h1 : a = some ⟨b, p, none⟩) (h2 : a = some ⟨b', p', none⟩) (h : K) : seS (.sb i b p j sz n c) (.sb i b' p' j sz n c) K := by
  rw [h1] at h2; cases h2; exact ⟨rfl, h⟩
/-- whose turn it is among what Spare answers -/
theorem spL_at {ru : Nat → Nat × Nat} {n T k i : Nat} (hi : i < k) : ((spL ru n T i).length < (spL ru n T k).length ∧ (spL ru n T k).getD (spL ru n T i).length 0 = i) ↔ sp ru n T i = true := by
  obtain ⟨t, ht⟩ := spL_pre ru n T (show i + 1 ≤ k by omega)
  constructor
  · rintro ⟨h1, h2⟩
    have h3 : (spL ru n T k).getD (spL ru n T i).length 0 ∈ spL ru n T k := by
      rw [List.getD_eq_getElem?_getD, List.getElem?_eq_getElem h1]
      exact List.getElem_mem h1
    rw [h2] at h3
    exact (List.mem_filter.1 h3).2
  · intro h
    rw [spL_succ, h] at ht
    rw [ht]
    simp
theorem l12 (F d : Nat) (hF : 500 < F) (x0 : Nat) (hx : x0 < 256) (a : Option Addr) (n c : Nat) (o0 o1 : Nat → Nat) (h0 : ∀ j, o0 j < 256) (h1 : ∀ j, o1 j < 256) : ReadC (CL F (d + 10)) 12 [.agg [.int .u8 (Int.ofNat x0), .sl 1000 a n c]] [(1000, .ro a n 0 2 fun j => [.int .u8 (Int.ofNat (o0 j)), .int .u8 (Int.ofNat (o1 j))])] (3200000 + 100) (.bool true) := by
  obtain ⟨T, hT⟩ : ∃ T, T = 1 + x0 % 5 := ⟨_, rfl⟩
  obtain ⟨k, hk⟩ : ∃ k, k = min n 9 := ⟨_, rfl⟩
  have hT0 : T ≠ 0 := by omega
  have hT5 : T ≤ 5 := by omega
  have hk9 : k ≤ 9 := by omega
  have hr := fun j (_ : j < k) => ofr_lt hT0 o0 o1 j
  have hK : 2 ^ T ≤ 2 ^ 5 := Nat.pow_le_pow_right (by decide) hT5
  have hB : 500 * 2 ^ T ≤ 500 * 2 ^ 5 := Nat.mul_le_mul_left _ hK
  obtain ⟨C, hC⟩ : ∃ C, C = 2200 * (2 * T + 1) + 3000 := ⟨_, rfl⟩
  obtain ⟨Z, hZ⟩ : ∃ Z, Z = ((2 * C + 100) * T + C + 1500) * k := ⟨_, rfl⟩
  have hZ2 : Z ≤ 2710800 := by
    rw [hZ]
    have e1 : (2 * C + 100) * T ≤ 54500 * 5 := Nat.mul_le_mul (by omega) hT5
    exact Nat.mul_le_mul (show _ ≤ 301200 by omega) hk9
  have k36 : ∀ a R, callS (CL F (d + 9)) (.fn 36 [] []) [bk T a k k] [(1000, roR a k 87 (ofr T o0 o1))] (addL R (Z + 3000 + 100)) 0 fun w m' R' _ => (∃ w0 mf, QE 700 (spL (ofr T o0 o1) k T k) w0 mf ∧ den w = den w0 ∧ WkM m' mf) ∧ R ≤ R' := fun a R => by
    rw [hZ]
    exact c36 F d 700 T (by omega) ⟨by omega, by omega⟩ a k k (by omega) (Nat.le_refl _) (ofr T o0 o1) hr 2200 C (by omega) hC R
  have hlr : ∀ i j, i < k → j < k - 1 → (lr (ofr T o0 o1) i j).1 < 2 * T ∧ (lr (ofr T o0 o1) i j).2 < 2 * T := fun i j hi hj => by unfold lr; split <;> exact hr _ (by omega)
  have tr0 := fun a => c41 F (d + 7) 840 T (2 ^ T) a k 87 k (by omega) rfl (by omega) (by omega) (ofr T o0 o1) hr none 0 0 0 (fun _ => 0) (by omega) (fun j hj => absurd hj (Nat.not_lt_zero _)) 500 (by omega)
  intro R
  rw [show 3200000 + 100 = (3200000) + 100 from rfl, addL_eq, ← Nat.add_assoc, ← addL_eq _ 100, Nat.add_comm R (3200000)]
  refine call_in (n := 72) Try.func12 rfl rfl rfl rfl rfl rfl rfl ?_
  repeat' ((conv => whnf); first
           | refine eqS_rfl ?_
           | refine eqA_rfl ?_
           | refine eqA_of (by assumption) ?_
           | refine eqS_of (by rfl) ?_
           | refine eqL_rfl ?_
           | refine eqJ_rfl ?_
           | refine flE_intro (fun _ _ => rfl) ?_
           | refine seS_rfl ?_
           | refine lsS_of hup ?_
           | refine lsS_rfl ?_
           | refine brS_tt ?_
           | refine brS_ff ?_
           | refine brS_not ?_
           | refine brS_t (iEq_self _) ?_
           | refine brS_t (by assumption) ?_
           | refine brS_f (by assumption) ?_
           | refine brS_intro (fun _ => ?_) (fun _ => ?_)
           | refine ltS_intro (by first | assumption | decide | exact Nat.le_of_ble_eq_true rfl | omega) ?_
           | refine ixS_of rfl (by first | assumption | decide | omega) ?_
           | refine okS_intro (by first | assumption | kernel_rfl) ?_
           | refine nzS_intro (by first | decide | assumption) ?_
           | refine call40 (c40 F _ 800 (by omega) x0 hx T hT a n c o0 o1 h0 h1 k hk) (addL (3180000 + R) 50) (by rfl) (by exact SeesM.cons 1000 (sees_ro (i := 1000) (by rfl)) (SeesM.nil _) (fun _ _ _ _ _ _ x hx => by cases hx)) (by (first | (simp only [addL_eq, addL_rec]; omega) | omega | exact Nat.le_refl _)) ?_
           | refine call36 (k36 _) (addL (400000 + R) 40) (by rfl) (by exact SeesM.cons 1000 (sees_gr (i := 800) (by rfl)) (SeesM.nil _) (fun _ _ _ _ _ _ x hx => by cases hx)) (by (first | (simp only [addL_eq, addL_rec]; omega) | omega | exact Nat.le_refl _)) ?_
           | intro _)
  rename_i a8 b3 a7
  conv => whnf
  refine loS_i (fun jj f mm R' ni => ∃ i : Nat, i ≤ k ∧ jj = k - i + 1 ∧ f = [(3, .ptr 1 b3 0), (4, .sl 700 a7 (spL (ofr T o0 o1) k T k).length (spL (ofr T o0 o1) k T k).length), (6, .int .i64 (Int.ofNat (spL (ofr T o0 o1) k T i).length)), (21, .int .i64 (Int.ofNat k)), (22, .int .i64 (Int.ofNat i))] ∧ mm = [(700, .gr a7 (spL (ofr T o0 o1) k T k).length 3 1 (fun z => [.int .i64 (Int.ofNat ((spL (ofr T o0 o1) k T k).getD z 0))])), (1, .own b3 24 [.int .i64 (Int.ofNat T), .sl 800 a8 k k]), (800, .ro a8 k 87 4 (fun z => rl ((ofr T o0 o1) z))), (1000, .ro a n 0 2 fun j => [.int .u8 (Int.ofNat (o0 j)), .int .u8 (Int.ofNat (o1 j))])] ∧ R' = addL (40000 * (k - i) + R) 40 ∧ ni = 5000) (k + 1) (by omega)
    ⟨[(3, .ptr 1 b3 0), (4, .sl 700 a7 (spL (ofr T o0 o1) k T k).length (spL (ofr T o0 o1) k T k).length), (6, .int .i64 (Int.ofNat (spL (ofr T o0 o1) k T 0).length)), (21, .int .i64 (Int.ofNat k)), (22, .int .i64 (Int.ofNat 0))], [(700, .gr a7 (spL (ofr T o0 o1) k T k).length 3 1 (fun z => [.int .i64 (Int.ofNat ((spL (ofr T o0 o1) k T k).getD z 0))])), (1, .own b3 24 [.int .i64 (Int.ofNat T), .sl 800 a8 k k]), (800, .ro a8 k 87 4 (fun z => rl ((ofr T o0 o1) z))), (1000, .ro a n 0 2 fun j => [.int .u8 (Int.ofNat (o0 j)), .int .u8 (Int.ofNat (o1 j))])], addL (40000 * (k - 0) + R) 40, 5000, ⟨eqF_rfl _, eqF_rfl _, eqF_rfl _, eqF_rfl _, eqF_rfl _, trivial⟩, WG, by (first | (simp only [addL_eq, addL_rec]; omega) | omega | exact Nat.le_refl _), 0, by omega, by omega, rfl, rfl, rfl, rfl⟩ ?_
  rintro _ _ _ _ _ ⟨i, hi, rfl, rfl, rfl, rfl, rfl⟩
  by_cases hlt : i < k
  · have d1 := iLt_t hlt
    have ix1 : wr .i64 (Int.add (Int.ofNat i) 1) = Int.ofNat (i + 1) := smn (i := i + 1) (by omega)
    have tr1 := fun a cc => c41 F (d + 7) 850 T (2 ^ T) a (k - 1) 0 cc (by omega) rfl (by omega) (by omega) (lr (ofr T o0 o1) i) (fun j hj => hlr i j hlt hj) none 0 0 0 (fun _ => 0) (by omega) (fun j hj => absurd hj (Nat.not_lt_zero _)) 500 (by omega)
    by_cases g1 : k = 1
    ·
      repeat' ((conv => whnf); first
               | refine eqS_rfl ?_
               | refine eqA_rfl ?_
               | refine eqA_of (by assumption) ?_
               | refine eqS_of (by rfl) ?_
               | refine eqL_rfl ?_
               | refine eqJ_rfl ?_
               | refine flE_intro (fun _ _ => rfl) ?_
               | refine seS_rfl ?_
               | refine lsS_of hup ?_
               | refine lsS_rfl ?_
               | refine brS_tt ?_
               | refine brS_ff ?_
               | refine brS_not ?_
               | refine brS_t (iEq_self _) ?_
               | refine brS_t (by assumption) ?_
               | refine brS_f (by assumption) ?_
               | refine brS_intro (fun _ => ?_) (fun _ => ?_)
               | refine ltS_intro (by first | assumption | decide | exact Nat.le_of_ble_eq_true rfl | omega) ?_
               | refine ixS_of rfl (by first | assumption | decide | omega) ?_
               | refine okS_intro (by first | assumption | kernel_rfl) ?_
               | refine nzS_intro (by first | decide | assumption) ?_
               | refine ltS_intro (by have := lt_of_iLt ‹iLt (Int.ofNat _) (Int.ofNat _) = true›; omega) ?_
               | refine ixS_of rfl (by have := lt_of_iLt ‹iLt (Int.ofNat _) (Int.ofNat _) = true›; omega) ?_
               | refine seS_sb (by assumption) (by assumption) ?_
               | refine ltS_2 (by kernel_rfl) (by first | omega | (simp only [Nat.add_eq, Nat.sub_eq, Nat.mul_eq, Nat.succ_eq_add_one]; omega)) ?_
               | refine ltS_1 (by kernel_rfl) (by first | omega | (simp only [Nat.add_eq, Nat.sub_eq, Nat.mul_eq, Nat.succ_eq_add_one]; omega)) ?_
               | refine ixS_of ix1 (Nat.succ_lt_succ hlt) ?_
               | refine ixS_of (q := 0) rfl (Nat.succ_pos _) ?_
               | refine ixS_of rfl (by first | omega | (simp only [Nat.add_eq, Nat.sub_eq, Nat.mul_eq, Nat.succ_eq_add_one]; omega)) ?_
               | refine ltS_intro (by first | omega | (simp only [Nat.add_eq, Nat.sub_eq, Nat.mul_eq, Nat.succ_eq_add_one]; omega)) ?_
               | refine emS_z (by first | omega | (simp only [Nat.add_eq, Nat.sub_eq, Nat.mul_eq, Nat.succ_eq_add_one]; omega)) ?_
               | refine emS_p (by first | omega | (simp only [Nat.add_eq, Nat.sub_eq, Nat.mul_eq, Nat.succ_eq_add_one]; omega)) ?_
               | refine orS_l (by constructor <;> (first | omega | (simp only [Nat.add_eq, Nat.sub_eq, Nat.mul_eq, Nat.succ_eq_add_one]; omega))) ?_
               | refine orS_l (by first | omega | (simp only [Nat.add_eq, Nat.sub_eq, Nat.mul_eq, Nat.succ_eq_add_one]; omega)) ?_
               | refine orS_r (by first | omega | (simp only [Nat.add_eq, Nat.sub_eq, Nat.mul_eq, Nat.succ_eq_add_one]; omega)) ?_
               | refine flE_intro (fun _ _ => rfl) ?_
               | intro _)
      rename_i b5 b6 p6 e6 b8 b9 p9 e9
      conv => whnf
      refine call41 (tr1 (some ⟨b5, 0, none⟩) 0) (addL (40000 * (k - (i + 1)) + (20000 + R)) 60) (congrArg (fun z => [Value.agg ⟨[.int .i64 (Int.ofNat T), .slice (some ⟨b5, 0, none⟩) z 0]⟩, .slice none 0 0]) (show 0 = k - 1 by omega)) (by rw [show k - 1 = 0 by omega]; exact (by exact SeesM.cons 1000 (sees_nil _ _ _ _) (SeesM.cons 1001 (sees_nil _ _ _ _) (SeesM.nil _) (fun _ _ _ _ _ _ x hx => by cases hx)) (fun _ _ _ _ _ _ x hx => by rcases List.mem_singleton.1 hx with rfl; exact fun _ h => h))) (by (first | (simp only [addL_eq, addL_rec]; omega) | omega | exact Nat.le_refl _)) ?_
      cases hsp : sp (ofr T o0 o1) k T i with
      | true =>
        have hA : iEq (Int.ofNat (trL (lr (ofr T o0 o1) i) (k - 1) (fun _ => 0) 0 (2 ^ T)).length) (Int.ofNat (trL (ofr T o0 o1) k (fun _ => 0) 0 (2 ^ T)).length) = true := iEq_n.trans (decide_eq_true ((spare_iff hlt).2 hsp))
        have hP := (spL_at (n := k) (T := T) hlt).2 hsp
        have hl := iLt_t hP.1
        have he : iEq (Int.ofNat ((spL (ofr T o0 o1) k T k).getD (spL (ofr T o0 o1) k T i).length 0)) (Int.ofNat i) = true := iEq_n.trans (decide_eq_true hP.2)
        have hq : (iEq (Int.ofNat (trL (lr (ofr T o0 o1) i) (k - 1) (fun _ => 0) 0 (2 ^ T)).length) (Int.ofNat (trL (ofr T o0 o1) k (fun _ => 0) 0 (2 ^ T)).length) == iEq (Int.ofNat ((spL (ofr T o0 o1) k T k).getD (spL (ofr T o0 o1) k T i).length 0)) (Int.ofNat i)) = true := by rw [hA, he]; rfl
        have hs1 : (spL (ofr T o0 o1) k T (i + 1)).length = (spL (ofr T o0 o1) k T i).length + 1 := by rw [spL_succ, hsp]; simp
        repeat' ((conv => whnf); first
                 | refine eqS_rfl ?_
                 | refine eqA_rfl ?_
                 | refine eqA_of (by assumption) ?_
                 | refine eqS_of (by rfl) ?_
                 | refine eqL_rfl ?_
                 | refine eqJ_rfl ?_
                 | refine flE_intro (fun _ _ => rfl) ?_
                 | refine seS_rfl ?_
                 | refine lsS_of hup ?_
                 | refine lsS_rfl ?_
                 | refine brS_tt ?_
                 | refine brS_ff ?_
                 | refine brS_not ?_
                 | refine brS_t (iEq_self _) ?_
                 | refine brS_t (by assumption) ?_
                 | refine brS_f (by assumption) ?_
                 | refine brS_intro (fun _ => ?_) (fun _ => ?_)
                 | refine ltS_intro (by first | assumption | decide | exact Nat.le_of_ble_eq_true rfl | omega) ?_
                 | refine ixS_of rfl (by first | assumption | decide | omega) ?_
                 | refine okS_intro (by first | assumption | kernel_rfl) ?_
                 | refine nzS_intro (by first | decide | assumption) ?_
                 | refine ltS_intro (by have := lt_of_iLt ‹iLt (Int.ofNat _) (Int.ofNat _) = true›; omega) ?_
                 | refine ixS_of rfl (by have := lt_of_iLt ‹iLt (Int.ofNat _) (Int.ofNat _) = true›; omega) ?_
                 | refine seS_sb (by assumption) (by assumption) ?_
                 | refine ltS_2 (by kernel_rfl) (by first | omega | (simp only [Nat.add_eq, Nat.sub_eq, Nat.mul_eq, Nat.succ_eq_add_one]; omega)) ?_
                 | refine ltS_1 (by kernel_rfl) (by first | omega | (simp only [Nat.add_eq, Nat.sub_eq, Nat.mul_eq, Nat.succ_eq_add_one]; omega)) ?_
                 | refine ixS_of ix1 (Nat.succ_lt_succ hlt) ?_
                 | refine ixS_of (q := 0) rfl (Nat.succ_pos _) ?_
                 | refine ixS_of rfl (by first | omega | (simp only [Nat.add_eq, Nat.sub_eq, Nat.mul_eq, Nat.succ_eq_add_one]; omega)) ?_
                 | refine ltS_intro (by first | omega | (simp only [Nat.add_eq, Nat.sub_eq, Nat.mul_eq, Nat.succ_eq_add_one]; omega)) ?_
                 | refine emS_z (by first | omega | (simp only [Nat.add_eq, Nat.sub_eq, Nat.mul_eq, Nat.succ_eq_add_one]; omega)) ?_
                 | refine emS_p (by first | omega | (simp only [Nat.add_eq, Nat.sub_eq, Nat.mul_eq, Nat.succ_eq_add_one]; omega)) ?_
                 | refine orS_l (by constructor <;> (first | omega | (simp only [Nat.add_eq, Nat.sub_eq, Nat.mul_eq, Nat.succ_eq_add_one]; omega))) ?_
                 | refine orS_l (by first | omega | (simp only [Nat.add_eq, Nat.sub_eq, Nat.mul_eq, Nat.succ_eq_add_one]; omega)) ?_
                 | refine orS_r (by first | omega | (simp only [Nat.add_eq, Nat.sub_eq, Nat.mul_eq, Nat.succ_eq_add_one]; omega)) ?_
                 | refine flE_intro (fun _ _ => rfl) ?_
                 | refine call41 (tr0 _) (addL (40000 * (k - (i + 1)) + R) 60) (by rfl) (by exact SeesM.cons 1000 (sees_ro (i := 800) (by rfl)) (SeesM.cons 1001 (sees_nil _ _ _ _) (SeesM.nil _) (fun _ _ _ _ _ _ x hx => by cases hx)) (fun _ _ _ _ _ _ x hx => by rcases List.mem_singleton.1 hx with rfl; exact fun _ h => h)) (by (first | (simp only [addL_eq, addL_rec]; omega) | omega | exact Nat.le_refl _)) ?_
                 | refine brS_t hq ?_
                 | intro _)
        conv => whnf
        exact ⟨k - (i + 1) + 1, [(3, .ptr 1 b3 0), (4, .sl 700 a7 (spL (ofr T o0 o1) k T k).length (spL (ofr T o0 o1) k T k).length), (6, .int .i64 (Int.ofNat (spL (ofr T o0 o1) k T (i + 1)).length)), (21, .int .i64 (Int.ofNat k)), (22, .int .i64 (Int.ofNat (i + 1)))], [(700, .gr a7 (spL (ofr T o0 o1) k T k).length 3 1 (fun z => [.int .i64 (Int.ofNat ((spL (ofr T o0 o1) k T k).getD z 0))])), (1, .own b3 24 [.int .i64 (Int.ofNat T), .sl 800 a8 k k]), (800, .ro a8 k 87 4 (fun z => rl ((ofr T o0 o1) z))), (1000, .ro a n 0 2 fun j => [.int .u8 (Int.ofNat (o0 j)), .int .u8 (Int.ofNat (o1 j))])], addL (40000 * (k - (i + 1)) + R) 40, 5000, by omega, ⟨eqF_rfl _, eqF_rfl _, by rw [hs1]; exact ⟨congrArg (Value.int .i64) (smn (i := (spL (ofr T o0 o1) k T i).length + 1) (by have := spL_len (ofr T o0 o1) k T i; omega)), rfl⟩, eqF_rfl _, ⟨congrArg (Value.int .i64) (smn (i := i + 1) (by omega)), rfl⟩, trivial⟩, WG, by (first | (simp only [addL_eq, addL_rec]; omega) | omega | exact Nat.le_refl _), i + 1, by omega, rfl, rfl, rfl, rfl, rfl⟩
      | false =>
        have hA : iEq (Int.ofNat (trL (lr (ofr T o0 o1) i) (k - 1) (fun _ => 0) 0 (2 ^ T)).length) (Int.ofNat (trL (ofr T o0 o1) k (fun _ => 0) 0 (2 ^ T)).length) = false := iEq_n.trans (decide_eq_false fun h => by have := (spare_iff hlt).1 h; rw [hsp] at this; cases this)
        have hs1 : (spL (ofr T o0 o1) k T (i + 1)).length = (spL (ofr T o0 o1) k T i).length := by rw [spL_succ, hsp]; simp
        by_cases hll : (spL (ofr T o0 o1) k T i).length < (spL (ofr T o0 o1) k T k).length
        · have hl := iLt_t hll
          have he : iEq (Int.ofNat ((spL (ofr T o0 o1) k T k).getD (spL (ofr T o0 o1) k T i).length 0)) (Int.ofNat i) = false := iEq_n.trans (decide_eq_false fun h => by have := (spL_at (n := k) (T := T) hlt).1 ⟨hll, h⟩; rw [hsp] at this; cases this)
          have hq : (iEq (Int.ofNat (trL (lr (ofr T o0 o1) i) (k - 1) (fun _ => 0) 0 (2 ^ T)).length) (Int.ofNat (trL (ofr T o0 o1) k (fun _ => 0) 0 (2 ^ T)).length) == iEq (Int.ofNat ((spL (ofr T o0 o1) k T k).getD (spL (ofr T o0 o1) k T i).length 0)) (Int.ofNat i)) = true := by rw [hA, he]; rfl
          repeat' ((conv => whnf); first
                   | refine eqS_rfl ?_
                   | refine eqA_rfl ?_
                   | refine eqA_of (by assumption) ?_
                   | refine eqS_of (by rfl) ?_
                   | refine eqL_rfl ?_
                   | refine eqJ_rfl ?_
                   | refine flE_intro (fun _ _ => rfl) ?_
                   | refine seS_rfl ?_
                   | refine lsS_of hup ?_
                   | refine lsS_rfl ?_
                   | refine brS_tt ?_
                   | refine brS_ff ?_
                   | refine brS_not ?_
                   | refine brS_t (iEq_self _) ?_
                   | refine brS_t (by assumption) ?_
                   | refine brS_f (by assumption) ?_
                   | refine brS_intro (fun _ => ?_) (fun _ => ?_)
                   | refine ltS_intro (by first | assumption | decide | exact Nat.le_of_ble_eq_true rfl | omega) ?_
                   | refine ixS_of rfl (by first | assumption | decide | omega) ?_
                   | refine okS_intro (by first | assumption | kernel_rfl) ?_
                   | refine nzS_intro (by first | decide | assumption) ?_
                   | refine ltS_intro (by have := lt_of_iLt ‹iLt (Int.ofNat _) (Int.ofNat _) = true›; omega) ?_
                   | refine ixS_of rfl (by have := lt_of_iLt ‹iLt (Int.ofNat _) (Int.ofNat _) = true›; omega) ?_
                   | refine seS_sb (by assumption) (by assumption) ?_
                   | refine ltS_2 (by kernel_rfl) (by first | omega | (simp only [Nat.add_eq, Nat.sub_eq, Nat.mul_eq, Nat.succ_eq_add_one]; omega)) ?_
                   | refine ltS_1 (by kernel_rfl) (by first | omega | (simp only [Nat.add_eq, Nat.sub_eq, Nat.mul_eq, Nat.succ_eq_add_one]; omega)) ?_
                   | refine ixS_of ix1 (Nat.succ_lt_succ hlt) ?_
                   | refine ixS_of (q := 0) rfl (Nat.succ_pos _) ?_
                   | refine ixS_of rfl (by first | omega | (simp only [Nat.add_eq, Nat.sub_eq, Nat.mul_eq, Nat.succ_eq_add_one]; omega)) ?_
                   | refine ltS_intro (by first | omega | (simp only [Nat.add_eq, Nat.sub_eq, Nat.mul_eq, Nat.succ_eq_add_one]; omega)) ?_
                   | refine emS_z (by first | omega | (simp only [Nat.add_eq, Nat.sub_eq, Nat.mul_eq, Nat.succ_eq_add_one]; omega)) ?_
                   | refine emS_p (by first | omega | (simp only [Nat.add_eq, Nat.sub_eq, Nat.mul_eq, Nat.succ_eq_add_one]; omega)) ?_
                   | refine orS_l (by constructor <;> (first | omega | (simp only [Nat.add_eq, Nat.sub_eq, Nat.mul_eq, Nat.succ_eq_add_one]; omega))) ?_
                   | refine orS_l (by first | omega | (simp only [Nat.add_eq, Nat.sub_eq, Nat.mul_eq, Nat.succ_eq_add_one]; omega)) ?_
                   | refine orS_r (by first | omega | (simp only [Nat.add_eq, Nat.sub_eq, Nat.mul_eq, Nat.succ_eq_add_one]; omega)) ?_
                   | refine flE_intro (fun _ _ => rfl) ?_
                   | refine call41 (tr0 _) (addL (40000 * (k - (i + 1)) + R) 60) (by rfl) (by exact SeesM.cons 1000 (sees_ro (i := 800) (by rfl)) (SeesM.cons 1001 (sees_nil _ _ _ _) (SeesM.nil _) (fun _ _ _ _ _ _ x hx => by cases hx)) (fun _ _ _ _ _ _ x hx => by rcases List.mem_singleton.1 hx with rfl; exact fun _ h => h)) (by (first | (simp only [addL_eq, addL_rec]; omega) | omega | exact Nat.le_refl _)) ?_
                   | refine brS_t hq ?_
                   | intro _)
          conv => whnf
          exact ⟨k - (i + 1) + 1, [(3, .ptr 1 b3 0), (4, .sl 700 a7 (spL (ofr T o0 o1) k T k).length (spL (ofr T o0 o1) k T k).length), (6, .int .i64 (Int.ofNat (spL (ofr T o0 o1) k T (i + 1)).length)), (21, .int .i64 (Int.ofNat k)), (22, .int .i64 (Int.ofNat (i + 1)))], [(700, .gr a7 (spL (ofr T o0 o1) k T k).length 3 1 (fun z => [.int .i64 (Int.ofNat ((spL (ofr T o0 o1) k T k).getD z 0))])), (1, .own b3 24 [.int .i64 (Int.ofNat T), .sl 800 a8 k k]), (800, .ro a8 k 87 4 (fun z => rl ((ofr T o0 o1) z))), (1000, .ro a n 0 2 fun j => [.int .u8 (Int.ofNat (o0 j)), .int .u8 (Int.ofNat (o1 j))])], addL (40000 * (k - (i + 1)) + R) 40, 5000, by omega, ⟨eqF_rfl _, eqF_rfl _, by rw [hs1]; exact eqF_rfl _, eqF_rfl _, ⟨congrArg (Value.int .i64) (smn (i := i + 1) (by omega)), rfl⟩, trivial⟩, WG, by (first | (simp only [addL_eq, addL_rec]; omega) | omega | exact Nat.le_refl _), i + 1, by omega, rfl, rfl, rfl, rfl, rfl⟩
        · have hl := iLt_f (Nat.le_of_not_lt hll)
          have hq : (iEq (Int.ofNat (trL (lr (ofr T o0 o1) i) (k - 1) (fun _ => 0) 0 (2 ^ T)).length) (Int.ofNat (trL (ofr T o0 o1) k (fun _ => 0) 0 (2 ^ T)).length) == false) = true := by rw [hA]; rfl
          repeat' ((conv => whnf); first
                   | refine eqS_rfl ?_
                   | refine eqA_rfl ?_
                   | refine eqA_of (by assumption) ?_
                   | refine eqS_of (by rfl) ?_
                   | refine eqL_rfl ?_
                   | refine eqJ_rfl ?_
                   | refine flE_intro (fun _ _ => rfl) ?_
                   | refine seS_rfl ?_
                   | refine lsS_of hup ?_
                   | refine lsS_rfl ?_
                   | refine brS_tt ?_
                   | refine brS_ff ?_
                   | refine brS_not ?_
                   | refine brS_t (iEq_self _) ?_
                   | refine brS_t (by assumption) ?_
                   | refine brS_f (by assumption) ?_
                   | refine brS_intro (fun _ => ?_) (fun _ => ?_)
                   | refine ltS_intro (by first | assumption | decide | exact Nat.le_of_ble_eq_true rfl | omega) ?_
                   | refine ixS_of rfl (by first | assumption | decide | omega) ?_
                   | refine okS_intro (by first | assumption | kernel_rfl) ?_
                   | refine nzS_intro (by first | decide | assumption) ?_
                   | refine ltS_intro (by have := lt_of_iLt ‹iLt (Int.ofNat _) (Int.ofNat _) = true›; omega) ?_
                   | refine ixS_of rfl (by have := lt_of_iLt ‹iLt (Int.ofNat _) (Int.ofNat _) = true›; omega) ?_
                   | refine seS_sb (by assumption) (by assumption) ?_
                   | refine ltS_2 (by kernel_rfl) (by first | omega | (simp only [Nat.add_eq, Nat.sub_eq, Nat.mul_eq, Nat.succ_eq_add_one]; omega)) ?_
                   | refine ltS_1 (by kernel_rfl) (by first | omega | (simp only [Nat.add_eq, Nat.sub_eq, Nat.mul_eq, Nat.succ_eq_add_one]; omega)) ?_
                   | refine ixS_of ix1 (Nat.succ_lt_succ hlt) ?_
                   | refine ixS_of (q := 0) rfl (Nat.succ_pos _) ?_
                   | refine ixS_of rfl (by first | omega | (simp only [Nat.add_eq, Nat.sub_eq, Nat.mul_eq, Nat.succ_eq_add_one]; omega)) ?_
                   | refine ltS_intro (by first | omega | (simp only [Nat.add_eq, Nat.sub_eq, Nat.mul_eq, Nat.succ_eq_add_one]; omega)) ?_
                   | refine emS_z (by first | omega | (simp only [Nat.add_eq, Nat.sub_eq, Nat.mul_eq, Nat.succ_eq_add_one]; omega)) ?_
                   | refine emS_p (by first | omega | (simp only [Nat.add_eq, Nat.sub_eq, Nat.mul_eq, Nat.succ_eq_add_one]; omega)) ?_
                   | refine orS_l (by constructor <;> (first | omega | (simp only [Nat.add_eq, Nat.sub_eq, Nat.mul_eq, Nat.succ_eq_add_one]; omega))) ?_
                   | refine orS_l (by first | omega | (simp only [Nat.add_eq, Nat.sub_eq, Nat.mul_eq, Nat.succ_eq_add_one]; omega)) ?_
                   | refine orS_r (by first | omega | (simp only [Nat.add_eq, Nat.sub_eq, Nat.mul_eq, Nat.succ_eq_add_one]; omega)) ?_
                   | refine flE_intro (fun _ _ => rfl) ?_
                   | refine call41 (tr0 _) (addL (40000 * (k - (i + 1)) + R) 60) (by rfl) (by exact SeesM.cons 1000 (sees_ro (i := 800) (by rfl)) (SeesM.cons 1001 (sees_nil _ _ _ _) (SeesM.nil _) (fun _ _ _ _ _ _ x hx => by cases hx)) (fun _ _ _ _ _ _ x hx => by rcases List.mem_singleton.1 hx with rfl; exact fun _ h => h)) (by (first | (simp only [addL_eq, addL_rec]; omega) | omega | exact Nat.le_refl _)) ?_
                   | refine brS_t hq ?_
                   | intro _)
          conv => whnf
          exact ⟨k - (i + 1) + 1, [(3, .ptr 1 b3 0), (4, .sl 700 a7 (spL (ofr T o0 o1) k T k).length (spL (ofr T o0 o1) k T k).length), (6, .int .i64 (Int.ofNat (spL (ofr T o0 o1) k T (i + 1)).length)), (21, .int .i64 (Int.ofNat k)), (22, .int .i64 (Int.ofNat (i + 1)))], [(700, .gr a7 (spL (ofr T o0 o1) k T k).length 3 1 (fun z => [.int .i64 (Int.ofNat ((spL (ofr T o0 o1) k T k).getD z 0))])), (1, .own b3 24 [.int .i64 (Int.ofNat T), .sl 800 a8 k k]), (800, .ro a8 k 87 4 (fun z => rl ((ofr T o0 o1) z))), (1000, .ro a n 0 2 fun j => [.int .u8 (Int.ofNat (o0 j)), .int .u8 (Int.ofNat (o1 j))])], addL (40000 * (k - (i + 1)) + R) 40, 5000, by omega, ⟨eqF_rfl _, eqF_rfl _, by rw [hs1]; exact eqF_rfl _, eqF_rfl _, ⟨congrArg (Value.int .i64) (smn (i := i + 1) (by omega)), rfl⟩, trivial⟩, WG, by (first | (simp only [addL_eq, addL_rec]; omega) | omega | exact Nat.le_refl _), i + 1, by omega, rfl, rfl, rfl, rfl, rfl⟩
    · by_cases g2 : i = 0
      · have hkl : Nat.sub k (i + 1) = k - 1 := by show k - (i + 1) = k - 1; omega
        have hpg : ∀ j, j < Nat.sub k (i + 1) → (fun j => (fun z => rl ((ofr T o0 o1) z)) (Nat.add (i + 1) j)) j = rl (lr (ofr T o0 o1) i j) := fun j hj => by
          unfold lr
          rw [if_neg (by omega)]
          show rl ((ofr T o0 o1) (i + 1 + j)) = _
          rw [show i + 1 + j = j + 1 by omega]
        repeat' ((conv => whnf); first
                 | refine eqS_rfl ?_
                 | refine eqA_rfl ?_
                 | refine eqA_of (by assumption) ?_
                 | refine eqS_of (by rfl) ?_
                 | refine eqL_rfl ?_
                 | refine eqJ_rfl ?_
                 | refine flE_intro (fun _ _ => rfl) ?_
                 | refine seS_rfl ?_
                 | refine lsS_of hup ?_
                 | refine lsS_rfl ?_
                 | refine brS_tt ?_
                 | refine brS_ff ?_
                 | refine brS_not ?_
                 | refine brS_t (iEq_self _) ?_
                 | refine brS_t (by assumption) ?_
                 | refine brS_f (by assumption) ?_
                 | refine brS_intro (fun _ => ?_) (fun _ => ?_)
                 | refine ltS_intro (by first | assumption | decide | exact Nat.le_of_ble_eq_true rfl | omega) ?_
                 | refine ixS_of rfl (by first | assumption | decide | omega) ?_
                 | refine okS_intro (by first | assumption | kernel_rfl) ?_
                 | refine nzS_intro (by first | decide | assumption) ?_
                 | refine ltS_intro (by have := lt_of_iLt ‹iLt (Int.ofNat _) (Int.ofNat _) = true›; omega) ?_
                 | refine ixS_of rfl (by have := lt_of_iLt ‹iLt (Int.ofNat _) (Int.ofNat _) = true›; omega) ?_
                 | refine seS_sb (by assumption) (by assumption) ?_
                 | refine ltS_2 (by kernel_rfl) (by first | omega | (simp only [Nat.add_eq, Nat.sub_eq, Nat.mul_eq, Nat.succ_eq_add_one]; omega)) ?_
                 | refine ltS_1 (by kernel_rfl) (by first | omega | (simp only [Nat.add_eq, Nat.sub_eq, Nat.mul_eq, Nat.succ_eq_add_one]; omega)) ?_
                 | refine ixS_of ix1 (Nat.succ_lt_succ hlt) ?_
                 | refine ixS_of (q := 0) rfl (Nat.succ_pos _) ?_
                 | refine ixS_of rfl (by first | omega | (simp only [Nat.add_eq, Nat.sub_eq, Nat.mul_eq, Nat.succ_eq_add_one]; omega)) ?_
                 | refine ltS_intro (by first | omega | (simp only [Nat.add_eq, Nat.sub_eq, Nat.mul_eq, Nat.succ_eq_add_one]; omega)) ?_
                 | refine emS_z (by first | omega | (simp only [Nat.add_eq, Nat.sub_eq, Nat.mul_eq, Nat.succ_eq_add_one]; omega)) ?_
                 | refine emS_p (by first | omega | (simp only [Nat.add_eq, Nat.sub_eq, Nat.mul_eq, Nat.succ_eq_add_one]; omega)) ?_
                 | refine orS_l (by constructor <;> (first | omega | (simp only [Nat.add_eq, Nat.sub_eq, Nat.mul_eq, Nat.succ_eq_add_one]; omega))) ?_
                 | refine orS_l (by first | omega | (simp only [Nat.add_eq, Nat.sub_eq, Nat.mul_eq, Nat.succ_eq_add_one]; omega)) ?_
                 | refine orS_r (by first | omega | (simp only [Nat.add_eq, Nat.sub_eq, Nat.mul_eq, Nat.succ_eq_add_one]; omega)) ?_
                 | refine flE_intro (fun _ _ => rfl) ?_
                 | intro _)
        rename_i az
        conv => whnf
        refine call41 (tr1 az (k - 1)) (addL (40000 * (k - (i + 1)) + (20000 + R)) 60) (congrArg (fun z => [Value.agg ⟨[.int .i64 (Int.ofNat T), .slice az z z]⟩, .slice none 0 0]) hkl) (by exact SeesM.wk (m := [(5002, .gr az (k - 1) 86 4 (fun j => rl (lr (ofr T o0 o1) i j)))]) WX (by exact SeesM.cons 1000 (sees_gr (i := 5002) (by rfl)) (SeesM.cons 1001 (sees_nil _ _ _ _) (SeesM.nil _) (fun _ _ _ _ _ _ x hx => by cases hx)) (fun _ _ _ _ _ _ x hx => by rcases List.mem_singleton.1 hx with rfl; exact fun _ h => h))) (by (first | (simp only [addL_eq, addL_rec]; omega) | omega | exact Nat.le_refl _)) ?_
        cases hsp : sp (ofr T o0 o1) k T i with
        | true =>
          have hA : iEq (Int.ofNat (trL (lr (ofr T o0 o1) i) (k - 1) (fun _ => 0) 0 (2 ^ T)).length) (Int.ofNat (trL (ofr T o0 o1) k (fun _ => 0) 0 (2 ^ T)).length) = true := iEq_n.trans (decide_eq_true ((spare_iff hlt).2 hsp))
          have hP := (spL_at (n := k) (T := T) hlt).2 hsp
          have hl := iLt_t hP.1
          have he : iEq (Int.ofNat ((spL (ofr T o0 o1) k T k).getD (spL (ofr T o0 o1) k T i).length 0)) (Int.ofNat i) = true := iEq_n.trans (decide_eq_true hP.2)
          have hq : (iEq (Int.ofNat (trL (lr (ofr T o0 o1) i) (k - 1) (fun _ => 0) 0 (2 ^ T)).length) (Int.ofNat (trL (ofr T o0 o1) k (fun _ => 0) 0 (2 ^ T)).length) == iEq (Int.ofNat ((spL (ofr T o0 o1) k T k).getD (spL (ofr T o0 o1) k T i).length 0)) (Int.ofNat i)) = true := by rw [hA, he]; rfl
          have hs1 : (spL (ofr T o0 o1) k T (i + 1)).length = (spL (ofr T o0 o1) k T i).length + 1 := by rw [spL_succ, hsp]; simp
          repeat' ((conv => whnf); first
                   | refine eqS_rfl ?_
                   | refine eqA_rfl ?_
                   | refine eqA_of (by assumption) ?_
                   | refine eqS_of (by rfl) ?_
                   | refine eqL_rfl ?_
                   | refine eqJ_rfl ?_
                   | refine flE_intro (fun _ _ => rfl) ?_
                   | refine seS_rfl ?_
                   | refine lsS_of hup ?_
                   | refine lsS_rfl ?_
                   | refine brS_tt ?_
                   | refine brS_ff ?_
                   | refine brS_not ?_
                   | refine brS_t (iEq_self _) ?_
                   | refine brS_t (by assumption) ?_
                   | refine brS_f (by assumption) ?_
                   | refine brS_intro (fun _ => ?_) (fun _ => ?_)
                   | refine ltS_intro (by first | assumption | decide | exact Nat.le_of_ble_eq_true rfl | omega) ?_
                   | refine ixS_of rfl (by first | assumption | decide | omega) ?_
                   | refine okS_intro (by first | assumption | kernel_rfl) ?_
                   | refine nzS_intro (by first | decide | assumption) ?_
                   | refine ltS_intro (by have := lt_of_iLt ‹iLt (Int.ofNat _) (Int.ofNat _) = true›; omega) ?_
                   | refine ixS_of rfl (by have := lt_of_iLt ‹iLt (Int.ofNat _) (Int.ofNat _) = true›; omega) ?_
                   | refine seS_sb (by assumption) (by assumption) ?_
                   | refine ltS_2 (by kernel_rfl) (by first | omega | (simp only [Nat.add_eq, Nat.sub_eq, Nat.mul_eq, Nat.succ_eq_add_one]; omega)) ?_
                   | refine ltS_1 (by kernel_rfl) (by first | omega | (simp only [Nat.add_eq, Nat.sub_eq, Nat.mul_eq, Nat.succ_eq_add_one]; omega)) ?_
                   | refine ixS_of ix1 (Nat.succ_lt_succ hlt) ?_
                   | refine ixS_of (q := 0) rfl (Nat.succ_pos _) ?_
                   | refine ixS_of rfl (by first | omega | (simp only [Nat.add_eq, Nat.sub_eq, Nat.mul_eq, Nat.succ_eq_add_one]; omega)) ?_
                   | refine ltS_intro (by first | omega | (simp only [Nat.add_eq, Nat.sub_eq, Nat.mul_eq, Nat.succ_eq_add_one]; omega)) ?_
                   | refine emS_z (by first | omega | (simp only [Nat.add_eq, Nat.sub_eq, Nat.mul_eq, Nat.succ_eq_add_one]; omega)) ?_
                   | refine emS_p (by first | omega | (simp only [Nat.add_eq, Nat.sub_eq, Nat.mul_eq, Nat.succ_eq_add_one]; omega)) ?_
                   | refine orS_l (by constructor <;> (first | omega | (simp only [Nat.add_eq, Nat.sub_eq, Nat.mul_eq, Nat.succ_eq_add_one]; omega))) ?_
                   | refine orS_l (by first | omega | (simp only [Nat.add_eq, Nat.sub_eq, Nat.mul_eq, Nat.succ_eq_add_one]; omega)) ?_
                   | refine orS_r (by first | omega | (simp only [Nat.add_eq, Nat.sub_eq, Nat.mul_eq, Nat.succ_eq_add_one]; omega)) ?_
                   | refine flE_intro (fun _ _ => rfl) ?_
                   | refine call41 (tr0 _) (addL (40000 * (k - (i + 1)) + R) 60) (by rfl) (by exact SeesM.cons 1000 (sees_ro (i := 800) (by rfl)) (SeesM.cons 1001 (sees_nil _ _ _ _) (SeesM.nil _) (fun _ _ _ _ _ _ x hx => by cases hx)) (fun _ _ _ _ _ _ x hx => by rcases List.mem_singleton.1 hx with rfl; exact fun _ h => h)) (by (first | (simp only [addL_eq, addL_rec]; omega) | omega | exact Nat.le_refl _)) ?_
                   | refine brS_t hq ?_
                   | intro _)
          conv => whnf
          exact ⟨k - (i + 1) + 1, [(3, .ptr 1 b3 0), (4, .sl 700 a7 (spL (ofr T o0 o1) k T k).length (spL (ofr T o0 o1) k T k).length), (6, .int .i64 (Int.ofNat (spL (ofr T o0 o1) k T (i + 1)).length)), (21, .int .i64 (Int.ofNat k)), (22, .int .i64 (Int.ofNat (i + 1)))], [(700, .gr a7 (spL (ofr T o0 o1) k T k).length 3 1 (fun z => [.int .i64 (Int.ofNat ((spL (ofr T o0 o1) k T k).getD z 0))])), (1, .own b3 24 [.int .i64 (Int.ofNat T), .sl 800 a8 k k]), (800, .ro a8 k 87 4 (fun z => rl ((ofr T o0 o1) z))), (1000, .ro a n 0 2 fun j => [.int .u8 (Int.ofNat (o0 j)), .int .u8 (Int.ofNat (o1 j))])], addL (40000 * (k - (i + 1)) + R) 40, 5000, by omega, ⟨eqF_rfl _, eqF_rfl _, by rw [hs1]; exact ⟨congrArg (Value.int .i64) (smn (i := (spL (ofr T o0 o1) k T i).length + 1) (by have := spL_len (ofr T o0 o1) k T i; omega)), rfl⟩, eqF_rfl _, ⟨congrArg (Value.int .i64) (smn (i := i + 1) (by omega)), rfl⟩, trivial⟩, WG, by (first | (simp only [addL_eq, addL_rec]; omega) | omega | exact Nat.le_refl _), i + 1, by omega, rfl, rfl, rfl, rfl, rfl⟩
        | false =>
          have hA : iEq (Int.ofNat (trL (lr (ofr T o0 o1) i) (k - 1) (fun _ => 0) 0 (2 ^ T)).length) (Int.ofNat (trL (ofr T o0 o1) k (fun _ => 0) 0 (2 ^ T)).length) = false := iEq_n.trans (decide_eq_false fun h => by have := (spare_iff hlt).1 h; rw [hsp] at this; cases this)
          have hs1 : (spL (ofr T o0 o1) k T (i + 1)).length = (spL (ofr T o0 o1) k T i).length := by rw [spL_succ, hsp]; simp
          by_cases hll : (spL (ofr T o0 o1) k T i).length < (spL (ofr T o0 o1) k T k).length
          · have hl := iLt_t hll
            have he : iEq (Int.ofNat ((spL (ofr T o0 o1) k T k).getD (spL (ofr T o0 o1) k T i).length 0)) (Int.ofNat i) = false := iEq_n.trans (decide_eq_false fun h => by have := (spL_at (n := k) (T := T) hlt).1 ⟨hll, h⟩; rw [hsp] at this; cases this)
            have hq : (iEq (Int.ofNat (trL (lr (ofr T o0 o1) i) (k - 1) (fun _ => 0) 0 (2 ^ T)).length) (Int.ofNat (trL (ofr T o0 o1) k (fun _ => 0) 0 (2 ^ T)).length) == iEq (Int.ofNat ((spL (ofr T o0 o1) k T k).getD (spL (ofr T o0 o1) k T i).length 0)) (Int.ofNat i)) = true := by rw [hA, he]; rfl
            repeat' ((conv => whnf); first
                     | refine eqS_rfl ?_
                     | refine eqA_rfl ?_
                     | refine eqA_of (by assumption) ?_
                     | refine eqS_of (by rfl) ?_
                     | refine eqL_rfl ?_
                     | refine eqJ_rfl ?_
                     | refine flE_intro (fun _ _ => rfl) ?_
                     | refine seS_rfl ?_
                     | refine lsS_of hup ?_
                     | refine lsS_rfl ?_
                     | refine brS_tt ?_
                     | refine brS_ff ?_
                     | refine brS_not ?_
                     | refine brS_t (iEq_self _) ?_
                     | refine brS_t (by assumption) ?_
                     | refine brS_f (by assumption) ?_
                     | refine brS_intro (fun _ => ?_) (fun _ => ?_)
                     | refine ltS_intro (by first | assumption | decide | exact Nat.le_of_ble_eq_true rfl | omega) ?_
                     | refine ixS_of rfl (by first | assumption | decide | omega) ?_
                     | refine okS_intro (by first | assumption | kernel_rfl) ?_
                     | refine nzS_intro (by first | decide | assumption) ?_
                     | refine ltS_intro (by have := lt_of_iLt ‹iLt (Int.ofNat _) (Int.ofNat _) = true›; omega) ?_
                     | refine ixS_of rfl (by have := lt_of_iLt ‹iLt (Int.ofNat _) (Int.ofNat _) = true›; omega) ?_
                     | refine seS_sb (by assumption) (by assumption) ?_
                     | refine ltS_2 (by kernel_rfl) (by first | omega | (simp only [Nat.add_eq, Nat.sub_eq, Nat.mul_eq, Nat.succ_eq_add_one]; omega)) ?_
                     | refine ltS_1 (by kernel_rfl) (by first | omega | (simp only [Nat.add_eq, Nat.sub_eq, Nat.mul_eq, Nat.succ_eq_add_one]; omega)) ?_
                     | refine ixS_of ix1 (Nat.succ_lt_succ hlt) ?_
                     | refine ixS_of (q := 0) rfl (Nat.succ_pos _) ?_
                     | refine ixS_of rfl (by first | omega | (simp only [Nat.add_eq, Nat.sub_eq, Nat.mul_eq, Nat.succ_eq_add_one]; omega)) ?_
                     | refine ltS_intro (by first | omega | (simp only [Nat.add_eq, Nat.sub_eq, Nat.mul_eq, Nat.succ_eq_add_one]; omega)) ?_
                     | refine emS_z (by first | omega | (simp only [Nat.add_eq, Nat.sub_eq, Nat.mul_eq, Nat.succ_eq_add_one]; omega)) ?_
                     | refine emS_p (by first | omega | (simp only [Nat.add_eq, Nat.sub_eq, Nat.mul_eq, Nat.succ_eq_add_one]; omega)) ?_
                     | refine orS_l (by constructor <;> (first | omega | (simp only [Nat.add_eq, Nat.sub_eq, Nat.mul_eq, Nat.succ_eq_add_one]; omega))) ?_
                     | refine orS_l (by first | omega | (simp only [Nat.add_eq, Nat.sub_eq, Nat.mul_eq, Nat.succ_eq_add_one]; omega)) ?_
                     | refine orS_r (by first | omega | (simp only [Nat.add_eq, Nat.sub_eq, Nat.mul_eq, Nat.succ_eq_add_one]; omega)) ?_
                     | refine flE_intro (fun _ _ => rfl) ?_
                     | refine call41 (tr0 _) (addL (40000 * (k - (i + 1)) + R) 60) (by rfl) (by exact SeesM.cons 1000 (sees_ro (i := 800) (by rfl)) (SeesM.cons 1001 (sees_nil _ _ _ _) (SeesM.nil _) (fun _ _ _ _ _ _ x hx => by cases hx)) (fun _ _ _ _ _ _ x hx => by rcases List.mem_singleton.1 hx with rfl; exact fun _ h => h)) (by (first | (simp only [addL_eq, addL_rec]; omega) | omega | exact Nat.le_refl _)) ?_
                     | refine brS_t hq ?_
                     | intro _)
            conv => whnf
            exact ⟨k - (i + 1) + 1, [(3, .ptr 1 b3 0), (4, .sl 700 a7 (spL (ofr T o0 o1) k T k).length (spL (ofr T o0 o1) k T k).length), (6, .int .i64 (Int.ofNat (spL (ofr T o0 o1) k T (i + 1)).length)), (21, .int .i64 (Int.ofNat k)), (22, .int .i64 (Int.ofNat (i + 1)))], [(700, .gr a7 (spL (ofr T o0 o1) k T k).length 3 1 (fun z => [.int .i64 (Int.ofNat ((spL (ofr T o0 o1) k T k).getD z 0))])), (1, .own b3 24 [.int .i64 (Int.ofNat T), .sl 800 a8 k k]), (800, .ro a8 k 87 4 (fun z => rl ((ofr T o0 o1) z))), (1000, .ro a n 0 2 fun j => [.int .u8 (Int.ofNat (o0 j)), .int .u8 (Int.ofNat (o1 j))])], addL (40000 * (k - (i + 1)) + R) 40, 5000, by omega, ⟨eqF_rfl _, eqF_rfl _, by rw [hs1]; exact eqF_rfl _, eqF_rfl _, ⟨congrArg (Value.int .i64) (smn (i := i + 1) (by omega)), rfl⟩, trivial⟩, WG, by (first | (simp only [addL_eq, addL_rec]; omega) | omega | exact Nat.le_refl _), i + 1, by omega, rfl, rfl, rfl, rfl, rfl⟩
          · have hl := iLt_f (Nat.le_of_not_lt hll)
            have hq : (iEq (Int.ofNat (trL (lr (ofr T o0 o1) i) (k - 1) (fun _ => 0) 0 (2 ^ T)).length) (Int.ofNat (trL (ofr T o0 o1) k (fun _ => 0) 0 (2 ^ T)).length) == false) = true := by rw [hA]; rfl
            repeat' ((conv => whnf); first
                     | refine eqS_rfl ?_
                     | refine eqA_rfl ?_
                     | refine eqA_of (by assumption) ?_
                     | refine eqS_of (by rfl) ?_
                     | refine eqL_rfl ?_
                     | refine eqJ_rfl ?_
                     | refine flE_intro (fun _ _ => rfl) ?_
                     | refine seS_rfl ?_
                     | refine lsS_of hup ?_
                     | refine lsS_rfl ?_
                     | refine brS_tt ?_
                     | refine brS_ff ?_
                     | refine brS_not ?_
                     | refine brS_t (iEq_self _) ?_
                     | refine brS_t (by assumption) ?_
                     | refine brS_f (by assumption) ?_
                     | refine brS_intro (fun _ => ?_) (fun _ => ?_)
                     | refine ltS_intro (by first | assumption | decide | exact Nat.le_of_ble_eq_true rfl | omega) ?_
                     | refine ixS_of rfl (by first | assumption | decide | omega) ?_
                     | refine okS_intro (by first | assumption | kernel_rfl) ?_
                     | refine nzS_intro (by first | decide | assumption) ?_
                     | refine ltS_intro (by have := lt_of_iLt ‹iLt (Int.ofNat _) (Int.ofNat _) = true›; omega) ?_
                     | refine ixS_of rfl (by have := lt_of_iLt ‹iLt (Int.ofNat _) (Int.ofNat _) = true›; omega) ?_
                     | refine seS_sb (by assumption) (by assumption) ?_
                     | refine ltS_2 (by kernel_rfl) (by first | omega | (simp only [Nat.add_eq, Nat.sub_eq, Nat.mul_eq, Nat.succ_eq_add_one]; omega)) ?_
                     | refine ltS_1 (by kernel_rfl) (by first | omega | (simp only [Nat.add_eq, Nat.sub_eq, Nat.mul_eq, Nat.succ_eq_add_one]; omega)) ?_
                     | refine ixS_of ix1 (Nat.succ_lt_succ hlt) ?_
                     | refine ixS_of (q := 0) rfl (Nat.succ_pos _) ?_
                     | refine ixS_of rfl (by first | omega | (simp only [Nat.add_eq, Nat.sub_eq, Nat.mul_eq, Nat.succ_eq_add_one]; omega)) ?_
                     | refine ltS_intro (by first | omega | (simp only [Nat.add_eq, Nat.sub_eq, Nat.mul_eq, Nat.succ_eq_add_one]; omega)) ?_
                     | refine emS_z (by first | omega | (simp only [Nat.add_eq, Nat.sub_eq, Nat.mul_eq, Nat.succ_eq_add_one]; omega)) ?_
                     | refine emS_p (by first | omega | (simp only [Nat.add_eq, Nat.sub_eq, Nat.mul_eq, Nat.succ_eq_add_one]; omega)) ?_
                     | refine orS_l (by constructor <;> (first | omega | (simp only [Nat.add_eq, Nat.sub_eq, Nat.mul_eq, Nat.succ_eq_add_one]; omega))) ?_
                     | refine orS_l (by first | omega | (simp only [Nat.add_eq, Nat.sub_eq, Nat.mul_eq, Nat.succ_eq_add_one]; omega)) ?_
                     | refine orS_r (by first | omega | (simp only [Nat.add_eq, Nat.sub_eq, Nat.mul_eq, Nat.succ_eq_add_one]; omega)) ?_
                     | refine flE_intro (fun _ _ => rfl) ?_
                     | refine call41 (tr0 _) (addL (40000 * (k - (i + 1)) + R) 60) (by rfl) (by exact SeesM.cons 1000 (sees_ro (i := 800) (by rfl)) (SeesM.cons 1001 (sees_nil _ _ _ _) (SeesM.nil _) (fun _ _ _ _ _ _ x hx => by cases hx)) (fun _ _ _ _ _ _ x hx => by rcases List.mem_singleton.1 hx with rfl; exact fun _ h => h)) (by (first | (simp only [addL_eq, addL_rec]; omega) | omega | exact Nat.le_refl _)) ?_
                     | refine brS_t hq ?_
                     | intro _)
            conv => whnf
            exact ⟨k - (i + 1) + 1, [(3, .ptr 1 b3 0), (4, .sl 700 a7 (spL (ofr T o0 o1) k T k).length (spL (ofr T o0 o1) k T k).length), (6, .int .i64 (Int.ofNat (spL (ofr T o0 o1) k T (i + 1)).length)), (21, .int .i64 (Int.ofNat k)), (22, .int .i64 (Int.ofNat (i + 1)))], [(700, .gr a7 (spL (ofr T o0 o1) k T k).length 3 1 (fun z => [.int .i64 (Int.ofNat ((spL (ofr T o0 o1) k T k).getD z 0))])), (1, .own b3 24 [.int .i64 (Int.ofNat T), .sl 800 a8 k k]), (800, .ro a8 k 87 4 (fun z => rl ((ofr T o0 o1) z))), (1000, .ro a n 0 2 fun j => [.int .u8 (Int.ofNat (o0 j)), .int .u8 (Int.ofNat (o1 j))])], addL (40000 * (k - (i + 1)) + R) 40, 5000, by omega, ⟨eqF_rfl _, eqF_rfl _, by rw [hs1]; exact eqF_rfl _, eqF_rfl _, ⟨congrArg (Value.int .i64) (smn (i := i + 1) (by omega)), rfl⟩, trivial⟩, WG, by (first | (simp only [addL_eq, addL_rec]; omega) | omega | exact Nat.le_refl _), i + 1, by omega, rfl, rfl, rfl, rfl, rfl⟩
      · by_cases g3 : i = k - 1
        · have hkl : i = k - 1 := g3
          have hpg : ∀ j, j < i → rl ((ofr T o0 o1) j) = rl (lr (ofr T o0 o1) i j) := fun j hj => by
            unfold lr
            rw [if_pos hj]
          repeat' ((conv => whnf); first
                   | refine eqS_rfl ?_
                   | refine eqA_rfl ?_
                   | refine eqA_of (by assumption) ?_
                   | refine eqS_of (by rfl) ?_
                   | refine eqL_rfl ?_
                   | refine eqJ_rfl ?_
                   | refine flE_intro (fun _ _ => rfl) ?_
                   | refine seS_rfl ?_
                   | refine lsS_of hup ?_
                   | refine lsS_rfl ?_
                   | refine brS_tt ?_
                   | refine brS_ff ?_
                   | refine brS_not ?_
                   | refine brS_t (iEq_self _) ?_
                   | refine brS_t (by assumption) ?_
                   | refine brS_f (by assumption) ?_
                   | refine brS_intro (fun _ => ?_) (fun _ => ?_)
                   | refine ltS_intro (by first | assumption | decide | exact Nat.le_of_ble_eq_true rfl | omega) ?_
                   | refine ixS_of rfl (by first | assumption | decide | omega) ?_
                   | refine okS_intro (by first | assumption | kernel_rfl) ?_
                   | refine nzS_intro (by first | decide | assumption) ?_
                   | refine ltS_intro (by have := lt_of_iLt ‹iLt (Int.ofNat _) (Int.ofNat _) = true›; omega) ?_
                   | refine ixS_of rfl (by have := lt_of_iLt ‹iLt (Int.ofNat _) (Int.ofNat _) = true›; omega) ?_
                   | refine seS_sb (by assumption) (by assumption) ?_
                   | refine ltS_2 (by kernel_rfl) (by first | omega | (simp only [Nat.add_eq, Nat.sub_eq, Nat.mul_eq, Nat.succ_eq_add_one]; omega)) ?_
                   | refine ltS_1 (by kernel_rfl) (by first | omega | (simp only [Nat.add_eq, Nat.sub_eq, Nat.mul_eq, Nat.succ_eq_add_one]; omega)) ?_
                   | refine ixS_of ix1 (Nat.succ_lt_succ hlt) ?_
                   | refine ixS_of (q := 0) rfl (Nat.succ_pos _) ?_
                   | refine ixS_of rfl (by first | omega | (simp only [Nat.add_eq, Nat.sub_eq, Nat.mul_eq, Nat.succ_eq_add_one]; omega)) ?_
                   | refine ltS_intro (by first | omega | (simp only [Nat.add_eq, Nat.sub_eq, Nat.mul_eq, Nat.succ_eq_add_one]; omega)) ?_
                   | refine emS_z (by first | omega | (simp only [Nat.add_eq, Nat.sub_eq, Nat.mul_eq, Nat.succ_eq_add_one]; omega)) ?_
                   | refine emS_p (by first | omega | (simp only [Nat.add_eq, Nat.sub_eq, Nat.mul_eq, Nat.succ_eq_add_one]; omega)) ?_
                   | refine orS_l (by constructor <;> (first | omega | (simp only [Nat.add_eq, Nat.sub_eq, Nat.mul_eq, Nat.succ_eq_add_one]; omega))) ?_
                   | refine orS_l (by first | omega | (simp only [Nat.add_eq, Nat.sub_eq, Nat.mul_eq, Nat.succ_eq_add_one]; omega)) ?_
                   | refine orS_r (by first | omega | (simp only [Nat.add_eq, Nat.sub_eq, Nat.mul_eq, Nat.succ_eq_add_one]; omega)) ?_
                   | refine flE_intro (fun _ _ => rfl) ?_
                   | intro _)
          rename_i az b7 p7 e7
          conv => whnf
          refine call41 (tr1 az (k - 1)) (addL (40000 * (k - (i + 1)) + (20000 + R)) 60) (congrArg (fun z => [Value.agg ⟨[.int .i64 (Int.ofNat T), .slice az z z]⟩, .slice none 0 0]) hkl) (by exact SeesM.wk (m := [(5002, .gr az (k - 1) 86 4 (fun j => rl (lr (ofr T o0 o1) i j)))]) WX (by exact SeesM.cons 1000 (sees_gr (i := 5002) (by rfl)) (SeesM.cons 1001 (sees_nil _ _ _ _) (SeesM.nil _) (fun _ _ _ _ _ _ x hx => by cases hx)) (fun _ _ _ _ _ _ x hx => by rcases List.mem_singleton.1 hx with rfl; exact fun _ h => h))) (by (first | (simp only [addL_eq, addL_rec]; omega) | omega | exact Nat.le_refl _)) ?_
          cases hsp : sp (ofr T o0 o1) k T i with
          | true =>
            have hA : iEq (Int.ofNat (trL (lr (ofr T o0 o1) i) (k - 1) (fun _ => 0) 0 (2 ^ T)).length) (Int.ofNat (trL (ofr T o0 o1) k (fun _ => 0) 0 (2 ^ T)).length) = true := iEq_n.trans (decide_eq_true ((spare_iff hlt).2 hsp))
            have hP := (spL_at (n := k) (T := T) hlt).2 hsp
            have hl := iLt_t hP.1
            have he : iEq (Int.ofNat ((spL (ofr T o0 o1) k T k).getD (spL (ofr T o0 o1) k T i).length 0)) (Int.ofNat i) = true := iEq_n.trans (decide_eq_true hP.2)
            have hq : (iEq (Int.ofNat (trL (lr (ofr T o0 o1) i) (k - 1) (fun _ => 0) 0 (2 ^ T)).length) (Int.ofNat (trL (ofr T o0 o1) k (fun _ => 0) 0 (2 ^ T)).length) == iEq (Int.ofNat ((spL (ofr T o0 o1) k T k).getD (spL (ofr T o0 o1) k T i).length 0)) (Int.ofNat i)) = true := by rw [hA, he]; rfl
            have hs1 : (spL (ofr T o0 o1) k T (i + 1)).length = (spL (ofr T o0 o1) k T i).length + 1 := by rw [spL_succ, hsp]; simp
            repeat' ((conv => whnf); first
                     | refine eqS_rfl ?_
                     | refine eqA_rfl ?_
                     | refine eqA_of (by assumption) ?_
                     | refine eqS_of (by rfl) ?_
                     | refine eqL_rfl ?_
                     | refine eqJ_rfl ?_
                     | refine flE_intro (fun _ _ => rfl) ?_
                     | refine seS_rfl ?_
                     | refine lsS_of hup ?_
                     | refine lsS_rfl ?_
                     | refine brS_tt ?_
                     | refine brS_ff ?_
                     | refine brS_not ?_
                     | refine brS_t (iEq_self _) ?_
                     | refine brS_t (by assumption) ?_
                     | refine brS_f (by assumption) ?_
                     | refine brS_intro (fun _ => ?_) (fun _ => ?_)
                     | refine ltS_intro (by first | assumption | decide | exact Nat.le_of_ble_eq_true rfl | omega) ?_
                     | refine ixS_of rfl (by first | assumption | decide | omega) ?_
                     | refine okS_intro (by first | assumption | kernel_rfl) ?_
                     | refine nzS_intro (by first | decide | assumption) ?_
                     | refine ltS_intro (by have := lt_of_iLt ‹iLt (Int.ofNat _) (Int.ofNat _) = true›; omega) ?_
                     | refine ixS_of rfl (by have := lt_of_iLt ‹iLt (Int.ofNat _) (Int.ofNat _) = true›; omega) ?_
                     | refine seS_sb (by assumption) (by assumption) ?_
                     | refine ltS_2 (by kernel_rfl) (by first | omega | (simp only [Nat.add_eq, Nat.sub_eq, Nat.mul_eq, Nat.succ_eq_add_one]; omega)) ?_
                     | refine ltS_1 (by kernel_rfl) (by first | omega | (simp only [Nat.add_eq, Nat.sub_eq, Nat.mul_eq, Nat.succ_eq_add_one]; omega)) ?_
                     | refine ixS_of ix1 (Nat.succ_lt_succ hlt) ?_
                     | refine ixS_of (q := 0) rfl (Nat.succ_pos _) ?_
                     | refine ixS_of rfl (by first | omega | (simp only [Nat.add_eq, Nat.sub_eq, Nat.mul_eq, Nat.succ_eq_add_one]; omega)) ?_
                     | refine ltS_intro (by first | omega | (simp only [Nat.add_eq, Nat.sub_eq, Nat.mul_eq, Nat.succ_eq_add_one]; omega)) ?_
                     | refine emS_z (by first | omega | (simp only [Nat.add_eq, Nat.sub_eq, Nat.mul_eq, Nat.succ_eq_add_one]; omega)) ?_
                     | refine emS_p (by first | omega | (simp only [Nat.add_eq, Nat.sub_eq, Nat.mul_eq, Nat.succ_eq_add_one]; omega)) ?_
                     | refine orS_l (by constructor <;> (first | omega | (simp only [Nat.add_eq, Nat.sub_eq, Nat.mul_eq, Nat.succ_eq_add_one]; omega))) ?_
                     | refine orS_l (by first | omega | (simp only [Nat.add_eq, Nat.sub_eq, Nat.mul_eq, Nat.succ_eq_add_one]; omega)) ?_
                     | refine orS_r (by first | omega | (simp only [Nat.add_eq, Nat.sub_eq, Nat.mul_eq, Nat.succ_eq_add_one]; omega)) ?_
                     | refine flE_intro (fun _ _ => rfl) ?_
                     | refine call41 (tr0 _) (addL (40000 * (k - (i + 1)) + R) 60) (by rfl) (by exact SeesM.cons 1000 (sees_ro (i := 800) (by rfl)) (SeesM.cons 1001 (sees_nil _ _ _ _) (SeesM.nil _) (fun _ _ _ _ _ _ x hx => by cases hx)) (fun _ _ _ _ _ _ x hx => by rcases List.mem_singleton.1 hx with rfl; exact fun _ h => h)) (by (first | (simp only [addL_eq, addL_rec]; omega) | omega | exact Nat.le_refl _)) ?_
                     | refine brS_t hq ?_
                     | intro _)
            conv => whnf
            exact ⟨k - (i + 1) + 1, [(3, .ptr 1 b3 0), (4, .sl 700 a7 (spL (ofr T o0 o1) k T k).length (spL (ofr T o0 o1) k T k).length), (6, .int .i64 (Int.ofNat (spL (ofr T o0 o1) k T (i + 1)).length)), (21, .int .i64 (Int.ofNat k)), (22, .int .i64 (Int.ofNat (i + 1)))], [(700, .gr a7 (spL (ofr T o0 o1) k T k).length 3 1 (fun z => [.int .i64 (Int.ofNat ((spL (ofr T o0 o1) k T k).getD z 0))])), (1, .own b3 24 [.int .i64 (Int.ofNat T), .sl 800 a8 k k]), (800, .ro a8 k 87 4 (fun z => rl ((ofr T o0 o1) z))), (1000, .ro a n 0 2 fun j => [.int .u8 (Int.ofNat (o0 j)), .int .u8 (Int.ofNat (o1 j))])], addL (40000 * (k - (i + 1)) + R) 40, 5000, by omega, ⟨eqF_rfl _, eqF_rfl _, by rw [hs1]; exact ⟨congrArg (Value.int .i64) (smn (i := (spL (ofr T o0 o1) k T i).length + 1) (by have := spL_len (ofr T o0 o1) k T i; omega)), rfl⟩, eqF_rfl _, ⟨congrArg (Value.int .i64) (smn (i := i + 1) (by omega)), rfl⟩, trivial⟩, WG, by (first | (simp only [addL_eq, addL_rec]; omega) | omega | exact Nat.le_refl _), i + 1, by omega, rfl, rfl, rfl, rfl, rfl⟩
          | false =>
            have hA : iEq (Int.ofNat (trL (lr (ofr T o0 o1) i) (k - 1) (fun _ => 0) 0 (2 ^ T)).length) (Int.ofNat (trL (ofr T o0 o1) k (fun _ => 0) 0 (2 ^ T)).length) = false := iEq_n.trans (decide_eq_false fun h => by have := (spare_iff hlt).1 h; rw [hsp] at this; cases this)
            have hs1 : (spL (ofr T o0 o1) k T (i + 1)).length = (spL (ofr T o0 o1) k T i).length := by rw [spL_succ, hsp]; simp
            by_cases hll : (spL (ofr T o0 o1) k T i).length < (spL (ofr T o0 o1) k T k).length
            · have hl := iLt_t hll
              have he : iEq (Int.ofNat ((spL (ofr T o0 o1) k T k).getD (spL (ofr T o0 o1) k T i).length 0)) (Int.ofNat i) = false := iEq_n.trans (decide_eq_false fun h => by have := (spL_at (n := k) (T := T) hlt).1 ⟨hll, h⟩; rw [hsp] at this; cases this)
              have hq : (iEq (Int.ofNat (trL (lr (ofr T o0 o1) i) (k - 1) (fun _ => 0) 0 (2 ^ T)).length) (Int.ofNat (trL (ofr T o0 o1) k (fun _ => 0) 0 (2 ^ T)).length) == iEq (Int.ofNat ((spL (ofr T o0 o1) k T k).getD (spL (ofr T o0 o1) k T i).length 0)) (Int.ofNat i)) = true := by rw [hA, he]; rfl
              repeat' ((conv => whnf); first
                       | refine eqS_rfl ?_
                       | refine eqA_rfl ?_
                       | refine eqA_of (by assumption) ?_
                       | refine eqS_of (by rfl) ?_
                       | refine eqL_rfl ?_
                       | refine eqJ_rfl ?_
                       | refine flE_intro (fun _ _ => rfl) ?_
                       | refine seS_rfl ?_
                       | refine lsS_of hup ?_
                       | refine lsS_rfl ?_
                       | refine brS_tt ?_
                       | refine brS_ff ?_
                       | refine brS_not ?_
                       | refine brS_t (iEq_self _) ?_
                       | refine brS_t (by assumption) ?_
                       | refine brS_f (by assumption) ?_
                       | refine brS_intro (fun _ => ?_) (fun _ => ?_)
                       | refine ltS_intro (by first | assumption | decide | exact Nat.le_of_ble_eq_true rfl | omega) ?_
                       | refine ixS_of rfl (by first | assumption | decide | omega) ?_
                       | refine okS_intro (by first | assumption | kernel_rfl) ?_
                       | refine nzS_intro (by first | decide | assumption) ?_
                       | refine ltS_intro (by have := lt_of_iLt ‹iLt (Int.ofNat _) (Int.ofNat _) = true›; omega) ?_
                       | refine ixS_of rfl (by have := lt_of_iLt ‹iLt (Int.ofNat _) (Int.ofNat _) = true›; omega) ?_
                       | refine seS_sb (by assumption) (by assumption) ?_
                       | refine ltS_2 (by kernel_rfl) (by first | omega | (simp only [Nat.add_eq, Nat.sub_eq, Nat.mul_eq, Nat.succ_eq_add_one]; omega)) ?_
                       | refine ltS_1 (by kernel_rfl) (by first | omega | (simp only [Nat.add_eq, Nat.sub_eq, Nat.mul_eq, Nat.succ_eq_add_one]; omega)) ?_
                       | refine ixS_of ix1 (Nat.succ_lt_succ hlt) ?_
                       | refine ixS_of (q := 0) rfl (Nat.succ_pos _) ?_
                       | refine ixS_of rfl (by first | omega | (simp only [Nat.add_eq, Nat.sub_eq, Nat.mul_eq, Nat.succ_eq_add_one]; omega)) ?_
                       | refine ltS_intro (by first | omega | (simp only [Nat.add_eq, Nat.sub_eq, Nat.mul_eq, Nat.succ_eq_add_one]; omega)) ?_
                       | refine emS_z (by first | omega | (simp only [Nat.add_eq, Nat.sub_eq, Nat.mul_eq, Nat.succ_eq_add_one]; omega)) ?_
                       | refine emS_p (by first | omega | (simp only [Nat.add_eq, Nat.sub_eq, Nat.mul_eq, Nat.succ_eq_add_one]; omega)) ?_
                       | refine orS_l (by constructor <;> (first | omega | (simp only [Nat.add_eq, Nat.sub_eq, Nat.mul_eq, Nat.succ_eq_add_one]; omega))) ?_
                       | refine orS_l (by first | omega | (simp only [Nat.add_eq, Nat.sub_eq, Nat.mul_eq, Nat.succ_eq_add_one]; omega)) ?_
                       | refine orS_r (by first | omega | (simp only [Nat.add_eq, Nat.sub_eq, Nat.mul_eq, Nat.succ_eq_add_one]; omega)) ?_
                       | refine flE_intro (fun _ _ => rfl) ?_
                       | refine call41 (tr0 _) (addL (40000 * (k - (i + 1)) + R) 60) (by rfl) (by exact SeesM.cons 1000 (sees_ro (i := 800) (by rfl)) (SeesM.cons 1001 (sees_nil _ _ _ _) (SeesM.nil _) (fun _ _ _ _ _ _ x hx => by cases hx)) (fun _ _ _ _ _ _ x hx => by rcases List.mem_singleton.1 hx with rfl; exact fun _ h => h)) (by (first | (simp only [addL_eq, addL_rec]; omega) | omega | exact Nat.le_refl _)) ?_
                       | refine brS_t hq ?_
                       | intro _)
              conv => whnf
              exact ⟨k - (i + 1) + 1, [(3, .ptr 1 b3 0), (4, .sl 700 a7 (spL (ofr T o0 o1) k T k).length (spL (ofr T o0 o1) k T k).length), (6, .int .i64 (Int.ofNat (spL (ofr T o0 o1) k T (i + 1)).length)), (21, .int .i64 (Int.ofNat k)), (22, .int .i64 (Int.ofNat (i + 1)))], [(700, .gr a7 (spL (ofr T o0 o1) k T k).length 3 1 (fun z => [.int .i64 (Int.ofNat ((spL (ofr T o0 o1) k T k).getD z 0))])), (1, .own b3 24 [.int .i64 (Int.ofNat T), .sl 800 a8 k k]), (800, .ro a8 k 87 4 (fun z => rl ((ofr T o0 o1) z))), (1000, .ro a n 0 2 fun j => [.int .u8 (Int.ofNat (o0 j)), .int .u8 (Int.ofNat (o1 j))])], addL (40000 * (k - (i + 1)) + R) 40, 5000, by omega, ⟨eqF_rfl _, eqF_rfl _, by rw [hs1]; exact eqF_rfl _, eqF_rfl _, ⟨congrArg (Value.int .i64) (smn (i := i + 1) (by omega)), rfl⟩, trivial⟩, WG, by (first | (simp only [addL_eq, addL_rec]; omega) | omega | exact Nat.le_refl _), i + 1, by omega, rfl, rfl, rfl, rfl, rfl⟩
            · have hl := iLt_f (Nat.le_of_not_lt hll)
              have hq : (iEq (Int.ofNat (trL (lr (ofr T o0 o1) i) (k - 1) (fun _ => 0) 0 (2 ^ T)).length) (Int.ofNat (trL (ofr T o0 o1) k (fun _ => 0) 0 (2 ^ T)).length) == false) = true := by rw [hA]; rfl
              repeat' ((conv => whnf); first
                       | refine eqS_rfl ?_
                       | refine eqA_rfl ?_
                       | refine eqA_of (by assumption) ?_
                       | refine eqS_of (by rfl) ?_
                       | refine eqL_rfl ?_
                       | refine eqJ_rfl ?_
                       | refine flE_intro (fun _ _ => rfl) ?_
                       | refine seS_rfl ?_
                       | refine lsS_of hup ?_
                       | refine lsS_rfl ?_
                       | refine brS_tt ?_
                       | refine brS_ff ?_
                       | refine brS_not ?_
                       | refine brS_t (iEq_self _) ?_
                       | refine brS_t (by assumption) ?_
                       | refine brS_f (by assumption) ?_
                       | refine brS_intro (fun _ => ?_) (fun _ => ?_)
                       | refine ltS_intro (by first | assumption | decide | exact Nat.le_of_ble_eq_true rfl | omega) ?_
                       | refine ixS_of rfl (by first | assumption | decide | omega) ?_
                       | refine okS_intro (by first | assumption | kernel_rfl) ?_
                       | refine nzS_intro (by first | decide | assumption) ?_
                       | refine ltS_intro (by have := lt_of_iLt ‹iLt (Int.ofNat _) (Int.ofNat _) = true›; omega) ?_
                       | refine ixS_of rfl (by have := lt_of_iLt ‹iLt (Int.ofNat _) (Int.ofNat _) = true›; omega) ?_
                       | refine seS_sb (by assumption) (by assumption) ?_
                       | refine ltS_2 (by kernel_rfl) (by first | omega | (simp only [Nat.add_eq, Nat.sub_eq, Nat.mul_eq, Nat.succ_eq_add_one]; omega)) ?_
                       | refine ltS_1 (by kernel_rfl) (by first | omega | (simp only [Nat.add_eq, Nat.sub_eq, Nat.mul_eq, Nat.succ_eq_add_one]; omega)) ?_
                       | refine ixS_of ix1 (Nat.succ_lt_succ hlt) ?_
                       | refine ixS_of (q := 0) rfl (Nat.succ_pos _) ?_
                       | refine ixS_of rfl (by first | omega | (simp only [Nat.add_eq, Nat.sub_eq, Nat.mul_eq, Nat.succ_eq_add_one]; omega)) ?_
                       | refine ltS_intro (by first | omega | (simp only [Nat.add_eq, Nat.sub_eq, Nat.mul_eq, Nat.succ_eq_add_one]; omega)) ?_
                       | refine emS_z (by first | omega | (simp only [Nat.add_eq, Nat.sub_eq, Nat.mul_eq, Nat.succ_eq_add_one]; omega)) ?_
                       | refine emS_p (by first | omega | (simp only [Nat.add_eq, Nat.sub_eq, Nat.mul_eq, Nat.succ_eq_add_one]; omega)) ?_
                       | refine orS_l (by constructor <;> (first | omega | (simp only [Nat.add_eq, Nat.sub_eq, Nat.mul_eq, Nat.succ_eq_add_one]; omega))) ?_
                       | refine orS_l (by first | omega | (simp only [Nat.add_eq, Nat.sub_eq, Nat.mul_eq, Nat.succ_eq_add_one]; omega)) ?_
                       | refine orS_r (by first | omega | (simp only [Nat.add_eq, Nat.sub_eq, Nat.mul_eq, Nat.succ_eq_add_one]; omega)) ?_
                       | refine flE_intro (fun _ _ => rfl) ?_
                       | refine call41 (tr0 _) (addL (40000 * (k - (i + 1)) + R) 60) (by rfl) (by exact SeesM.cons 1000 (sees_ro (i := 800) (by rfl)) (SeesM.cons 1001 (sees_nil _ _ _ _) (SeesM.nil _) (fun _ _ _ _ _ _ x hx => by cases hx)) (fun _ _ _ _ _ _ x hx => by rcases List.mem_singleton.1 hx with rfl; exact fun _ h => h)) (by (first | (simp only [addL_eq, addL_rec]; omega) | omega | exact Nat.le_refl _)) ?_
                       | refine brS_t hq ?_
                       | intro _)
              conv => whnf
              exact ⟨k - (i + 1) + 1, [(3, .ptr 1 b3 0), (4, .sl 700 a7 (spL (ofr T o0 o1) k T k).length (spL (ofr T o0 o1) k T k).length), (6, .int .i64 (Int.ofNat (spL (ofr T o0 o1) k T (i + 1)).length)), (21, .int .i64 (Int.ofNat k)), (22, .int .i64 (Int.ofNat (i + 1)))], [(700, .gr a7 (spL (ofr T o0 o1) k T k).length 3 1 (fun z => [.int .i64 (Int.ofNat ((spL (ofr T o0 o1) k T k).getD z 0))])), (1, .own b3 24 [.int .i64 (Int.ofNat T), .sl 800 a8 k k]), (800, .ro a8 k 87 4 (fun z => rl ((ofr T o0 o1) z))), (1000, .ro a n 0 2 fun j => [.int .u8 (Int.ofNat (o0 j)), .int .u8 (Int.ofNat (o1 j))])], addL (40000 * (k - (i + 1)) + R) 40, 5000, by omega, ⟨eqF_rfl _, eqF_rfl _, by rw [hs1]; exact eqF_rfl _, eqF_rfl _, ⟨congrArg (Value.int .i64) (smn (i := i + 1) (by omega)), rfl⟩, trivial⟩, WG, by (first | (simp only [addL_eq, addL_rec]; omega) | omega | exact Nat.le_refl _), i + 1, by omega, rfl, rfl, rfl, rfl, rfl⟩
        · have hkl : Nat.add i (Nat.sub k (i + 1)) = k - 1 := by show i + (k - (i + 1)) = k - 1; omega
          have hpg : ∀ j, j < Nat.add i (Nat.sub k (i + 1)) → growF i (fun z => rl ((ofr T o0 o1) z)) (fun j => (fun z => rl ((ofr T o0 o1) z)) (Nat.add (i + 1) j)) j = rl (lr (ofr T o0 o1) i j) := fun j hj => by
            unfold growF lr
            by_cases hji : j < i
            · rw [blt_of hji, if_pos hji]; rfl
            · have hb : Nat.blt j i = false := by
                cases hh : Nat.blt j i with
                | false => rfl
                | true => have := blt_true hh; omega
              rw [hb, if_neg hji]
              show rl ((ofr T o0 o1) (i + 1 + (j - i))) = _
              rw [show i + 1 + (j - i) = j + 1 by omega]
          repeat' ((conv => whnf); first
                   | refine eqS_rfl ?_
                   | refine eqA_rfl ?_
                   | refine eqA_of (by assumption) ?_
                   | refine eqS_of (by rfl) ?_
                   | refine eqL_rfl ?_
                   | refine eqJ_rfl ?_
                   | refine flE_intro (fun _ _ => rfl) ?_
                   | refine seS_rfl ?_
                   | refine lsS_of hup ?_
                   | refine lsS_rfl ?_
                   | refine brS_tt ?_
                   | refine brS_ff ?_
                   | refine brS_not ?_
                   | refine brS_t (iEq_self _) ?_
                   | refine brS_t (by assumption) ?_
                   | refine brS_f (by assumption) ?_
                   | refine brS_intro (fun _ => ?_) (fun _ => ?_)
                   | refine ltS_intro (by first | assumption | decide | exact Nat.le_of_ble_eq_true rfl | omega) ?_
                   | refine ixS_of rfl (by first | assumption | decide | omega) ?_
                   | refine okS_intro (by first | assumption | kernel_rfl) ?_
                   | refine nzS_intro (by first | decide | assumption) ?_
                   | refine ltS_intro (by have := lt_of_iLt ‹iLt (Int.ofNat _) (Int.ofNat _) = true›; omega) ?_
                   | refine ixS_of rfl (by have := lt_of_iLt ‹iLt (Int.ofNat _) (Int.ofNat _) = true›; omega) ?_
                   | refine seS_sb (by assumption) (by assumption) ?_
                   | refine ltS_2 (by kernel_rfl) (by first | omega | (simp only [Nat.add_eq, Nat.sub_eq, Nat.mul_eq, Nat.succ_eq_add_one]; omega)) ?_
                   | refine ltS_1 (by kernel_rfl) (by first | omega | (simp only [Nat.add_eq, Nat.sub_eq, Nat.mul_eq, Nat.succ_eq_add_one]; omega)) ?_
                   | refine ixS_of ix1 (Nat.succ_lt_succ hlt) ?_
                   | refine ixS_of (q := 0) rfl (Nat.succ_pos _) ?_
                   | refine ixS_of rfl (by first | omega | (simp only [Nat.add_eq, Nat.sub_eq, Nat.mul_eq, Nat.succ_eq_add_one]; omega)) ?_
                   | refine ltS_intro (by first | omega | (simp only [Nat.add_eq, Nat.sub_eq, Nat.mul_eq, Nat.succ_eq_add_one]; omega)) ?_
                   | refine emS_z (by first | omega | (simp only [Nat.add_eq, Nat.sub_eq, Nat.mul_eq, Nat.succ_eq_add_one]; omega)) ?_
                   | refine emS_p (by first | omega | (simp only [Nat.add_eq, Nat.sub_eq, Nat.mul_eq, Nat.succ_eq_add_one]; omega)) ?_
                   | refine orS_l (by constructor <;> (first | omega | (simp only [Nat.add_eq, Nat.sub_eq, Nat.mul_eq, Nat.succ_eq_add_one]; omega))) ?_
                   | refine orS_l (by first | omega | (simp only [Nat.add_eq, Nat.sub_eq, Nat.mul_eq, Nat.succ_eq_add_one]; omega)) ?_
                   | refine orS_r (by first | omega | (simp only [Nat.add_eq, Nat.sub_eq, Nat.mul_eq, Nat.succ_eq_add_one]; omega)) ?_
                   | refine flE_intro (fun _ _ => rfl) ?_
                   | intro _)
          rename_i az
          conv => whnf
          refine call41 (tr1 az (k - 1)) (addL (40000 * (k - (i + 1)) + (20000 + R)) 60) (congrArg (fun z => [Value.agg ⟨[.int .i64 (Int.ofNat T), .slice az z z]⟩, .slice none 0 0]) hkl) (by exact SeesM.wk (m := [(5003, .gr az (k - 1) 86 4 (fun j => rl (lr (ofr T o0 o1) i j)))]) WX (by exact SeesM.cons 1000 (sees_gr (i := 5003) (by rfl)) (SeesM.cons 1001 (sees_nil _ _ _ _) (SeesM.nil _) (fun _ _ _ _ _ _ x hx => by cases hx)) (fun _ _ _ _ _ _ x hx => by rcases List.mem_singleton.1 hx with rfl; exact fun _ h => h))) (by (first | (simp only [addL_eq, addL_rec]; omega) | omega | exact Nat.le_refl _)) ?_
          cases hsp : sp (ofr T o0 o1) k T i with
          | true =>
            have hA : iEq (Int.ofNat (trL (lr (ofr T o0 o1) i) (k - 1) (fun _ => 0) 0 (2 ^ T)).length) (Int.ofNat (trL (ofr T o0 o1) k (fun _ => 0) 0 (2 ^ T)).length) = true := iEq_n.trans (decide_eq_true ((spare_iff hlt).2 hsp))
            have hP := (spL_at (n := k) (T := T) hlt).2 hsp
            have hl := iLt_t hP.1
            have he : iEq (Int.ofNat ((spL (ofr T o0 o1) k T k).getD (spL (ofr T o0 o1) k T i).length 0)) (Int.ofNat i) = true := iEq_n.trans (decide_eq_true hP.2)
            have hq : (iEq (Int.ofNat (trL (lr (ofr T o0 o1) i) (k - 1) (fun _ => 0) 0 (2 ^ T)).length) (Int.ofNat (trL (ofr T o0 o1) k (fun _ => 0) 0 (2 ^ T)).length) == iEq (Int.ofNat ((spL (ofr T o0 o1) k T k).getD (spL (ofr T o0 o1) k T i).length 0)) (Int.ofNat i)) = true := by rw [hA, he]; rfl
            have hs1 : (spL (ofr T o0 o1) k T (i + 1)).length = (spL (ofr T o0 o1) k T i).length + 1 := by rw [spL_succ, hsp]; simp
            repeat' ((conv => whnf); first
                     | refine eqS_rfl ?_
                     | refine eqA_rfl ?_
                     | refine eqA_of (by assumption) ?_
                     | refine eqS_of (by rfl) ?_
                     | refine eqL_rfl ?_
                     | refine eqJ_rfl ?_
                     | refine flE_intro (fun _ _ => rfl) ?_
                     | refine seS_rfl ?_
                     | refine lsS_of hup ?_
                     | refine lsS_rfl ?_
                     | refine brS_tt ?_
                     | refine brS_ff ?_
                     | refine brS_not ?_
                     | refine brS_t (iEq_self _) ?_
                     | refine brS_t (by assumption) ?_
                     | refine brS_f (by assumption) ?_
                     | refine brS_intro (fun _ => ?_) (fun _ => ?_)
                     | refine ltS_intro (by first | assumption | decide | exact Nat.le_of_ble_eq_true rfl | omega) ?_
                     | refine ixS_of rfl (by first | assumption | decide | omega) ?_
                     | refine okS_intro (by first | assumption | kernel_rfl) ?_
                     | refine nzS_intro (by first | decide | assumption) ?_
                     | refine ltS_intro (by have := lt_of_iLt ‹iLt (Int.ofNat _) (Int.ofNat _) = true›; omega) ?_
                     | refine ixS_of rfl (by have := lt_of_iLt ‹iLt (Int.ofNat _) (Int.ofNat _) = true›; omega) ?_
                     | refine seS_sb (by assumption) (by assumption) ?_
                     | refine ltS_2 (by kernel_rfl) (by first | omega | (simp only [Nat.add_eq, Nat.sub_eq, Nat.mul_eq, Nat.succ_eq_add_one]; omega)) ?_
                     | refine ltS_1 (by kernel_rfl) (by first | omega | (simp only [Nat.add_eq, Nat.sub_eq, Nat.mul_eq, Nat.succ_eq_add_one]; omega)) ?_
                     | refine ixS_of ix1 (Nat.succ_lt_succ hlt) ?_
                     | refine ixS_of (q := 0) rfl (Nat.succ_pos _) ?_
                     | refine ixS_of rfl (by first | omega | (simp only [Nat.add_eq, Nat.sub_eq, Nat.mul_eq, Nat.succ_eq_add_one]; omega)) ?_
                     | refine ltS_intro (by first | omega | (simp only [Nat.add_eq, Nat.sub_eq, Nat.mul_eq, Nat.succ_eq_add_one]; omega)) ?_
                     | refine emS_z (by first | omega | (simp only [Nat.add_eq, Nat.sub_eq, Nat.mul_eq, Nat.succ_eq_add_one]; omega)) ?_
                     | refine emS_p (by first | omega | (simp only [Nat.add_eq, Nat.sub_eq, Nat.mul_eq, Nat.succ_eq_add_one]; omega)) ?_
                     | refine orS_l (by constructor <;> (first | omega | (simp only [Nat.add_eq, Nat.sub_eq, Nat.mul_eq, Nat.succ_eq_add_one]; omega))) ?_
                     | refine orS_l (by first | omega | (simp only [Nat.add_eq, Nat.sub_eq, Nat.mul_eq, Nat.succ_eq_add_one]; omega)) ?_
                     | refine orS_r (by first | omega | (simp only [Nat.add_eq, Nat.sub_eq, Nat.mul_eq, Nat.succ_eq_add_one]; omega)) ?_
                     | refine flE_intro (fun _ _ => rfl) ?_
                     | refine call41 (tr0 _) (addL (40000 * (k - (i + 1)) + R) 60) (by rfl) (by exact SeesM.cons 1000 (sees_ro (i := 800) (by rfl)) (SeesM.cons 1001 (sees_nil _ _ _ _) (SeesM.nil _) (fun _ _ _ _ _ _ x hx => by cases hx)) (fun _ _ _ _ _ _ x hx => by rcases List.mem_singleton.1 hx with rfl; exact fun _ h => h)) (by (first | (simp only [addL_eq, addL_rec]; omega) | omega | exact Nat.le_refl _)) ?_
                     | refine brS_t hq ?_
                     | intro _)
            conv => whnf
            exact ⟨k - (i + 1) + 1, [(3, .ptr 1 b3 0), (4, .sl 700 a7 (spL (ofr T o0 o1) k T k).length (spL (ofr T o0 o1) k T k).length), (6, .int .i64 (Int.ofNat (spL (ofr T o0 o1) k T (i + 1)).length)), (21, .int .i64 (Int.ofNat k)), (22, .int .i64 (Int.ofNat (i + 1)))], [(700, .gr a7 (spL (ofr T o0 o1) k T k).length 3 1 (fun z => [.int .i64 (Int.ofNat ((spL (ofr T o0 o1) k T k).getD z 0))])), (1, .own b3 24 [.int .i64 (Int.ofNat T), .sl 800 a8 k k]), (800, .ro a8 k 87 4 (fun z => rl ((ofr T o0 o1) z))), (1000, .ro a n 0 2 fun j => [.int .u8 (Int.ofNat (o0 j)), .int .u8 (Int.ofNat (o1 j))])], addL (40000 * (k - (i + 1)) + R) 40, 5000, by omega, ⟨eqF_rfl _, eqF_rfl _, by rw [hs1]; exact ⟨congrArg (Value.int .i64) (smn (i := (spL (ofr T o0 o1) k T i).length + 1) (by have := spL_len (ofr T o0 o1) k T i; omega)), rfl⟩, eqF_rfl _, ⟨congrArg (Value.int .i64) (smn (i := i + 1) (by omega)), rfl⟩, trivial⟩, WG, by (first | (simp only [addL_eq, addL_rec]; omega) | omega | exact Nat.le_refl _), i + 1, by omega, rfl, rfl, rfl, rfl, rfl⟩
          | false =>
            have hA : iEq (Int.ofNat (trL (lr (ofr T o0 o1) i) (k - 1) (fun _ => 0) 0 (2 ^ T)).length) (Int.ofNat (trL (ofr T o0 o1) k (fun _ => 0) 0 (2 ^ T)).length) = false := iEq_n.trans (decide_eq_false fun h => by have := (spare_iff hlt).1 h; rw [hsp] at this; cases this)
            have hs1 : (spL (ofr T o0 o1) k T (i + 1)).length = (spL (ofr T o0 o1) k T i).length := by rw [spL_succ, hsp]; simp
            by_cases hll : (spL (ofr T o0 o1) k T i).length < (spL (ofr T o0 o1) k T k).length
            · have hl := iLt_t hll
              have he : iEq (Int.ofNat ((spL (ofr T o0 o1) k T k).getD (spL (ofr T o0 o1) k T i).length 0)) (Int.ofNat i) = false := iEq_n.trans (decide_eq_false fun h => by have := (spL_at (n := k) (T := T) hlt).1 ⟨hll, h⟩; rw [hsp] at this; cases this)
              have hq : (iEq (Int.ofNat (trL (lr (ofr T o0 o1) i) (k - 1) (fun _ => 0) 0 (2 ^ T)).length) (Int.ofNat (trL (ofr T o0 o1) k (fun _ => 0) 0 (2 ^ T)).length) == iEq (Int.ofNat ((spL (ofr T o0 o1) k T k).getD (spL (ofr T o0 o1) k T i).length 0)) (Int.ofNat i)) = true := by rw [hA, he]; rfl
              repeat' ((conv => whnf); first
                       | refine eqS_rfl ?_
                       | refine eqA_rfl ?_
                       | refine eqA_of (by assumption) ?_
                       | refine eqS_of (by rfl) ?_
                       | refine eqL_rfl ?_
                       | refine eqJ_rfl ?_
                       | refine flE_intro (fun _ _ => rfl) ?_
                       | refine seS_rfl ?_
                       | refine lsS_of hup ?_
                       | refine lsS_rfl ?_
                       | refine brS_tt ?_
                       | refine brS_ff ?_
                       | refine brS_not ?_
                       | refine brS_t (iEq_self _) ?_
                       | refine brS_t (by assumption) ?_
                       | refine brS_f (by assumption) ?_
                       | refine brS_intro (fun _ => ?_) (fun _ => ?_)
                       | refine ltS_intro (by first | assumption | decide | exact Nat.le_of_ble_eq_true rfl | omega) ?_
                       | refine ixS_of rfl (by first | assumption | decide | omega) ?_
                       | refine okS_intro (by first | assumption | kernel_rfl) ?_
                       | refine nzS_intro (by first | decide | assumption) ?_
                       | refine ltS_intro (by have := lt_of_iLt ‹iLt (Int.ofNat _) (Int.ofNat _) = true›; omega) ?_
                       | refine ixS_of rfl (by have := lt_of_iLt ‹iLt (Int.ofNat _) (Int.ofNat _) = true›; omega) ?_
                       | refine seS_sb (by assumption) (by assumption) ?_
                       | refine ltS_2 (by kernel_rfl) (by first | omega | (simp only [Nat.add_eq, Nat.sub_eq, Nat.mul_eq, Nat.succ_eq_add_one]; omega)) ?_
                       | refine ltS_1 (by kernel_rfl) (by first | omega | (simp only [Nat.add_eq, Nat.sub_eq, Nat.mul_eq, Nat.succ_eq_add_one]; omega)) ?_
                       | refine ixS_of ix1 (Nat.succ_lt_succ hlt) ?_
                       | refine ixS_of (q := 0) rfl (Nat.succ_pos _) ?_
                       | refine ixS_of rfl (by first | omega | (simp only [Nat.add_eq, Nat.sub_eq, Nat.mul_eq, Nat.succ_eq_add_one]; omega)) ?_
                       | refine ltS_intro (by first | omega | (simp only [Nat.add_eq, Nat.sub_eq, Nat.mul_eq, Nat.succ_eq_add_one]; omega)) ?_
                       | refine emS_z (by first | omega | (simp only [Nat.add_eq, Nat.sub_eq, Nat.mul_eq, Nat.succ_eq_add_one]; omega)) ?_
                       | refine emS_p (by first | omega | (simp only [Nat.add_eq, Nat.sub_eq, Nat.mul_eq, Nat.succ_eq_add_one]; omega)) ?_
                       | refine orS_l (by constructor <;> (first | omega | (simp only [Nat.add_eq, Nat.sub_eq, Nat.mul_eq, Nat.succ_eq_add_one]; omega))) ?_
                       | refine orS_l (by first | omega | (simp only [Nat.add_eq, Nat.sub_eq, Nat.mul_eq, Nat.succ_eq_add_one]; omega)) ?_
                       | refine orS_r (by first | omega | (simp only [Nat.add_eq, Nat.sub_eq, Nat.mul_eq, Nat.succ_eq_add_one]; omega)) ?_
                       | refine flE_intro (fun _ _ => rfl) ?_
                       | refine call41 (tr0 _) (addL (40000 * (k - (i + 1)) + R) 60) (by rfl) (by exact SeesM.cons 1000 (sees_ro (i := 800) (by rfl)) (SeesM.cons 1001 (sees_nil _ _ _ _) (SeesM.nil _) (fun _ _ _ _ _ _ x hx => by cases hx)) (fun _ _ _ _ _ _ x hx => by rcases List.mem_singleton.1 hx with rfl; exact fun _ h => h)) (by (first | (simp only [addL_eq, addL_rec]; omega) | omega | exact Nat.le_refl _)) ?_
                       | refine brS_t hq ?_
                       | intro _)
              conv => whnf
              exact ⟨k - (i + 1) + 1, [(3, .ptr 1 b3 0), (4, .sl 700 a7 (spL (ofr T o0 o1) k T k).length (spL (ofr T o0 o1) k T k).length), (6, .int .i64 (Int.ofNat (spL (ofr T o0 o1) k T (i + 1)).length)), (21, .int .i64 (Int.ofNat k)), (22, .int .i64 (Int.ofNat (i + 1)))], [(700, .gr a7 (spL (ofr T o0 o1) k T k).length 3 1 (fun z => [.int .i64 (Int.ofNat ((spL (ofr T o0 o1) k T k).getD z 0))])), (1, .own b3 24 [.int .i64 (Int.ofNat T), .sl 800 a8 k k]), (800, .ro a8 k 87 4 (fun z => rl ((ofr T o0 o1) z))), (1000, .ro a n 0 2 fun j => [.int .u8 (Int.ofNat (o0 j)), .int .u8 (Int.ofNat (o1 j))])], addL (40000 * (k - (i + 1)) + R) 40, 5000, by omega, ⟨eqF_rfl _, eqF_rfl _, by rw [hs1]; exact eqF_rfl _, eqF_rfl _, ⟨congrArg (Value.int .i64) (smn (i := i + 1) (by omega)), rfl⟩, trivial⟩, WG, by (first | (simp only [addL_eq, addL_rec]; omega) | omega | exact Nat.le_refl _), i + 1, by omega, rfl, rfl, rfl, rfl, rfl⟩
            · have hl := iLt_f (Nat.le_of_not_lt hll)
              have hq : (iEq (Int.ofNat (trL (lr (ofr T o0 o1) i) (k - 1) (fun _ => 0) 0 (2 ^ T)).length) (Int.ofNat (trL (ofr T o0 o1) k (fun _ => 0) 0 (2 ^ T)).length) == false) = true := by rw [hA]; rfl
              repeat' ((conv => whnf); first
                       | refine eqS_rfl ?_
                       | refine eqA_rfl ?_
                       | refine eqA_of (by assumption) ?_
                       | refine eqS_of (by rfl) ?_
                       | refine eqL_rfl ?_
                       | refine eqJ_rfl ?_
                       | refine flE_intro (fun _ _ => rfl) ?_
                       | refine seS_rfl ?_
                       | refine lsS_of hup ?_
                       | refine lsS_rfl ?_
                       | refine brS_tt ?_
                       | refine brS_ff ?_
                       | refine brS_not ?_
                       | refine brS_t (iEq_self _) ?_
                       | refine brS_t (by assumption) ?_
                       | refine brS_f (by assumption) ?_
                       | refine brS_intro (fun _ => ?_) (fun _ => ?_)
                       | refine ltS_intro (by first | assumption | decide | exact Nat.le_of_ble_eq_true rfl | omega) ?_
                       | refine ixS_of rfl (by first | assumption | decide | omega) ?_
                       | refine okS_intro (by first | assumption | kernel_rfl) ?_
                       | refine nzS_intro (by first | decide | assumption) ?_
                       | refine ltS_intro (by have := lt_of_iLt ‹iLt (Int.ofNat _) (Int.ofNat _) = true›; omega) ?_
                       | refine ixS_of rfl (by have := lt_of_iLt ‹iLt (Int.ofNat _) (Int.ofNat _) = true›; omega) ?_
                       | refine seS_sb (by assumption) (by assumption) ?_
                       | refine ltS_2 (by kernel_rfl) (by first | omega | (simp only [Nat.add_eq, Nat.sub_eq, Nat.mul_eq, Nat.succ_eq_add_one]; omega)) ?_
                       | refine ltS_1 (by kernel_rfl) (by first | omega | (simp only [Nat.add_eq, Nat.sub_eq, Nat.mul_eq, Nat.succ_eq_add_one]; omega)) ?_
                       | refine ixS_of ix1 (Nat.succ_lt_succ hlt) ?_
                       | refine ixS_of (q := 0) rfl (Nat.succ_pos _) ?_
                       | refine ixS_of rfl (by first | omega | (simp only [Nat.add_eq, Nat.sub_eq, Nat.mul_eq, Nat.succ_eq_add_one]; omega)) ?_
                       | refine ltS_intro (by first | omega | (simp only [Nat.add_eq, Nat.sub_eq, Nat.mul_eq, Nat.succ_eq_add_one]; omega)) ?_
                       | refine emS_z (by first | omega | (simp only [Nat.add_eq, Nat.sub_eq, Nat.mul_eq, Nat.succ_eq_add_one]; omega)) ?_
                       | refine emS_p (by first | omega | (simp only [Nat.add_eq, Nat.sub_eq, Nat.mul_eq, Nat.succ_eq_add_one]; omega)) ?_
                       | refine orS_l (by constructor <;> (first | omega | (simp only [Nat.add_eq, Nat.sub_eq, Nat.mul_eq, Nat.succ_eq_add_one]; omega))) ?_
                       | refine orS_l (by first | omega | (simp only [Nat.add_eq, Nat.sub_eq, Nat.mul_eq, Nat.succ_eq_add_one]; omega)) ?_
                       | refine orS_r (by first | omega | (simp only [Nat.add_eq, Nat.sub_eq, Nat.mul_eq, Nat.succ_eq_add_one]; omega)) ?_
                       | refine flE_intro (fun _ _ => rfl) ?_
                       | refine call41 (tr0 _) (addL (40000 * (k - (i + 1)) + R) 60) (by rfl) (by exact SeesM.cons 1000 (sees_ro (i := 800) (by rfl)) (SeesM.cons 1001 (sees_nil _ _ _ _) (SeesM.nil _) (fun _ _ _ _ _ _ x hx => by cases hx)) (fun _ _ _ _ _ _ x hx => by rcases List.mem_singleton.1 hx with rfl; exact fun _ h => h)) (by (first | (simp only [addL_eq, addL_rec]; omega) | omega | exact Nat.le_refl _)) ?_
                       | refine brS_t hq ?_
                       | intro _)
              conv => whnf
              exact ⟨k - (i + 1) + 1, [(3, .ptr 1 b3 0), (4, .sl 700 a7 (spL (ofr T o0 o1) k T k).length (spL (ofr T o0 o1) k T k).length), (6, .int .i64 (Int.ofNat (spL (ofr T o0 o1) k T (i + 1)).length)), (21, .int .i64 (Int.ofNat k)), (22, .int .i64 (Int.ofNat (i + 1)))], [(700, .gr a7 (spL (ofr T o0 o1) k T k).length 3 1 (fun z => [.int .i64 (Int.ofNat ((spL (ofr T o0 o1) k T k).getD z 0))])), (1, .own b3 24 [.int .i64 (Int.ofNat T), .sl 800 a8 k k]), (800, .ro a8 k 87 4 (fun z => rl ((ofr T o0 o1) z))), (1000, .ro a n 0 2 fun j => [.int .u8 (Int.ofNat (o0 j)), .int .u8 (Int.ofNat (o1 j))])], addL (40000 * (k - (i + 1)) + R) 40, 5000, by omega, ⟨eqF_rfl _, eqF_rfl _, by rw [hs1]; exact eqF_rfl _, eqF_rfl _, ⟨congrArg (Value.int .i64) (smn (i := i + 1) (by omega)), rfl⟩, trivial⟩, WG, by (first | (simp only [addL_eq, addL_rec]; omega) | omega | exact Nat.le_refl _), i + 1, by omega, rfl, rfl, rfl, rfl, rfl⟩
  · have e2 : i = k := by omega
    subst e2
    have d1 := iLt_f (Nat.le_refl i)
    repeat' ((conv => whnf); first
             | refine eqS_rfl ?_
             | refine eqA_rfl ?_
             | refine eqA_of (by assumption) ?_
             | refine eqS_of (by rfl) ?_
             | refine eqL_rfl ?_
             | refine eqJ_rfl ?_
             | refine flE_intro (fun _ _ => rfl) ?_
             | refine seS_rfl ?_
             | refine lsS_of hup ?_
             | refine lsS_rfl ?_
             | refine brS_tt ?_
             | refine brS_ff ?_
             | refine brS_not ?_
             | refine brS_t (iEq_self _) ?_
             | refine brS_t (by assumption) ?_
             | refine brS_f (by assumption) ?_
             | refine brS_intro (fun _ => ?_) (fun _ => ?_)
             | refine ltS_intro (by first | assumption | decide | exact Nat.le_of_ble_eq_true rfl | omega) ?_
             | refine ixS_of rfl (by first | assumption | decide | omega) ?_
             | refine okS_intro (by first | assumption | kernel_rfl) ?_
             | refine nzS_intro (by first | decide | assumption) ?_
             | refine call_w rfl ?_
             | intro _)
    conv => whnf
    exact ⟨rfl, by (first | (simp only [addL_eq, addL_rec]; omega) | omega | exact Nat.le_refl _)⟩
end Go.Proofs.Ytoocmgefoagfnaa
