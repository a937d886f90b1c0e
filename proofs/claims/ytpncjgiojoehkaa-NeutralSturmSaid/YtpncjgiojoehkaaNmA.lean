/- Neutral: texts A B C D S I E F M G. -/
import Derived.Test.YtpncjgiojoehkaaProg
import Derived.Test.YtpncjgiojoehkaaEngSy
import Derived.KernelRfl
namespace Go.Proofs.Ytpncjgiojoehkaa
open Go.Ab
attribute [local irreducible] aggOk drwOK
set_option maxRecDepth 100000
set_option maxHeartbeats 4000000
set_option linter.unusedVariables false
set_option linter.unusedSimpArgs false
theorem pH {e : Ent} {j : Nat} {M : Mem} : Pick e ((j, e) :: M) M := Pick.here
theorem pT {e : Ent} {x : Nat × Ent} {M M' : Mem} (h : Pick e M M') : Pick e (x :: M) (x :: M') := Pick.there h
theorem WS {m m' : Mem} (h : WkM m m' := by refine Sel.wk ?_; (try simp only [List.cons_append, List.nil_append]); repeat' (first | exact Sel.nil | exact Sel.all | exact Sel.left | refine Sel.cons pH ?_ | refine Sel.cons (pT pH) ?_ | refine Sel.cons (pT (pT pH)) ?_ | refine Sel.cons (pT (pT (pT pH))) ?_ | refine Sel.cons (pT (pT (pT (pT pH)))) ?_ | refine Sel.cons (pT (pT (pT (pT (pT pH))))) ?_ | refine Sel.cons (pT (pT (pT (pT (pT (pT pH)))))) ?_ | refine Sel.cons (pT (pT (pT (pT (pT (pT (pT pH))))))) ?_ | refine Sel.cons (pT (pT (pT (pT (pT (pT (pT (pT pH)))))))) ?_ | refine Sel.cons (pT (pT (pT (pT (pT (pT (pT (pT (pT pH))))))))) ?_ | refine Sel.cons (pT (pT (pT (pT (pT (pT (pT (pT (pT (pT pH)))))))))) ?_ | refine Sel.cons (pT (pT (pT (pT (pT (pT (pT (pT (pT (pT (pT pH))))))))))) ?_ | refine Sel.cons (pT (pT (pT (pT (pT (pT (pT (pT (pT (pT (pT (pT pH)))))))))))) ?_ | refine Sel.cons (pT (pT (pT (pT (pT (pT (pT (pT (pT (pT (pT (pT (pT pH))))))))))))) ?_ | refine Sel.cons (pT (pT (pT (pT (pT (pT (pT (pT (pT (pT (pT (pT (pT (pT pH)))))))))))))) ?_ | refine Sel.cons (pT (pT (pT (pT (pT (pT (pT (pT (pT (pT (pT (pT (pT (pT (pT pH))))))))))))))) ?_ | refine Sel.consw pH ⟨rfl, rfl, rfl⟩ ?_ | refine Sel.consw (pT pH) ⟨rfl, rfl, rfl⟩ ?_ | refine Sel.consw (pT (pT pH)) ⟨rfl, rfl, rfl⟩ ?_ | refine Sel.consw (pT (pT (pT pH))) ⟨rfl, rfl, rfl⟩ ?_ | refine Sel.consw (pT (pT (pT (pT pH)))) ⟨rfl, rfl, rfl⟩ ?_ | refine Sel.consw (pT (pT (pT (pT (pT pH))))) ⟨rfl, rfl, rfl⟩ ?_ | refine Sel.consw (pT (pT (pT (pT (pT (pT pH)))))) ⟨rfl, rfl, rfl⟩ ?_ | refine Sel.consw (pT (pT (pT (pT (pT (pT (pT pH))))))) ⟨rfl, rfl, rfl⟩ ?_ | refine Sel.consw (pT (pT (pT (pT (pT (pT (pT (pT pH)))))))) ⟨rfl, rfl, rfl⟩ ?_ | refine Sel.consw (pT (pT (pT (pT (pT (pT (pT (pT (pT pH))))))))) ⟨rfl, rfl, rfl⟩ ?_ | refine Sel.consw (pT (pT (pT (pT (pT (pT (pT (pT (pT (pT pH)))))))))) ⟨rfl, rfl, rfl⟩ ?_ | refine Sel.consw (pT (pT (pT (pT (pT (pT (pT (pT (pT (pT (pT pH))))))))))) ⟨rfl, rfl, rfl⟩ ?_ | refine Sel.consw (pT (pT (pT (pT (pT (pT (pT (pT (pT (pT (pT (pT pH)))))))))))) ⟨rfl, rfl, rfl⟩ ?_ | refine Sel.consw (pT (pT (pT (pT (pT (pT (pT (pT (pT (pT (pT (pT (pT pH))))))))))))) ⟨rfl, rfl, rfl⟩ ?_ | refine Sel.consw (pT (pT (pT (pT (pT (pT (pT (pT (pT (pT (pT (pT (pT (pT pH)))))))))))))) ⟨rfl, rfl, rfl⟩ ?_ | refine Sel.consw (pT (pT (pT (pT (pT (pT (pT (pT (pT (pT (pT (pT (pT (pT (pT pH))))))))))))))) ⟨rfl, rfl, rfl⟩ ?_ | refine Sel.snoc pH ?_ | refine Sel.snoc (pT pH) ?_ | refine Sel.snoc (pT (pT pH)) ?_ | refine Sel.snoc (pT (pT (pT pH))) ?_ | refine Sel.snoc (pT (pT (pT (pT pH)))) ?_ | refine Sel.snoc (pT (pT (pT (pT (pT pH))))) ?_ | refine Sel.snoc (pT (pT (pT (pT (pT (pT pH)))))) ?_ | refine Sel.snoc (pT (pT (pT (pT (pT (pT (pT pH))))))) ?_ | refine Sel.snoc (pT (pT (pT (pT (pT (pT (pT (pT pH)))))))) ?_ | refine Sel.snoc (pT (pT (pT (pT (pT (pT (pT (pT (pT pH))))))))) ?_ | refine Sel.snoc (pT (pT (pT (pT (pT (pT (pT (pT (pT (pT pH)))))))))) ?_ | refine Sel.snoc (pT (pT (pT (pT (pT (pT (pT (pT (pT (pT (pT pH))))))))))) ?_ | refine Sel.snoc (pT (pT (pT (pT (pT (pT (pT (pT (pT (pT (pT (pT pH)))))))))))) ?_ | refine Sel.snoc (pT (pT (pT (pT (pT (pT (pT (pT (pT (pT (pT (pT (pT pH))))))))))))) ?_ | refine Sel.snoc (pT (pT (pT (pT (pT (pT (pT (pT (pT (pT (pT (pT (pT (pT pH)))))))))))))) ?_ | refine Sel.snoc (pT (pT (pT (pT (pT (pT (pT (pT (pT (pT (pT (pT (pT (pT (pT pH))))))))))))))) ?_ | refine Sel.drop ?_)) : WkM m m' := h
theorem WG {m m' : Mem} (h : WkM m m' := by refine Sel.wk ?_; (try simp only [List.cons_append, List.nil_append]); repeat' (first | exact Sel.nil | exact Sel.all | exact Sel.left | refine Sel.cons pH ?_ | refine Sel.cons (pT pH) ?_ | refine Sel.cons (pT (pT pH)) ?_ | refine Sel.cons (pT (pT (pT pH))) ?_ | refine Sel.cons (pT (pT (pT (pT pH)))) ?_ | refine Sel.cons (pT (pT (pT (pT (pT pH))))) ?_ | refine Sel.cons (pT (pT (pT (pT (pT (pT pH)))))) ?_ | refine Sel.cons (pT (pT (pT (pT (pT (pT (pT pH))))))) ?_ | refine Sel.cons (pT (pT (pT (pT (pT (pT (pT (pT pH)))))))) ?_ | refine Sel.cons (pT (pT (pT (pT (pT (pT (pT (pT (pT pH))))))))) ?_ | refine Sel.cons (pT (pT (pT (pT (pT (pT (pT (pT (pT (pT pH)))))))))) ?_ | refine Sel.cons (pT (pT (pT (pT (pT (pT (pT (pT (pT (pT (pT pH))))))))))) ?_ | refine Sel.cons (pT (pT (pT (pT (pT (pT (pT (pT (pT (pT (pT (pT pH)))))))))))) ?_ | refine Sel.cons (pT (pT (pT (pT (pT (pT (pT (pT (pT (pT (pT (pT (pT pH))))))))))))) ?_ | refine Sel.cons (pT (pT (pT (pT (pT (pT (pT (pT (pT (pT (pT (pT (pT (pT pH)))))))))))))) ?_ | refine Sel.cons (pT (pT (pT (pT (pT (pT (pT (pT (pT (pT (pT (pT (pT (pT (pT pH))))))))))))))) ?_ | refine Sel.consw pH ⟨rfl, rfl, rfl⟩ ?_ | refine Sel.consw (pT pH) ⟨rfl, rfl, rfl⟩ ?_ | refine Sel.consw (pT (pT pH)) ⟨rfl, rfl, rfl⟩ ?_ | refine Sel.consw (pT (pT (pT pH))) ⟨rfl, rfl, rfl⟩ ?_ | refine Sel.consw (pT (pT (pT (pT pH)))) ⟨rfl, rfl, rfl⟩ ?_ | refine Sel.consw (pT (pT (pT (pT (pT pH))))) ⟨rfl, rfl, rfl⟩ ?_ | refine Sel.consw (pT (pT (pT (pT (pT (pT pH)))))) ⟨rfl, rfl, rfl⟩ ?_ | refine Sel.consw (pT (pT (pT (pT (pT (pT (pT pH))))))) ⟨rfl, rfl, rfl⟩ ?_ | refine Sel.consw (pT (pT (pT (pT (pT (pT (pT (pT pH)))))))) ⟨rfl, rfl, rfl⟩ ?_ | refine Sel.consw (pT (pT (pT (pT (pT (pT (pT (pT (pT pH))))))))) ⟨rfl, rfl, rfl⟩ ?_ | refine Sel.consw (pT (pT (pT (pT (pT (pT (pT (pT (pT (pT pH)))))))))) ⟨rfl, rfl, rfl⟩ ?_ | refine Sel.consw (pT (pT (pT (pT (pT (pT (pT (pT (pT (pT (pT pH))))))))))) ⟨rfl, rfl, rfl⟩ ?_ | refine Sel.consw (pT (pT (pT (pT (pT (pT (pT (pT (pT (pT (pT (pT pH)))))))))))) ⟨rfl, rfl, rfl⟩ ?_ | refine Sel.consw (pT (pT (pT (pT (pT (pT (pT (pT (pT (pT (pT (pT (pT pH))))))))))))) ⟨rfl, rfl, rfl⟩ ?_ | refine Sel.consw (pT (pT (pT (pT (pT (pT (pT (pT (pT (pT (pT (pT (pT (pT pH)))))))))))))) ⟨rfl, rfl, rfl⟩ ?_ | refine Sel.consw (pT (pT (pT (pT (pT (pT (pT (pT (pT (pT (pT (pT (pT (pT (pT pH))))))))))))))) ⟨rfl, rfl, rfl⟩ ?_ | refine Sel.consw pH ⟨rfl, rfl, rfl, rfl, by assumption⟩ ?_ | refine Sel.consw (pT pH) ⟨rfl, rfl, rfl, rfl, by assumption⟩ ?_ | refine Sel.consw (pT (pT pH)) ⟨rfl, rfl, rfl, rfl, by assumption⟩ ?_ | refine Sel.consw (pT (pT (pT pH))) ⟨rfl, rfl, rfl, rfl, by assumption⟩ ?_ | refine Sel.consw (pT (pT (pT (pT pH)))) ⟨rfl, rfl, rfl, rfl, by assumption⟩ ?_ | refine Sel.consw (pT (pT (pT (pT (pT pH))))) ⟨rfl, rfl, rfl, rfl, by assumption⟩ ?_ | refine Sel.consw (pT (pT (pT (pT (pT (pT pH)))))) ⟨rfl, rfl, rfl, rfl, by assumption⟩ ?_ | refine Sel.consw (pT (pT (pT (pT (pT (pT (pT pH))))))) ⟨rfl, rfl, rfl, rfl, by assumption⟩ ?_ | refine Sel.consw (pT (pT (pT (pT (pT (pT (pT (pT pH)))))))) ⟨rfl, rfl, rfl, rfl, by assumption⟩ ?_ | refine Sel.consw (pT (pT (pT (pT (pT (pT (pT (pT (pT pH))))))))) ⟨rfl, rfl, rfl, rfl, by assumption⟩ ?_ | refine Sel.consw (pT (pT (pT (pT (pT (pT (pT (pT (pT (pT pH)))))))))) ⟨rfl, rfl, rfl, rfl, by assumption⟩ ?_ | refine Sel.consw (pT (pT (pT (pT (pT (pT (pT (pT (pT (pT (pT pH))))))))))) ⟨rfl, rfl, rfl, rfl, by assumption⟩ ?_ | refine Sel.consw (pT (pT (pT (pT (pT (pT (pT (pT (pT (pT (pT (pT pH)))))))))))) ⟨rfl, rfl, rfl, rfl, by assumption⟩ ?_ | refine Sel.consw (pT (pT (pT (pT (pT (pT (pT (pT (pT (pT (pT (pT (pT pH))))))))))))) ⟨rfl, rfl, rfl, rfl, by assumption⟩ ?_ | refine Sel.consw (pT (pT (pT (pT (pT (pT (pT (pT (pT (pT (pT (pT (pT (pT pH)))))))))))))) ⟨rfl, rfl, rfl, rfl, by assumption⟩ ?_ | refine Sel.consw (pT (pT (pT (pT (pT (pT (pT (pT (pT (pT (pT (pT (pT (pT (pT pH))))))))))))))) ⟨rfl, rfl, rfl, rfl, by assumption⟩ ?_ | refine Sel.consw pH ⟨rfl, rfl, rfl, .inl rfl, fun _ _ => rfl⟩ ?_ | refine Sel.consw (pT pH) ⟨rfl, rfl, rfl, .inl rfl, fun _ _ => rfl⟩ ?_ | refine Sel.consw (pT (pT pH)) ⟨rfl, rfl, rfl, .inl rfl, fun _ _ => rfl⟩ ?_ | refine Sel.consw (pT (pT (pT pH))) ⟨rfl, rfl, rfl, .inl rfl, fun _ _ => rfl⟩ ?_ | refine Sel.consw (pT (pT (pT (pT pH)))) ⟨rfl, rfl, rfl, .inl rfl, fun _ _ => rfl⟩ ?_ | refine Sel.consw (pT (pT (pT (pT (pT pH))))) ⟨rfl, rfl, rfl, .inl rfl, fun _ _ => rfl⟩ ?_ | refine Sel.consw (pT (pT (pT (pT (pT (pT pH)))))) ⟨rfl, rfl, rfl, .inl rfl, fun _ _ => rfl⟩ ?_ | refine Sel.consw (pT (pT (pT (pT (pT (pT (pT pH))))))) ⟨rfl, rfl, rfl, .inl rfl, fun _ _ => rfl⟩ ?_ | refine Sel.consw (pT (pT (pT (pT (pT (pT (pT (pT pH)))))))) ⟨rfl, rfl, rfl, .inl rfl, fun _ _ => rfl⟩ ?_ | refine Sel.consw (pT (pT (pT (pT (pT (pT (pT (pT (pT pH))))))))) ⟨rfl, rfl, rfl, .inl rfl, fun _ _ => rfl⟩ ?_ | refine Sel.consw (pT (pT (pT (pT (pT (pT (pT (pT (pT (pT pH)))))))))) ⟨rfl, rfl, rfl, .inl rfl, fun _ _ => rfl⟩ ?_ | refine Sel.consw (pT (pT (pT (pT (pT (pT (pT (pT (pT (pT (pT pH))))))))))) ⟨rfl, rfl, rfl, .inl rfl, fun _ _ => rfl⟩ ?_ | refine Sel.consw (pT (pT (pT (pT (pT (pT (pT (pT (pT (pT (pT (pT pH)))))))))))) ⟨rfl, rfl, rfl, .inl rfl, fun _ _ => rfl⟩ ?_ | refine Sel.consw (pT (pT (pT (pT (pT (pT (pT (pT (pT (pT (pT (pT (pT pH))))))))))))) ⟨rfl, rfl, rfl, .inl rfl, fun _ _ => rfl⟩ ?_ | refine Sel.consw (pT (pT (pT (pT (pT (pT (pT (pT (pT (pT (pT (pT (pT (pT pH)))))))))))))) ⟨rfl, rfl, rfl, .inl rfl, fun _ _ => rfl⟩ ?_ | refine Sel.consw (pT (pT (pT (pT (pT (pT (pT (pT (pT (pT (pT (pT (pT (pT (pT pH))))))))))))))) ⟨rfl, rfl, rfl, .inl rfl, fun _ _ => rfl⟩ ?_ | refine Sel.consw pH ⟨rfl, rfl, rfl, .inr rfl, fun _ _ => rfl⟩ ?_ | refine Sel.consw (pT pH) ⟨rfl, rfl, rfl, .inr rfl, fun _ _ => rfl⟩ ?_ | refine Sel.consw (pT (pT pH)) ⟨rfl, rfl, rfl, .inr rfl, fun _ _ => rfl⟩ ?_ | refine Sel.consw (pT (pT (pT pH))) ⟨rfl, rfl, rfl, .inr rfl, fun _ _ => rfl⟩ ?_ | refine Sel.consw (pT (pT (pT (pT pH)))) ⟨rfl, rfl, rfl, .inr rfl, fun _ _ => rfl⟩ ?_ | refine Sel.consw (pT (pT (pT (pT (pT pH))))) ⟨rfl, rfl, rfl, .inr rfl, fun _ _ => rfl⟩ ?_ | refine Sel.consw (pT (pT (pT (pT (pT (pT pH)))))) ⟨rfl, rfl, rfl, .inr rfl, fun _ _ => rfl⟩ ?_ | refine Sel.consw (pT (pT (pT (pT (pT (pT (pT pH))))))) ⟨rfl, rfl, rfl, .inr rfl, fun _ _ => rfl⟩ ?_ | refine Sel.consw (pT (pT (pT (pT (pT (pT (pT (pT pH)))))))) ⟨rfl, rfl, rfl, .inr rfl, fun _ _ => rfl⟩ ?_ | refine Sel.consw (pT (pT (pT (pT (pT (pT (pT (pT (pT pH))))))))) ⟨rfl, rfl, rfl, .inr rfl, fun _ _ => rfl⟩ ?_ | refine Sel.consw (pT (pT (pT (pT (pT (pT (pT (pT (pT (pT pH)))))))))) ⟨rfl, rfl, rfl, .inr rfl, fun _ _ => rfl⟩ ?_ | refine Sel.consw (pT (pT (pT (pT (pT (pT (pT (pT (pT (pT (pT pH))))))))))) ⟨rfl, rfl, rfl, .inr rfl, fun _ _ => rfl⟩ ?_ | refine Sel.consw (pT (pT (pT (pT (pT (pT (pT (pT (pT (pT (pT (pT pH)))))))))))) ⟨rfl, rfl, rfl, .inr rfl, fun _ _ => rfl⟩ ?_ | refine Sel.consw (pT (pT (pT (pT (pT (pT (pT (pT (pT (pT (pT (pT (pT pH))))))))))))) ⟨rfl, rfl, rfl, .inr rfl, fun _ _ => rfl⟩ ?_ | refine Sel.consw (pT (pT (pT (pT (pT (pT (pT (pT (pT (pT (pT (pT (pT (pT pH)))))))))))))) ⟨rfl, rfl, rfl, .inr rfl, fun _ _ => rfl⟩ ?_ | refine Sel.consw (pT (pT (pT (pT (pT (pT (pT (pT (pT (pT (pT (pT (pT (pT (pT pH))))))))))))))) ⟨rfl, rfl, rfl, .inr rfl, fun _ _ => rfl⟩ ?_ | refine Sel.snoc pH ?_ | refine Sel.snoc (pT pH) ?_ | refine Sel.snoc (pT (pT pH)) ?_ | refine Sel.snoc (pT (pT (pT pH))) ?_ | refine Sel.snoc (pT (pT (pT (pT pH)))) ?_ | refine Sel.snoc (pT (pT (pT (pT (pT pH))))) ?_ | refine Sel.snoc (pT (pT (pT (pT (pT (pT pH)))))) ?_ | refine Sel.snoc (pT (pT (pT (pT (pT (pT (pT pH))))))) ?_ | refine Sel.snoc (pT (pT (pT (pT (pT (pT (pT (pT pH)))))))) ?_ | refine Sel.snoc (pT (pT (pT (pT (pT (pT (pT (pT (pT pH))))))))) ?_ | refine Sel.snoc (pT (pT (pT (pT (pT (pT (pT (pT (pT (pT pH)))))))))) ?_ | refine Sel.snoc (pT (pT (pT (pT (pT (pT (pT (pT (pT (pT (pT pH))))))))))) ?_ | refine Sel.snoc (pT (pT (pT (pT (pT (pT (pT (pT (pT (pT (pT (pT pH)))))))))))) ?_ | refine Sel.snoc (pT (pT (pT (pT (pT (pT (pT (pT (pT (pT (pT (pT (pT pH))))))))))))) ?_ | refine Sel.snoc (pT (pT (pT (pT (pT (pT (pT (pT (pT (pT (pT (pT (pT (pT pH)))))))))))))) ?_ | refine Sel.snoc (pT (pT (pT (pT (pT (pT (pT (pT (pT (pT (pT (pT (pT (pT (pT pH))))))))))))))) ?_ | refine Sel.drop ?_)) : WkM m m' := h
theorem WV {m m' : Mem} (h : WkM m m' := by refine Sel.wk ?_; (try simp only [List.cons_append, List.nil_append]); repeat' (first | exact Sel.nil | exact Sel.all | exact Sel.left | refine Sel.cons pH ?_ | refine Sel.cons (pT pH) ?_ | refine Sel.cons (pT (pT pH)) ?_ | refine Sel.cons (pT (pT (pT pH))) ?_ | refine Sel.cons (pT (pT (pT (pT pH)))) ?_ | refine Sel.cons (pT (pT (pT (pT (pT pH))))) ?_ | refine Sel.cons (pT (pT (pT (pT (pT (pT pH)))))) ?_ | refine Sel.cons (pT (pT (pT (pT (pT (pT (pT pH))))))) ?_ | refine Sel.cons (pT (pT (pT (pT (pT (pT (pT (pT pH)))))))) ?_ | refine Sel.cons (pT (pT (pT (pT (pT (pT (pT (pT (pT pH))))))))) ?_ | refine Sel.cons (pT (pT (pT (pT (pT (pT (pT (pT (pT (pT pH)))))))))) ?_ | refine Sel.cons (pT (pT (pT (pT (pT (pT (pT (pT (pT (pT (pT pH))))))))))) ?_ | refine Sel.cons (pT (pT (pT (pT (pT (pT (pT (pT (pT (pT (pT (pT pH)))))))))))) ?_ | refine Sel.cons (pT (pT (pT (pT (pT (pT (pT (pT (pT (pT (pT (pT (pT pH))))))))))))) ?_ | refine Sel.cons (pT (pT (pT (pT (pT (pT (pT (pT (pT (pT (pT (pT (pT (pT pH)))))))))))))) ?_ | refine Sel.cons (pT (pT (pT (pT (pT (pT (pT (pT (pT (pT (pT (pT (pT (pT (pT pH))))))))))))))) ?_ | refine Sel.consw pH ⟨rfl, rfl, rfl⟩ ?_ | refine Sel.consw (pT pH) ⟨rfl, rfl, rfl⟩ ?_ | refine Sel.consw (pT (pT pH)) ⟨rfl, rfl, rfl⟩ ?_ | refine Sel.consw (pT (pT (pT pH))) ⟨rfl, rfl, rfl⟩ ?_ | refine Sel.consw (pT (pT (pT (pT pH)))) ⟨rfl, rfl, rfl⟩ ?_ | refine Sel.consw (pT (pT (pT (pT (pT pH))))) ⟨rfl, rfl, rfl⟩ ?_ | refine Sel.consw (pT (pT (pT (pT (pT (pT pH)))))) ⟨rfl, rfl, rfl⟩ ?_ | refine Sel.consw (pT (pT (pT (pT (pT (pT (pT pH))))))) ⟨rfl, rfl, rfl⟩ ?_ | refine Sel.consw (pT (pT (pT (pT (pT (pT (pT (pT pH)))))))) ⟨rfl, rfl, rfl⟩ ?_ | refine Sel.consw (pT (pT (pT (pT (pT (pT (pT (pT (pT pH))))))))) ⟨rfl, rfl, rfl⟩ ?_ | refine Sel.consw (pT (pT (pT (pT (pT (pT (pT (pT (pT (pT pH)))))))))) ⟨rfl, rfl, rfl⟩ ?_ | refine Sel.consw (pT (pT (pT (pT (pT (pT (pT (pT (pT (pT (pT pH))))))))))) ⟨rfl, rfl, rfl⟩ ?_ | refine Sel.consw (pT (pT (pT (pT (pT (pT (pT (pT (pT (pT (pT (pT pH)))))))))))) ⟨rfl, rfl, rfl⟩ ?_ | refine Sel.consw (pT (pT (pT (pT (pT (pT (pT (pT (pT (pT (pT (pT (pT pH))))))))))))) ⟨rfl, rfl, rfl⟩ ?_ | refine Sel.consw (pT (pT (pT (pT (pT (pT (pT (pT (pT (pT (pT (pT (pT (pT pH)))))))))))))) ⟨rfl, rfl, rfl⟩ ?_ | refine Sel.consw (pT (pT (pT (pT (pT (pT (pT (pT (pT (pT (pT (pT (pT (pT (pT pH))))))))))))))) ⟨rfl, rfl, rfl⟩ ?_ | refine Sel.consw pH ⟨rfl, rfl, rfl, rfl, by assumption⟩ ?_ | refine Sel.consw (pT pH) ⟨rfl, rfl, rfl, rfl, by assumption⟩ ?_ | refine Sel.consw (pT (pT pH)) ⟨rfl, rfl, rfl, rfl, by assumption⟩ ?_ | refine Sel.consw (pT (pT (pT pH))) ⟨rfl, rfl, rfl, rfl, by assumption⟩ ?_ | refine Sel.consw (pT (pT (pT (pT pH)))) ⟨rfl, rfl, rfl, rfl, by assumption⟩ ?_ | refine Sel.consw (pT (pT (pT (pT (pT pH))))) ⟨rfl, rfl, rfl, rfl, by assumption⟩ ?_ | refine Sel.consw (pT (pT (pT (pT (pT (pT pH)))))) ⟨rfl, rfl, rfl, rfl, by assumption⟩ ?_ | refine Sel.consw (pT (pT (pT (pT (pT (pT (pT pH))))))) ⟨rfl, rfl, rfl, rfl, by assumption⟩ ?_ | refine Sel.consw (pT (pT (pT (pT (pT (pT (pT (pT pH)))))))) ⟨rfl, rfl, rfl, rfl, by assumption⟩ ?_ | refine Sel.consw (pT (pT (pT (pT (pT (pT (pT (pT (pT pH))))))))) ⟨rfl, rfl, rfl, rfl, by assumption⟩ ?_ | refine Sel.consw (pT (pT (pT (pT (pT (pT (pT (pT (pT (pT pH)))))))))) ⟨rfl, rfl, rfl, rfl, by assumption⟩ ?_ | refine Sel.consw (pT (pT (pT (pT (pT (pT (pT (pT (pT (pT (pT pH))))))))))) ⟨rfl, rfl, rfl, rfl, by assumption⟩ ?_ | refine Sel.consw (pT (pT (pT (pT (pT (pT (pT (pT (pT (pT (pT (pT pH)))))))))))) ⟨rfl, rfl, rfl, rfl, by assumption⟩ ?_ | refine Sel.consw (pT (pT (pT (pT (pT (pT (pT (pT (pT (pT (pT (pT (pT pH))))))))))))) ⟨rfl, rfl, rfl, rfl, by assumption⟩ ?_ | refine Sel.consw (pT (pT (pT (pT (pT (pT (pT (pT (pT (pT (pT (pT (pT (pT pH)))))))))))))) ⟨rfl, rfl, rfl, rfl, by assumption⟩ ?_ | refine Sel.consw (pT (pT (pT (pT (pT (pT (pT (pT (pT (pT (pT (pT (pT (pT (pT pH))))))))))))))) ⟨rfl, rfl, rfl, rfl, by assumption⟩ ?_ | refine Sel.consw pH ⟨rfl, rfl, rfl, .inl rfl, fun _ _ => rfl⟩ ?_ | refine Sel.consw (pT pH) ⟨rfl, rfl, rfl, .inl rfl, fun _ _ => rfl⟩ ?_ | refine Sel.consw (pT (pT pH)) ⟨rfl, rfl, rfl, .inl rfl, fun _ _ => rfl⟩ ?_ | refine Sel.consw (pT (pT (pT pH))) ⟨rfl, rfl, rfl, .inl rfl, fun _ _ => rfl⟩ ?_ | refine Sel.consw (pT (pT (pT (pT pH)))) ⟨rfl, rfl, rfl, .inl rfl, fun _ _ => rfl⟩ ?_ | refine Sel.consw (pT (pT (pT (pT (pT pH))))) ⟨rfl, rfl, rfl, .inl rfl, fun _ _ => rfl⟩ ?_ | refine Sel.consw (pT (pT (pT (pT (pT (pT pH)))))) ⟨rfl, rfl, rfl, .inl rfl, fun _ _ => rfl⟩ ?_ | refine Sel.consw (pT (pT (pT (pT (pT (pT (pT pH))))))) ⟨rfl, rfl, rfl, .inl rfl, fun _ _ => rfl⟩ ?_ | refine Sel.consw (pT (pT (pT (pT (pT (pT (pT (pT pH)))))))) ⟨rfl, rfl, rfl, .inl rfl, fun _ _ => rfl⟩ ?_ | refine Sel.consw (pT (pT (pT (pT (pT (pT (pT (pT (pT pH))))))))) ⟨rfl, rfl, rfl, .inl rfl, fun _ _ => rfl⟩ ?_ | refine Sel.consw (pT (pT (pT (pT (pT (pT (pT (pT (pT (pT pH)))))))))) ⟨rfl, rfl, rfl, .inl rfl, fun _ _ => rfl⟩ ?_ | refine Sel.consw (pT (pT (pT (pT (pT (pT (pT (pT (pT (pT (pT pH))))))))))) ⟨rfl, rfl, rfl, .inl rfl, fun _ _ => rfl⟩ ?_ | refine Sel.consw (pT (pT (pT (pT (pT (pT (pT (pT (pT (pT (pT (pT pH)))))))))))) ⟨rfl, rfl, rfl, .inl rfl, fun _ _ => rfl⟩ ?_ | refine Sel.consw (pT (pT (pT (pT (pT (pT (pT (pT (pT (pT (pT (pT (pT pH))))))))))))) ⟨rfl, rfl, rfl, .inl rfl, fun _ _ => rfl⟩ ?_ | refine Sel.consw (pT (pT (pT (pT (pT (pT (pT (pT (pT (pT (pT (pT (pT (pT pH)))))))))))))) ⟨rfl, rfl, rfl, .inl rfl, fun _ _ => rfl⟩ ?_ | refine Sel.consw (pT (pT (pT (pT (pT (pT (pT (pT (pT (pT (pT (pT (pT (pT (pT pH))))))))))))))) ⟨rfl, rfl, rfl, .inl rfl, fun _ _ => rfl⟩ ?_ | refine Sel.consw pH ⟨rfl, rfl, rfl, .inr rfl, fun _ _ => rfl⟩ ?_ | refine Sel.consw (pT pH) ⟨rfl, rfl, rfl, .inr rfl, fun _ _ => rfl⟩ ?_ | refine Sel.consw (pT (pT pH)) ⟨rfl, rfl, rfl, .inr rfl, fun _ _ => rfl⟩ ?_ | refine Sel.consw (pT (pT (pT pH))) ⟨rfl, rfl, rfl, .inr rfl, fun _ _ => rfl⟩ ?_ | refine Sel.consw (pT (pT (pT (pT pH)))) ⟨rfl, rfl, rfl, .inr rfl, fun _ _ => rfl⟩ ?_ | refine Sel.consw (pT (pT (pT (pT (pT pH))))) ⟨rfl, rfl, rfl, .inr rfl, fun _ _ => rfl⟩ ?_ | refine Sel.consw (pT (pT (pT (pT (pT (pT pH)))))) ⟨rfl, rfl, rfl, .inr rfl, fun _ _ => rfl⟩ ?_ | refine Sel.consw (pT (pT (pT (pT (pT (pT (pT pH))))))) ⟨rfl, rfl, rfl, .inr rfl, fun _ _ => rfl⟩ ?_ | refine Sel.consw (pT (pT (pT (pT (pT (pT (pT (pT pH)))))))) ⟨rfl, rfl, rfl, .inr rfl, fun _ _ => rfl⟩ ?_ | refine Sel.consw (pT (pT (pT (pT (pT (pT (pT (pT (pT pH))))))))) ⟨rfl, rfl, rfl, .inr rfl, fun _ _ => rfl⟩ ?_ | refine Sel.consw (pT (pT (pT (pT (pT (pT (pT (pT (pT (pT pH)))))))))) ⟨rfl, rfl, rfl, .inr rfl, fun _ _ => rfl⟩ ?_ | refine Sel.consw (pT (pT (pT (pT (pT (pT (pT (pT (pT (pT (pT pH))))))))))) ⟨rfl, rfl, rfl, .inr rfl, fun _ _ => rfl⟩ ?_ | refine Sel.consw (pT (pT (pT (pT (pT (pT (pT (pT (pT (pT (pT (pT pH)))))))))))) ⟨rfl, rfl, rfl, .inr rfl, fun _ _ => rfl⟩ ?_ | refine Sel.consw (pT (pT (pT (pT (pT (pT (pT (pT (pT (pT (pT (pT (pT pH))))))))))))) ⟨rfl, rfl, rfl, .inr rfl, fun _ _ => rfl⟩ ?_ | refine Sel.consw (pT (pT (pT (pT (pT (pT (pT (pT (pT (pT (pT (pT (pT (pT pH)))))))))))))) ⟨rfl, rfl, rfl, .inr rfl, fun _ _ => rfl⟩ ?_ | refine Sel.consw (pT (pT (pT (pT (pT (pT (pT (pT (pT (pT (pT (pT (pT (pT (pT pH))))))))))))))) ⟨rfl, rfl, rfl, .inr rfl, fun _ _ => rfl⟩ ?_ | refine Sel.consw pH ⟨rfl, .inl ⟨rfl, by assumption⟩⟩ ?_ | refine Sel.consw (pT pH) ⟨rfl, .inl ⟨rfl, by assumption⟩⟩ ?_ | refine Sel.consw (pT (pT pH)) ⟨rfl, .inl ⟨rfl, by assumption⟩⟩ ?_ | refine Sel.consw (pT (pT (pT pH))) ⟨rfl, .inl ⟨rfl, by assumption⟩⟩ ?_ | refine Sel.consw (pT (pT (pT (pT pH)))) ⟨rfl, .inl ⟨rfl, by assumption⟩⟩ ?_ | refine Sel.consw (pT (pT (pT (pT (pT pH))))) ⟨rfl, .inl ⟨rfl, by assumption⟩⟩ ?_ | refine Sel.consw (pT (pT (pT (pT (pT (pT pH)))))) ⟨rfl, .inl ⟨rfl, by assumption⟩⟩ ?_ | refine Sel.consw (pT (pT (pT (pT (pT (pT (pT pH))))))) ⟨rfl, .inl ⟨rfl, by assumption⟩⟩ ?_ | refine Sel.consw pH ⟨rfl, .inr ⟨fun _ => rfl, fun _ => rfl⟩⟩ ?_ | refine Sel.consw (pT pH) ⟨rfl, .inr ⟨fun _ => rfl, fun _ => rfl⟩⟩ ?_ | refine Sel.consw (pT (pT pH)) ⟨rfl, .inr ⟨fun _ => rfl, fun _ => rfl⟩⟩ ?_ | refine Sel.consw (pT (pT (pT pH))) ⟨rfl, .inr ⟨fun _ => rfl, fun _ => rfl⟩⟩ ?_ | refine Sel.consw (pT (pT (pT (pT pH)))) ⟨rfl, .inr ⟨fun _ => rfl, fun _ => rfl⟩⟩ ?_ | refine Sel.consw (pT (pT (pT (pT (pT pH))))) ⟨rfl, .inr ⟨fun _ => rfl, fun _ => rfl⟩⟩ ?_ | refine Sel.consw (pT (pT (pT (pT (pT (pT pH)))))) ⟨rfl, .inr ⟨fun _ => rfl, fun _ => rfl⟩⟩ ?_ | refine Sel.consw (pT (pT (pT (pT (pT (pT (pT pH))))))) ⟨rfl, .inr ⟨fun _ => rfl, fun _ => rfl⟩⟩ ?_ | refine Sel.snoc pH ?_ | refine Sel.snoc (pT pH) ?_ | refine Sel.snoc (pT (pT pH)) ?_ | refine Sel.snoc (pT (pT (pT pH))) ?_ | refine Sel.snoc (pT (pT (pT (pT pH)))) ?_ | refine Sel.snoc (pT (pT (pT (pT (pT pH))))) ?_ | refine Sel.snoc (pT (pT (pT (pT (pT (pT pH)))))) ?_ | refine Sel.snoc (pT (pT (pT (pT (pT (pT (pT pH))))))) ?_ | refine Sel.snoc (pT (pT (pT (pT (pT (pT (pT (pT pH)))))))) ?_ | refine Sel.snoc (pT (pT (pT (pT (pT (pT (pT (pT (pT pH))))))))) ?_ | refine Sel.snoc (pT (pT (pT (pT (pT (pT (pT (pT (pT (pT pH)))))))))) ?_ | refine Sel.snoc (pT (pT (pT (pT (pT (pT (pT (pT (pT (pT (pT pH))))))))))) ?_ | refine Sel.snoc (pT (pT (pT (pT (pT (pT (pT (pT (pT (pT (pT (pT pH)))))))))))) ?_ | refine Sel.snoc (pT (pT (pT (pT (pT (pT (pT (pT (pT (pT (pT (pT (pT pH))))))))))))) ?_ | refine Sel.snoc (pT (pT (pT (pT (pT (pT (pT (pT (pT (pT (pT (pT (pT (pT pH)))))))))))))) ?_ | refine Sel.snoc (pT (pT (pT (pT (pT (pT (pT (pT (pT (pT (pT (pT (pT (pT (pT pH))))))))))))))) ?_ | refine Sel.drop ?_)) : WkM m m' := h
noncomputable abbrev CL (F d : Nat) : CallT := callF Try.prog F (extB [] 12) d
abbrev i64 (n : Int) : SV := .int .i64 n
theorem lt_of_iLt {a b : Nat} (h : iLt (Int.ofNat a) (Int.ofNat b) = true) : a < b := by rw [iLt_eq] at h; simpa using h
theorem ge_of_iLt {a b : Nat} (h : iLt (Int.ofNat a) (Int.ofNat b) = false) : b ≤ a := by rw [iLt_eq] at h; simpa using h
theorem iLt_t {a b : Nat} (h : a < b) : iLt (Int.ofNat a) (Int.ofNat b) = true := by rw [iLt_eq]; simpa using h
theorem iLt_f {a b : Nat} (h : b ≤ a) : iLt (Int.ofNat a) (Int.ofNat b) = false := by rw [iLt_eq]; simpa using h
theorem iLt_0 (a : Nat) : iLt (Int.ofNat a) 0 = false := by rw [iLt_eq]; simp
theorem iEq_n {a b : Nat} : iEq (Int.ofNat a) (Int.ofNat b) = decide (a = b) := by rw [iEq_eq]; refine decide_eq_decide.2 ?_; show (a : Int) = (b : Int) ↔ _; omega
theorem sm {n : Int} (h : -1000000000000 ≤ n ∧ n ≤ 1000000000000) : wr .i64 n = n := wr_id (by omega) (by omega)
theorem smn {i : Nat} (h : i ≤ 1000000000000) : wr .i64 (Int.ofNat i) = Int.ofNat i := wr_nat (i := i) (by omega)
theorem cg2 {α β γ : Type} (f : α → β → γ) {a a2 : α} {b b2 : β} (h : a = a2) (k : b = b2) : f a b = f a2 b2 := by rw [h, k]
theorem bool_tf {b : Bool} (h : b ≠ true) : b = false := by cases b <;> simp_all
theorem growE {n sz : Nat} {f : Nat → List SV} {l : List SV} (hl : l.length = sz) (hv : f n = l) : ∀ j, j < n + 1 → grow n sz f l j = f j := fun j hj => by
  unfold grow
  by_cases hjn : j < n
  · rw [blt_of hjn, cond_true]
  · have e : j = n := by omega
    subst e
    have hb : Nat.blt j j = false := by
      cases hh : Nat.blt j j with
      | false => rfl
      | true => have := blt_true hh; omega
    rw [hb, cond_false, hv]
    show List.take sz (List.drop ((j - j) * sz) l) = _
    rw [Nat.sub_self, Nat.zero_mul, List.drop_zero, List.take_of_length_le (by omega)]
/-- a slice that is empty may be read wherever -/
theorem sees_nil {m : Mem} (c sz : Nat) (f : Nat → List SV) (a : Option Addr) : SeesE m (.ro a 0 c sz f) := fun X Z s0 R s hm => ⟨⟨fun j hj => absurd hj (Nat.not_lt_zero _), .inl rfl⟩, fun b hb => hb⟩
/-- a loop over a function; its own memory comes first again -/
theorem call_iter2 {callR callI : CallT} {fv fv' : SV} {me : Mem} {N c len : Nat} {L : Nat → List SV} (h : IterC callR callI fv me N c len L) (I : Nat → Mem → Prop) (Q : Mem → Prop) (m0 : Mem) (R2 : Nat) {i b : Nat} {m : Mem} {R ni : Nat} {K : SV → Mem → Nat → Nat → Prop}
    (hfv : den fv' = den fv) (hw : WkM m (me ++ m0)) (h0 : I 0 m0)
    (hr : ∀ k, k < len → ∀ m, I k m → ∀ (me' : Mem) R, callS callR (.yf i b) (L k) (m ++ me') (addL R c) 500 fun w m' R' _ => R ≤ R' ∧ ∃ m1, WkM m' (m1 ++ me') ∧ ((den w = .bool true ∧ I (k + 1) m1) ∨ (den w = .bool false ∧ Q m1)))
    (hN : R2 + N ≤ R) (hK : ∀ w m1, I len m1 ∨ Q m1 → K w (me ++ m1) R2 ni) : callS callI fv' [.yf i b] m R ni K := by
  refine callS.cast (fv' := fv) (args' := [.yf i b]) hfv rfl ?_
  refine callS.wk hw ?_
  have h1 := h i b I Q hr m0 h0 (R - N)
  rw [addL_eq, Nat.sub_add_cancel (by omega)] at h1
  exact call_post h1 fun w m' R' n' ⟨hR, m1, hw1, hI⟩ => ⟨w, me ++ m1, R2, ni, rfl, hw1.trans (WkM.comm _ _), by omega, hK w m1 hI⟩
theorem len1 {n : Nat} (h1 : 0 < n) (h2 : n ≤ 1000) : wr .i64 (Int.sub (Int.ofNat n) 1) = Int.ofNat (n - 1) := (sm (n := (n : Int) - 1) (by omega)).trans (by show (n : Int) - 1 = ((n - 1 : Nat) : Int); omega)
theorem getD_mem {l : List Nat} {k : Nat} (h : k < l.length) : l.getD k 0 ∈ l := by rw [List.getD_eq_getElem?_getD, List.getElem?_eq_getElem h]; exact List.getElem_mem h
theorem mem_getD {l : List Nat} {y : Nat} (h : y ∈ l) : ∃ k, k < l.length ∧ l.getD k 0 = y := by
  obtain ⟨k, hk, e⟩ := List.mem_iff_getElem.1 h
  exact ⟨k, hk, by rw [List.getD_eq_getElem?_getD, List.getElem?_eq_getElem hk]; exact e⟩
/-- a slice that is only read may be read twice -/
theorem WkM.dup {i j n c sz : Nat} {a : Option Addr} {f : Nat → List SV} {m : Mem} : WkM ((i, .ro a n c sz f) :: m) ((j, .ro a n c sz f) :: (i, .ro a n c sz f) :: m) := fun X Z s0 R s hm =>
  hm.cons (hm.ent (i, .ro a n c sz f) (by simp)) fun x hx => by
    rcases List.mem_cons.1 hx with rfl | hx
    · exact ⟨fun b hb => hb.elim, fun b hb => hb.elim, fun b _ hb => hb⟩
    · exact (List.pairwise_cons.1 hm.dis).1 x hx
theorem putG_all {n2 : Nat} {h g0 : Nat → List SV} : ∀ j, j < n2 → putG 0 n2 h g0 j = h j := fun j hj => by
  have := putG_in (p := 0) (h := h) (g := g0) hj
  rw [Nat.zero_add] at this; exact this
theorem emS_z {n : Nat} {K0 K1 : Prop} (hn : n = 0) (h : K0) : emS n K0 K1 := ⟨fun _ => h, fun h0 => absurd hn (by omega)⟩

theorem nM1 {A : Prop} (h : A := by (first | (simp only [addL_eq, addL_rec]; omega) | omega | exact Nat.le_refl _)) : A := h
theorem oM1 {A : Prop} (h : A := by first | omega | (simp only [Nat.add_eq, Nat.sub_eq, Nat.mul_eq, Nat.succ_eq_add_one]; omega)) : A := h
theorem gL {a b : Nat} {K : Prop} (k : K) (h : a < b := by first | assumption | decide | exact Nat.le_of_ble_eq_true rfl | omega) : ltS a b K := ltS_intro h k
theorem gM {a b : Nat} {K : Prop} (k : K) (h : a < b := by have := lt_of_iLt ‹iLt (Int.ofNat _) (Int.ofNat _) = true›; omega) : ltS a b K := ltS_intro h k
theorem gX {n q : Nat} {K : Nat → Prop} (k : K q) (h : q < n := by first | assumption | decide | omega) : ixS (Int.ofNat q) n K := ixS_of rfl h k
theorem gY {n q : Nat} {K : Nat → Prop} (k : K q) (h : q < n := by have := lt_of_iLt ‹iLt (Int.ofNat _) (Int.ofNat _) = true›; omega) : ixS (Int.ofNat q) n K := ixS_of rfl h k
theorem gE {n : Nat} {f : Nat → List SV} {K : Prop} (k : K) (h : ∀ j, j < n → okL (f j) = true := by exact fun _ _ => rfl) : flE n f K := flE_intro h k
theorem gT {b : Bool} {x y : Prop} (k : x) (h : b = true := by assumption) : brS b x y := brS_t h k
theorem gF {b : Bool} {x y : Prop} (k : y) (h : b = false := by assumption) : brS b x y := brS_f h k
theorem gI {a : Int} {x y : Prop} (k : x) : brS (iEq a a) x y := brS_t (iEq_self a) k
theorem gO {A K : Prop} (k : K) (h : A := by first | assumption | kernel_rfl) : okS A K := okS_intro h k
theorem gN {n : Int} {K : Prop} (k : K) (h : n ≠ 0 := by first | decide | assumption) : nzS n K := nzS_intro h k
/-- the coefficients -/
abbrev pf (l : List Int) (z : Nat) : List SV := [.int .i64 (l.getD z 0)]
/-- a polynomial of its own -/
def QP (i n : Nat) (l : List Int) (w0 : SV) (mf : Mem) : Prop := ∃ a, w0 = .sl i a n n ∧ mf = [(i, .gr a n 3 1 (pf l))]
theorem getD_map {l : List Int} {f : Int → Int} {j : Nat} (h : j < l.length) : (l.map f).getD j 0 = f (l.getD j 0) := by
  simp [List.getD_eq_getElem?_getD, List.getElem?_eq_getElem h]
theorem getD_tab {n : Nat} {f : Nat → Int} {j : Nat} (h : j < n) : ((List.range n).map f).getD j 0 = f j := by
  simp [List.getD_eq_getElem?_getD, List.getElem?_range h]
def tmL (l : List Int) (k : Int) : List Int := l.map fun x => wr .i64 (Int.mul x k)
def drL (l : List Int) : List Int := (List.range (l.length - 1)).map fun z => wr .i64 (Int.mul (Int.ofNat (z + 1)) (l.getD (z + 1) 0))
theorem tmL_len (l : List Int) (k : Int) : (tmL l k).length = l.length := by unfold tmL; rw [List.length_map]
theorem drL_len (l : List Int) : (drL l).length = l.length - 1 := by unfold drL; rw [List.length_map, List.length_range]
theorem tmL_get {l : List Int} {k : Int} {j : Nat} (h : j < l.length) : (tmL l k).getD j 0 = wr .i64 (Int.mul (l.getD j 0) k) := getD_map h
theorem drL_get {l : List Int} {j : Nat} (h : j + 1 < l.length) : (drL l).getD j 0 = wr .i64 (Int.mul (Int.ofNat (j + 1)) (l.getD (j + 1) 0)) := getD_tab (by omega)
theorem c67 (F d i : Nat) (a : Option Addr) (n c : Nat) (l : List Int) (hl : l.length = n) (hn : n ≤ 20) (hF : 100 < F) (k : Int) (R : Nat) :
    callS (CL F (d + 1)) (.fn 67 [] []) [.sl 1000 a n c, .int .i64 k] [(1000, .ro a n 4 1 (pf l))] (addL R (400 + 60)) 0 fun w m' R' _ => (∃ w0 mf, QP i n (tmL l k) w0 mf ∧ den w = den w0 ∧ WkM m' mf) ∧ R ≤ R' := by
  rw [show 400 + 60 = (400) + 60 from rfl, addL_eq, ← Nat.add_assoc, ← addL_eq _ 60, Nat.add_comm R (400)]
  refine call_in (n := 22) Try.func67 rfl rfl rfl rfl rfl rfl rfl ?_
  repeat' ((conv => whnf); first | refine eqS_rfl ?_ | refine eqA_rfl ?_ | refine eqA_of (by assumption) ?_ | refine eqS_of (by rfl) ?_ | refine eqL_rfl ?_ | refine eqJ_rfl ?_ | refine gE ?_ | refine seS_rfl ?_ | refine lsS_of hup ?_ | refine lsS_rfl ?_ | refine brS_tt ?_ | refine brS_ff ?_ | refine brS_not ?_ | refine gI ?_ | refine gT ?_ | refine gF ?_ | refine brS_intro (fun _ => ?_) (fun _ => ?_) | refine gL ?_ | refine gX ?_ | refine gO ?_ | refine gN ?_ | intro _)
  conv => whnf
  refine loS_i (fun jj f mm R' ni => ∃ (j : Nat) (a1 : Option Addr), j ≤ n ∧ jj = n - j + 1 ∧ f = [(1, .int .i64 k), (5, .sl 600 a1 j j), (8, .sl 1000 a n c), (9, .int .i64 (Int.ofNat n)), (10, .int .i64 (Int.ofNat j))] ∧ mm = [(600, .gr a1 j 3 1 (pf (tmL l k))), (1000, .ro a n 4 1 (pf l))] ∧ R' = addL (20 * (n - j) + R) 30 ∧ ni = 100) (n + 1) (by omega)
    ⟨[(1, .int .i64 k), (5, .sl 600 none 0 0), (8, .sl 1000 a n c), (9, .int .i64 (Int.ofNat n)), (10, .int .i64 (Int.ofNat 0))], [(600, .gr none 0 3 1 (pf (tmL l k))), (1000, .ro a n 4 1 (pf l))], addL (20 * (n - 0) + R) 30, 100, ⟨eqF_rfl _, ⟨rfl, rfl⟩, eqF_rfl _, eqF_rfl _, eqF_rfl _, trivial⟩, by exact (WkM.gr0 (WkM.refl _)).trans WS, nM1, 0, none, by omega, by omega, rfl, rfl, rfl, rfl⟩ ?_
  rintro _ _ _ _ _ ⟨j, a1, hj, rfl, rfl, rfl, rfl, rfl⟩
  by_cases hlt : j < n
  · have d1 := iLt_t hlt
    have hg := growE (n := j) (sz := 1) (f := pf (tmL l k)) (l := [.int .i64 (wr .i64 (Int.mul (l.getD j 0) k))]) rfl (by show [_] = _; rw [tmL_get (by omega)])
    repeat' ((conv => whnf); first | refine eqS_rfl ?_ | refine eqA_rfl ?_ | refine eqA_of (by assumption) ?_ | refine eqS_of (by rfl) ?_ | refine eqL_rfl ?_ | refine eqJ_rfl ?_ | refine gE ?_ | refine seS_rfl ?_ | refine lsS_of hup ?_ | refine lsS_rfl ?_ | refine brS_tt ?_ | refine brS_ff ?_ | refine brS_not ?_ | refine gI ?_ | refine gT ?_ | refine gF ?_ | refine brS_intro (fun _ => ?_) (fun _ => ?_) | refine gL ?_ | refine gX ?_ | refine gO ?_ | refine gN ?_ | refine gM ?_ | refine gY ?_ | refine ltS_intro (show j * 1 + 1 < 32769 by omega) ?_ | intro _)
    rename_i a9
    conv => whnf
    exact ⟨n - (j + 1) + 1, [(1, .int .i64 k), (5, .sl 600 a9 (j + 1) (j + 1)), (8, .sl 1000 a n c), (9, .int .i64 (Int.ofNat n)), (10, .int .i64 (Int.ofNat (j + 1)))], [(600, .gr a9 (j + 1) 3 1 (pf (tmL l k))), (1000, .ro a n 4 1 (pf l))], addL (20 * (n - (j + 1)) + R) 30, 100, by omega, ⟨eqF_rfl _, ⟨rfl, rfl⟩, eqF_rfl _, eqF_rfl _, ⟨congrArg (Value.int .i64) (smn (i := j + 1) (by omega)), rfl⟩, trivial⟩, WG, nM1, j + 1, _, by omega, rfl, rfl, rfl, rfl, rfl⟩
  · have e2 : n = j := by omega
    subst e2
    have d1 := iLt_f (Nat.le_refl n)
    repeat' ((conv => whnf); first | refine eqS_rfl ?_ | refine eqA_rfl ?_ | refine eqA_of (by assumption) ?_ | refine eqS_of (by rfl) ?_ | refine eqL_rfl ?_ | refine eqJ_rfl ?_ | refine gE ?_ | refine seS_rfl ?_ | refine lsS_of hup ?_ | refine lsS_rfl ?_ | refine brS_tt ?_ | refine brS_ff ?_ | refine brS_not ?_ | refine gI ?_ | refine gT ?_ | refine gF ?_ | refine brS_intro (fun _ => ?_) (fun _ => ?_) | refine gL ?_ | refine gX ?_ | refine gO ?_ | refine gN ?_ | intro _)
    conv => whnf
    exact ⟨⟨_, _, ⟨a1, rfl, rfl⟩, rfl, WS⟩, nM1⟩
theorem c66 (F d : Nat) (a : Option Addr) (n c : Nat) (l : List Int) (h0 : 0 < n) (hn : n ≤ 20) : ReadC (CL F (d + 1)) 66 [.sl 1000 a n c] [(1000, .ro a n 4 1 (pf l))] 20 (.int .i64 (l.getD (n - 1) 0)) := by
  have e := len1 h0 (by omega)
  have hq : n - 1 < n := by omega
  intro R
  refine call_in (n := 9) Try.func66 rfl rfl rfl rfl rfl rfl rfl ?_
  repeat' ((conv => whnf); first | refine eqS_rfl ?_ | refine eqA_rfl ?_ | refine eqA_of (by assumption) ?_ | refine eqS_of (by rfl) ?_ | refine eqL_rfl ?_ | refine eqJ_rfl ?_ | refine gE ?_ | refine seS_rfl ?_ | refine lsS_of hup ?_ | refine lsS_rfl ?_ | refine brS_tt ?_ | refine brS_ff ?_ | refine brS_not ?_ | refine gI ?_ | refine gT ?_ | refine gF ?_ | refine brS_intro (fun _ => ?_) (fun _ => ?_) | refine gL ?_ | refine gX ?_ | refine gO ?_ | refine gN ?_ | refine ixS_of e hq ?_ | intro _)
  conv => whnf
  exact ⟨rfl, nM1⟩
theorem c79 (F d i : Nat) (a : Option Addr) (n c : Nat) : PureC (CL F (d + 1)) 79 [.sl i a n c] 10 (.bool (decide (n < 2))) := by
  have e : iLt (Int.ofNat n) 2 = decide (n < 2) := by rw [iLt_eq]; exact decide_eq_decide.2 (by show (n : Int) < 2 ↔ _; omega)
  intro m R
  refine call_in (n := 6) Try.func79 rfl rfl rfl rfl rfl rfl rfl ?_
  repeat' ((conv => whnf); first | refine eqS_rfl ?_ | refine eqA_rfl ?_ | refine eqA_of (by assumption) ?_ | refine eqS_of (by rfl) ?_ | refine eqL_rfl ?_ | refine eqJ_rfl ?_ | refine gE ?_ | refine seS_rfl ?_ | refine lsS_of hup ?_ | refine lsS_rfl ?_ | refine brS_tt ?_ | refine brS_ff ?_ | refine brS_not ?_ | refine gI ?_ | refine gT ?_ | refine gF ?_ | refine brS_intro (fun _ => ?_) (fun _ => ?_) | refine gL ?_ | refine gX ?_ | refine gO ?_ | refine gN ?_ | intro _)
  all_goals (conv => whnf)
  all_goals refine ⟨?_, by repeat' (first | exact WkM.refl _ | refine WkM.drop ?_), by repeat' (first | exact Nat.le_refl _ | refine Nat.le_succ_of_le ?_)⟩
  all_goals (exact congrArg Value.bool e)

theorem c55 (F d i : Nat) (a : Option Addr) (n c : Nat) (l : List Int) (hl : l.length = n) (hn : n ≤ 20) (hF : 100 < F) (R : Nat) :
    callS (CL F (d + 1)) (.fn 55 [] []) [.sl 1000 a n c] [(1000, .ro a n 4 1 (pf l))] (addL R (600 + 60)) 0 fun w m' R' _ => (∃ w0 mf, QP i (n - 1) (drL l) w0 mf ∧ den w = den w0 ∧ WkM m' mf) ∧ R ≤ R' := by
  rw [show 600 + 60 = (600) + 60 from rfl, addL_eq, ← Nat.add_assoc, ← addL_eq _ 60, Nat.add_comm R (600)]
  refine call_in (n := 23) Try.func55 rfl rfl rfl rfl rfl rfl rfl ?_
  repeat' ((conv => whnf); first | refine eqS_rfl ?_ | refine eqA_rfl ?_ | refine eqA_of (by assumption) ?_ | refine eqS_of (by rfl) ?_ | refine eqL_rfl ?_ | refine eqJ_rfl ?_ | refine gE ?_ | refine seS_rfl ?_ | refine lsS_of hup ?_ | refine lsS_rfl ?_ | refine brS_tt ?_ | refine brS_ff ?_ | refine brS_not ?_ | refine gI ?_ | refine gT ?_ | refine gF ?_ | refine brS_intro (fun _ => ?_) (fun _ => ?_) | refine gL ?_ | refine gX ?_ | refine gO ?_ | refine gN ?_ | intro _)
  conv => whnf
  refine loS_i (fun jj f mm R' ni => ∃ (j : Nat) (a1 : Option Addr), j ≤ n ∧ jj = n - j + 1 ∧ f = [(3, .sl 600 a1 (j - 1) (j - 1)), (6, .sl 1000 a n c), (7, .int .i64 (Int.ofNat n)), (8, .int .i64 (Int.ofNat j))] ∧ mm = [(600, .gr a1 (j - 1) 3 1 (pf (drL l))), (1000, .ro a n 4 1 (pf l))] ∧ R' = addL (30 * (n - j) + R) 30 ∧ ni = 100) (n + 1) (by omega)
    ⟨[(3, .sl 600 none (0 - 1) (0 - 1)), (6, .sl 1000 a n c), (7, .int .i64 (Int.ofNat n)), (8, .int .i64 (Int.ofNat 0))], [(600, .gr none (0 - 1) 3 1 (pf (drL l))), (1000, .ro a n 4 1 (pf l))], addL (30 * (n - 0) + R) 30, 100, ⟨⟨rfl, rfl⟩, eqF_rfl _, eqF_rfl _, eqF_rfl _, trivial⟩, by exact (WkM.gr0 (WkM.refl _)).trans WS, nM1, 0, none, by omega, by omega, rfl, rfl, rfl, rfl⟩ ?_
  rintro _ _ _ _ _ ⟨j, a1, hj, rfl, rfl, rfl, rfl, rfl⟩
  by_cases hlt : j < n
  · have d1 := iLt_t hlt
    cases j with
    | zero =>
      have d2 : iLt 0 (Int.ofNat 0) = false := iLt_0 0
      repeat' ((conv => whnf); first | refine eqS_rfl ?_ | refine eqA_rfl ?_ | refine eqA_of (by assumption) ?_ | refine eqS_of (by rfl) ?_ | refine eqL_rfl ?_ | refine eqJ_rfl ?_ | refine gE ?_ | refine seS_rfl ?_ | refine lsS_of hup ?_ | refine lsS_rfl ?_ | refine brS_tt ?_ | refine brS_ff ?_ | refine brS_not ?_ | refine gI ?_ | refine gT ?_ | refine gF ?_ | refine brS_intro (fun _ => ?_) (fun _ => ?_) | refine gL ?_ | refine gX ?_ | refine gO ?_ | refine gN ?_ | refine gM ?_ | refine gY ?_ | intro _)
      conv => whnf
      exact ⟨n - (0 + 1) + 1, [(3, .sl 600 a1 ((0 + 1) - 1) ((0 + 1) - 1)), (6, .sl 1000 a n c), (7, .int .i64 (Int.ofNat n)), (8, .int .i64 (Int.ofNat (0 + 1)))], [(600, .gr a1 ((0 + 1) - 1) 3 1 (pf (drL l))), (1000, .ro a n 4 1 (pf l))], addL (30 * (n - (0 + 1)) + R) 30, 100, by omega, ⟨eqF_rfl _, eqF_rfl _, eqF_rfl _, ⟨congrArg (Value.int .i64) (smn (i := 0 + 1) (by omega)), rfl⟩, trivial⟩, WS, nM1, 0 + 1, _, by omega, rfl, rfl, rfl, rfl, rfl⟩
    | succ j =>
      have d2 : iLt 0 (Int.ofNat (j + 1)) = true := iLt_t (a := 0) (b := j + 1) (by omega)
      have hg := growE (n := j) (sz := 1) (f := pf (drL l)) (l := [.int .i64 (wr .i64 (Int.mul (Int.ofNat (j + 1)) (l.getD (j + 1) 0)))]) rfl (by show [_] = _; rw [drL_get (by omega)])
      repeat' ((conv => whnf); first | refine eqS_rfl ?_ | refine eqA_rfl ?_ | refine eqA_of (by assumption) ?_ | refine eqS_of (by rfl) ?_ | refine eqL_rfl ?_ | refine eqJ_rfl ?_ | refine gE ?_ | refine seS_rfl ?_ | refine lsS_of hup ?_ | refine lsS_rfl ?_ | refine brS_tt ?_ | refine brS_ff ?_ | refine brS_not ?_ | refine gI ?_ | refine gT ?_ | refine gF ?_ | refine brS_intro (fun _ => ?_) (fun _ => ?_) | refine gL ?_ | refine gX ?_ | refine gO ?_ | refine gN ?_ | refine gM ?_ | refine gY ?_ | refine ltS_intro (show j * 1 + 1 < 32769 by omega) ?_ | intro _)
      rename_i a9
      conv => whnf
      exact ⟨n - (j + 1 + 1) + 1, [(3, .sl 600 a9 ((j + 1 + 1) - 1) ((j + 1 + 1) - 1)), (6, .sl 1000 a n c), (7, .int .i64 (Int.ofNat n)), (8, .int .i64 (Int.ofNat (j + 1 + 1)))], [(600, .gr a9 ((j + 1 + 1) - 1) 3 1 (pf (drL l))), (1000, .ro a n 4 1 (pf l))], addL (30 * (n - (j + 1 + 1)) + R) 30, 100, by omega, ⟨⟨rfl, rfl⟩, eqF_rfl _, eqF_rfl _, ⟨congrArg (Value.int .i64) (smn (i := j + 1 + 1) (by omega)), rfl⟩, trivial⟩, WG, nM1, j + 1 + 1, _, by omega, rfl, rfl, rfl, rfl, rfl⟩
  · have e2 : n = j := by omega
    subst e2
    have d1 := iLt_f (Nat.le_refl n)
    repeat' ((conv => whnf); first | refine eqS_rfl ?_ | refine eqA_rfl ?_ | refine eqA_of (by assumption) ?_ | refine eqS_of (by rfl) ?_ | refine eqL_rfl ?_ | refine eqJ_rfl ?_ | refine gE ?_ | refine seS_rfl ?_ | refine lsS_of hup ?_ | refine lsS_rfl ?_ | refine brS_tt ?_ | refine brS_ff ?_ | refine brS_not ?_ | refine gI ?_ | refine gT ?_ | refine gF ?_ | refine brS_intro (fun _ => ?_) (fun _ => ?_) | refine gL ?_ | refine gX ?_ | refine gO ?_ | refine gN ?_ | intro _)
    conv => whnf
    exact ⟨⟨_, _, ⟨a1, rfl, rfl⟩, rfl, WS⟩, nM1⟩
end Go.Proofs.Ytpncjgiojoehkaa
namespace Go.Proofs.Ytpncjgiojoehkaa
open Go.Ab
attribute [local irreducible] aggOk drwOK
set_option maxRecDepth 100000
set_option maxHeartbeats 4000000
set_option linter.unusedVariables false
set_option linter.unusedSimpArgs false
def inI (n : Int) : Prop := -9223372036854775808 ≤ n ∧ n < 9223372036854775808
theorem inI_wr (n : Int) : inI (wr .i64 n) := by
  rw [wr_eq]
  show -9223372036854775808 ≤ (if (true && decide (n % 18446744073709551616 ≥ 9223372036854775808)) = true then n % 18446744073709551616 - 18446744073709551616 else n % 18446744073709551616) ∧ (if (true && decide (n % 18446744073709551616 ≥ 9223372036854775808)) = true then n % 18446744073709551616 - 18446744073709551616 else n % 18446744073709551616) < 9223372036854775808
  have h1 := Int.emod_nonneg n (show (18446744073709551616 : Int) ≠ 0 by decide)
  have h2 := Int.emod_lt_of_pos n (show (0 : Int) < 18446744073709551616 by decide)
  by_cases h : n % 18446744073709551616 ≥ 9223372036854775808
  · rw [if_pos (by simpa using h)]; omega
  · rw [if_neg (by simpa using h)]; omega
def dvs (a b : Int) : Int := wr .i64 (Int.ofNat (Int.gcd a b))
theorem gcd_step (a b : Int) : Int.gcd b (Int.tmod a b) = Int.gcd a b := by
  unfold Int.gcd
  rw [Int.natAbs_tmod, Nat.gcd_comm b.natAbs, ← Nat.gcd_rec, Nat.gcd_comm]
theorem max_abs {x : Int} (hx : inI x) : (bif iLt x (wr .i64 (Int.sub 0 x)) then wr .i64 (Int.sub 0 x) else x) = wr .i64 (Int.ofNat x.natAbs) := by
  unfold inI at hx
  have e : Int.sub 0 x = -x := Int.zero_sub x
  rw [e]
  by_cases h0 : 0 ≤ x
  · have e1 : iLt x (wr .i64 (-x)) = false := by rw [wr_id (by omega) (by omega), iLt_eq]; exact decide_eq_false (by omega)
    have e2 : Int.ofNat x.natAbs = x := by show ((x.natAbs : Nat) : Int) = x; omega
    rw [e1, cond_false, e2, wr_id (by omega) (by omega)]
  · by_cases h1 : x = -9223372036854775808
    · subst h1; rfl
    · have e2 : Int.ofNat x.natAbs = -x := by show ((x.natAbs : Nat) : Int) = -x; omega
      have e1 : iLt x (wr .i64 (-x)) = true := by rw [wr_id (by omega) (by omega), iLt_eq]; exact decide_eq_true (by omega)
      rw [e1, cond_true, e2]
theorem rem_half {X Y : Nat} (h : Y ≤ X) (hY : 0 < Y) : 2 * (X % Y) < X := by
  have h1 := Nat.mod_lt X hY
  have h2 : X % Y ≤ X - Y := by rw [Nat.mod_eq_sub_mod h]; exact Nat.mod_le _ _
  omega
theorem c87 (F d : Nat) (hF : 200 < F) (a b : Int) (ha : inI a) (hb : inI b) : ReadC (CL F (d + 1)) 87 [.int .i64 a, .int .i64 b] [] (1500 + 100) (.int .i64 (dvs a b)) := by
  intro R
  rw [show 1500 + 100 = (1500) + 100 from rfl, addL_eq, ← Nat.add_assoc, ← addL_eq _ 100, Nat.add_comm R (1500)]
  refine call_in (n := 15) Try.func87 rfl rfl rfl rfl rfl rfl rfl ?_
  repeat' ((conv => whnf); first | refine eqS_rfl ?_ | refine eqA_rfl ?_ | refine eqA_of (by assumption) ?_ | refine eqS_of (by rfl) ?_ | refine eqL_rfl ?_ | refine eqJ_rfl ?_ | refine gE ?_ | refine seS_rfl ?_ | refine lsS_of hup ?_ | refine lsS_rfl ?_ | refine brS_tt ?_ | refine brS_ff ?_ | refine brS_not ?_ | refine gI ?_ | refine gT ?_ | refine gF ?_ | refine brS_intro (fun _ => ?_) (fun _ => ?_) | refine gL ?_ | refine gX ?_ | refine gO ?_ | refine gN ?_ | intro _)
  conv => whnf
  refine loS_i (fun jj f mm R' ni => ∃ (x y : Int) (q : Nat), inI x ∧ inI y ∧ Int.gcd x y = Int.gcd a b ∧ x.natAbs * y.natAbs < 2 ^ q ∧ jj = q + 1 + (if y.natAbs ≤ x.natAbs then 0 else 1) ∧ f = [(0, .int .i64 x), (1, .int .i64 y)] ∧ mm = [] ∧ R' = addL (10 * jj + R) 30 ∧ ni = 0) (127 + 1 + (if b.natAbs ≤ a.natAbs then 0 else 1)) (by split <;> omega)
    ⟨[(0, .int .i64 a), (1, .int .i64 b)], [], addL (10 * (127 + 1 + (if b.natAbs ≤ a.natAbs then 0 else 1)) + R) 30, 0, ⟨eqF_rfl _, eqF_rfl _, trivial⟩, WkM.refl _, by split <;> (first | (simp only [addL_eq, addL_rec]; omega) | omega | exact Nat.le_refl _), a, b, 127, ha, hb, rfl, ?_, rfl, rfl, rfl, rfl, rfl⟩ ?_
  · have h1 : a.natAbs ≤ 2 ^ 63 := by unfold inI at ha; omega
    have h2 : b.natAbs ≤ 2 ^ 63 := by unfold inI at hb; omega
    exact Nat.lt_of_le_of_lt (Nat.mul_le_mul h1 h2) (by decide)
  rintro _ _ _ _ _ ⟨x, y, q, hx, hy, hg, hq, rfl, rfl, rfl, rfl, rfl⟩
  by_cases hy0 : y = 0
  · subst hy0
    have d1 : iEq 0 0 = true := iEq_self _
    repeat' ((conv => whnf); first | refine eqS_rfl ?_ | refine eqA_rfl ?_ | refine eqA_of (by assumption) ?_ | refine eqS_of (by rfl) ?_ | refine eqL_rfl ?_ | refine eqJ_rfl ?_ | refine gE ?_ | refine seS_rfl ?_ | refine lsS_of hup ?_ | refine lsS_rfl ?_ | refine brS_tt ?_ | refine brS_ff ?_ | refine brS_not ?_ | refine gI ?_ | refine gT ?_ | refine gF ?_ | refine brS_intro (fun _ => ?_) (fun _ => ?_) | refine gL ?_ | refine gX ?_ | refine gO ?_ | refine gN ?_ | intro _)
    conv => whnf
    refine ⟨congrArg (Value.int .i64) ?_, nM1⟩
    rw [max_abs hx, dvs, ← hg, Int.gcd_zero_right]
  · have d1 : iEq y 0 = false := by rw [iEq_eq]; exact decide_eq_false hy0
    have hY : 0 < y.natAbs := by omega
    have hr := Int.natAbs_tmod x y
    have hl := Nat.mod_lt x.natAbs hY
    have hri : inI (x.tmod y) := by unfold inI at *; omega
    repeat' ((conv => whnf); first | refine eqS_rfl ?_ | refine eqA_rfl ?_ | refine eqA_of (by assumption) ?_ | refine eqS_of (by rfl) ?_ | refine eqL_rfl ?_ | refine eqJ_rfl ?_ | refine gE ?_ | refine seS_rfl ?_ | refine lsS_of hup ?_ | refine lsS_rfl ?_ | refine brS_tt ?_ | refine brS_ff ?_ | refine brS_not ?_ | refine gI ?_ | refine gT ?_ | refine gF ?_ | refine brS_intro (fun _ => ?_) (fun _ => ?_) | refine gL ?_ | refine gX ?_ | refine gO ?_ | refine gN ?_ | intro _)
    conv => whnf
    by_cases hle : y.natAbs ≤ x.natAbs
    · have hh := rem_half hle hY
      have hp : 2 * (y.natAbs * (x.tmod y).natAbs) < 2 ^ q := by
        rw [hr]
        refine Nat.lt_trans ?_ hq
        rw [Nat.mul_comm x.natAbs, Nat.mul_left_comm]
        exact Nat.mul_lt_mul_of_pos_left hh hY
      cases q with
      | zero => exact absurd hq (by have := Nat.mul_pos (show 0 < x.natAbs by omega) hY; omega)
      | succ q =>
        have hq2 : y.natAbs * (x.tmod y).natAbs < 2 ^ q := by rw [Nat.pow_succ] at hp; omega
        rw [if_pos hle]
        exact ⟨q + 1 + (if (x.tmod y).natAbs ≤ y.natAbs then 0 else 1), [(0, .int .i64 y), (1, .int .i64 (x.tmod y))], [], addL (10 * (q + 1 + (if (x.tmod y).natAbs ≤ y.natAbs then 0 else 1)) + R) 30, 0, by rw [if_pos (by omega)]; omega, ⟨eqF_rfl _, eqF_rfl _, trivial⟩, WkM.refl _, by rw [if_pos (by omega)]; (first | (simp only [addL_eq, addL_rec]; omega) | omega | exact Nat.le_refl _), y, x.tmod y, q, hy, hri, (gcd_step x y).trans hg, hq2, rfl, rfl, rfl, rfl, rfl⟩
    · have hm : x.natAbs % y.natAbs = x.natAbs := Nat.mod_eq_of_lt (by omega)
      rw [if_neg hle]
      exact ⟨q + 1 + (if (x.tmod y).natAbs ≤ y.natAbs then 0 else 1), [(0, .int .i64 y), (1, .int .i64 (x.tmod y))], [], addL (10 * (q + 1 + (if (x.tmod y).natAbs ≤ y.natAbs then 0 else 1)) + R) 30, 0, by rw [if_pos (by omega)]; omega, ⟨eqF_rfl _, eqF_rfl _, trivial⟩, WkM.refl _, by rw [if_pos (by omega)]; (first | (simp only [addL_eq, addL_rec]; omega) | omega | exact Nat.le_refl _), y, x.tmod y, q, hy, hri, (gcd_step x y).trans hg, by rw [hr, hm, Nat.mul_comm]; exact hq, rfl, rfl, rfl, rfl, rfl⟩
end Go.Proofs.Ytpncjgiojoehkaa
namespace Go.Proofs.Ytpncjgiojoehkaa
open Go.Ab
attribute [local irreducible] aggOk drwOK
set_option maxRecDepth 100000
set_option maxHeartbeats 4000000
set_option linter.unusedVariables false
set_option linter.unusedSimpArgs false
/-- the greatest number that divides the first coefficients -/
def mk (l : List Int) : Nat → Int
  | 0 => 0
  | j + 1 => dvs (mk l j) (l.getD j 0)
def leL (l : List Int) : List Int := l.map fun x => wr .i64 (Int.tdiv x (mk l l.length))
theorem leL_len (l : List Int) : (leL l).length = l.length := by unfold leL; rw [List.length_map]
theorem leL_get {l : List Int} {j : Nat} (h : j < l.length) : (leL l).getD j 0 = wr .i64 (Int.tdiv (l.getD j 0) (mk l l.length)) := getD_map h
theorem inI_mk (l : List Int) (j : Nat) : inI (mk l j) := by
  cases j with
  | zero => exact ⟨by show (-9223372036854775808 : Int) ≤ 0; decide, by show (0 : Int) < _; decide⟩
  | succ j => exact inI_wr (Int.ofNat (Int.gcd (mk l j) (l.getD j 0)))
theorem c71 (F d i : Nat) (a : Option Addr) (n c : Nat) (l : List Int) (hl : l.length = n) (hn : n ≤ 4) (hF : 200 < F) (hi : ∀ j, j < n → inI (l.getD j 0)) (hz : 0 < n → mk l n ≠ 0) (R : Nat) :
    callS (CL F (d + 2)) (.fn 71 [] []) [.sl 1000 a n c] [(1000, .ro a n 4 1 (pf l))] (addL R (8000 + 100)) 0 fun w m' R' _ => (∃ w0 mf, QP i n (leL l) w0 mf ∧ den w = den w0 ∧ WkM m' mf) ∧ R ≤ R' := by
  rw [show 8000 + 100 = (8000) + 100 from rfl, addL_eq, ← Nat.add_assoc, ← addL_eq _ 100, Nat.add_comm R (8000)]
  refine call_in (n := 33) Try.func71 rfl rfl rfl rfl rfl rfl rfl ?_
  repeat' ((conv => whnf); first | refine eqS_rfl ?_ | refine eqA_rfl ?_ | refine eqA_of (by assumption) ?_ | refine eqS_of (by rfl) ?_ | refine eqL_rfl ?_ | refine eqJ_rfl ?_ | refine gE ?_ | refine seS_rfl ?_ | refine lsS_of hup ?_ | refine lsS_rfl ?_ | refine brS_tt ?_ | refine brS_ff ?_ | refine brS_not ?_ | refine gI ?_ | refine gT ?_ | refine gF ?_ | refine brS_intro (fun _ => ?_) (fun _ => ?_) | refine gL ?_ | refine gX ?_ | refine gO ?_ | refine gN ?_ | intro _)
  conv => whnf
  refine loS_i (fun jj f mm R' ni => ∃ j : Nat, j ≤ n ∧ jj = n - j + 1 ∧ f = [(0, .sl 1000 a n c), (3, .int .i64 (mk l j)), (9, .sl 1000 a n c), (10, .int .i64 (Int.ofNat n)), (11, .int .i64 (Int.ofNat j))] ∧ mm = [(1000, .ro a n 4 1 (pf l))] ∧ R' = addL (1700 * (n - j) + (1000 + R)) 30 ∧ ni = 100) (n + 1) (by omega)
    ⟨[(0, .sl 1000 a n c), (3, .int .i64 (mk l 0)), (9, .sl 1000 a n c), (10, .int .i64 (Int.ofNat n)), (11, .int .i64 (Int.ofNat 0))], _, addL (1700 * (n - 0) + (1000 + R)) 30, 100, ⟨eqF_rfl _, eqF_rfl _, eqF_rfl _, eqF_rfl _, eqF_rfl _, trivial⟩, WkM.refl _, nM1, 0, by omega, by omega, rfl, rfl, rfl, rfl⟩ ?_
  rintro _ _ _ _ _ ⟨j, hj, rfl, rfl, rfl, rfl, rfl⟩
  by_cases hlt : j < n
  · have d1 := iLt_t hlt
    have k87 := c87 F d hF (mk l j) (l.getD j 0) (inI_mk l j) (hi j hlt)
    repeat' ((conv => whnf); first | refine eqS_rfl ?_ | refine eqA_rfl ?_ | refine eqA_of (by assumption) ?_ | refine eqS_of (by rfl) ?_ | refine eqL_rfl ?_ | refine eqJ_rfl ?_ | refine gE ?_ | refine seS_rfl ?_ | refine lsS_of hup ?_ | refine lsS_rfl ?_ | refine brS_tt ?_ | refine brS_ff ?_ | refine brS_not ?_ | refine gI ?_ | refine gT ?_ | refine gF ?_ | refine brS_intro (fun _ => ?_) (fun _ => ?_) | refine gL ?_ | refine gX ?_ | refine gO ?_ | refine gN ?_ | refine gM ?_ | refine gY ?_ | refine call_readL k87 (addL (1700 * (n - (j + 1)) + (1000 + R)) 90) (by rfl) (SeesM.nil _) (nM1) ?_ | intro _)
    conv => whnf
    exact ⟨n - (j + 1) + 1, [(0, .sl 1000 a n c), (3, .int .i64 (mk l (j + 1))), (9, .sl 1000 a n c), (10, .int .i64 (Int.ofNat n)), (11, .int .i64 (Int.ofNat (j + 1)))], _, addL (1700 * (n - (j + 1)) + (1000 + R)) 30, 100, by omega, ⟨eqF_rfl _, eqF_rfl _, eqF_rfl _, eqF_rfl _, ⟨congrArg (Value.int .i64) (smn (i := j + 1) (by omega)), rfl⟩, trivial⟩, WS, nM1, j + 1, by omega, rfl, rfl, rfl, rfl, rfl⟩
  · have e2 : n = j := by omega
    subst e2
    have d1 := iLt_f (Nat.le_refl n)
    repeat' ((conv => whnf); first | refine eqS_rfl ?_ | refine eqA_rfl ?_ | refine eqA_of (by assumption) ?_ | refine eqS_of (by rfl) ?_ | refine eqL_rfl ?_ | refine eqJ_rfl ?_ | refine gE ?_ | refine seS_rfl ?_ | refine lsS_of hup ?_ | refine lsS_rfl ?_ | refine brS_tt ?_ | refine brS_ff ?_ | refine brS_not ?_ | refine gI ?_ | refine gT ?_ | refine gF ?_ | refine brS_intro (fun _ => ?_) (fun _ => ?_) | refine gL ?_ | refine gX ?_ | refine gO ?_ | refine gN ?_ | intro _)
    conv => whnf
    refine loS_i (fun jj f mm R' ni => ∃ (j : Nat) (a1 : Option Addr), j ≤ n ∧ jj = n - j + 1 ∧ f = [(3, .int .i64 (mk l n)), (6, .sl 600 a1 j j), (19, .sl 1000 a n c), (20, .int .i64 (Int.ofNat n)), (21, .int .i64 (Int.ofNat j))] ∧ mm = [(600, .gr a1 j 3 1 (pf (leL l))), (1000, .ro a n 4 1 (pf l))] ∧ R' = addL (20 * (n - j) + R) 30 ∧ ni = 100) (n + 1) (by omega)
      ⟨[(3, .int .i64 (mk l n)), (6, .sl 600 none 0 0), (19, .sl 1000 a n c), (20, .int .i64 (Int.ofNat n)), (21, .int .i64 (Int.ofNat 0))], [(600, .gr none 0 3 1 (pf (leL l))), (1000, .ro a n 4 1 (pf l))], addL (20 * (n - 0) + R) 30, 100, ⟨eqF_rfl _, ⟨rfl, rfl⟩, eqF_rfl _, eqF_rfl _, eqF_rfl _, trivial⟩, by exact (WkM.gr0 (WkM.refl _)).trans WS, nM1, 0, none, by omega, by omega, rfl, rfl, rfl, rfl⟩ ?_
    rintro _ _ _ _ _ ⟨j, a1, hj, rfl, rfl, rfl, rfl, rfl⟩
    by_cases hlt : j < n
    · have d1 := iLt_t hlt
      have hne := hz (by omega)
      have hg := growE (n := j) (sz := 1) (f := pf (leL l)) (l := [.int .i64 (wr .i64 (Int.tdiv (l.getD j 0) (mk l n)))]) rfl (by show [_] = _; rw [leL_get (by omega), hl])
      repeat' ((conv => whnf); first | refine eqS_rfl ?_ | refine eqA_rfl ?_ | refine eqA_of (by assumption) ?_ | refine eqS_of (by rfl) ?_ | refine eqL_rfl ?_ | refine eqJ_rfl ?_ | refine gE ?_ | refine seS_rfl ?_ | refine lsS_of hup ?_ | refine lsS_rfl ?_ | refine brS_tt ?_ | refine brS_ff ?_ | refine brS_not ?_ | refine gI ?_ | refine gT ?_ | refine gF ?_ | refine brS_intro (fun _ => ?_) (fun _ => ?_) | refine gL ?_ | refine gX ?_ | refine gO ?_ | refine gN ?_ | refine gM ?_ | refine gY ?_ | refine ltS_intro (show j * 1 + 1 < 32769 by omega) ?_ | intro _)
      rename_i a9
      conv => whnf
      exact ⟨n - (j + 1) + 1, [(3, .int .i64 (mk l n)), (6, .sl 600 a9 (j + 1) (j + 1)), (19, .sl 1000 a n c), (20, .int .i64 (Int.ofNat n)), (21, .int .i64 (Int.ofNat (j + 1)))], [(600, .gr a9 (j + 1) 3 1 (pf (leL l))), (1000, .ro a n 4 1 (pf l))], addL (20 * (n - (j + 1)) + R) 30, 100, by omega, ⟨eqF_rfl _, ⟨rfl, rfl⟩, eqF_rfl _, eqF_rfl _, ⟨congrArg (Value.int .i64) (smn (i := j + 1) (by omega)), rfl⟩, trivial⟩, WG, nM1, j + 1, _, by omega, rfl, rfl, rfl, rfl, rfl⟩
    · have e2 : n = j := by omega
      subst e2
      have d1 := iLt_f (Nat.le_refl n)
      repeat' ((conv => whnf); first | refine eqS_rfl ?_ | refine eqA_rfl ?_ | refine eqA_of (by assumption) ?_ | refine eqS_of (by rfl) ?_ | refine eqL_rfl ?_ | refine eqJ_rfl ?_ | refine gE ?_ | refine seS_rfl ?_ | refine lsS_of hup ?_ | refine lsS_rfl ?_ | refine brS_tt ?_ | refine brS_ff ?_ | refine brS_not ?_ | refine gI ?_ | refine gT ?_ | refine gF ?_ | refine brS_intro (fun _ => ?_) (fun _ => ?_) | refine gL ?_ | refine gX ?_ | refine gO ?_ | refine gN ?_ | intro _)
      conv => whnf
      exact ⟨⟨_, _, ⟨a1, rfl, rfl⟩, rfl, WS⟩, nM1⟩
end Go.Proofs.Ytpncjgiojoehkaa
namespace Go.Proofs.Ytpncjgiojoehkaa
open Go.Ab
attribute [local irreducible] aggOk drwOK
set_option maxRecDepth 100000
set_option maxHeartbeats 4000000
set_option linter.unusedVariables false
set_option linter.unusedSimpArgs false
theorem call67 (i : Nat) {call : CallT} {g : FuncId} {args args0 : List SV} {m0 : Mem} {N n : Nat} {l : List Int} (h : ∀ R, callS call (.fn g [] []) args0 m0 (addL R N) 0 fun w m' R' _ => (∃ w0 mf, QP i n l w0 mf ∧ den w = den w0 ∧ WkM m' mf) ∧ R ≤ R') (R2 : Nat) {m : Mem} {R ni : Nat} {K : SV → Mem → Nat → Nat → Prop} (ha : dens args = dens args0) (hs : SeesM m m0) (hN : R2 + N ≤ R)
    (hK : ∀ a, K (.sl i a n n) ((i, .gr a n 3 1 (pf l)) :: m) R2 ni) : callS call (.fn g [] []) args m R ni K := by
  refine call_freshL (QP i n l) h ?_ R2 ha hs hN ?_
  · rintro _ _ ⟨a1, rfl, rfl⟩ x hx
    rw [List.mem_singleton.1 hx]; exact ⟨_, _, _, _, _, rfl⟩
  · rintro _ _ ⟨a1, rfl, rfl⟩
    exact hK a1
theorem growP {q : List Int} {t : Nat} {x : Int} (hl : q.length = t) : ∀ j, j < t + 1 → grow t 1 (pf q) [.int .i64 x] j = pf (q ++ [x]) j := fun j hj => by
  by_cases h : j = t
  · subst h
    have := growE (n := j) (sz := 1) (f := pf (q ++ [x])) (l := [.int .i64 x]) rfl (by show [_] = _; simp [List.getD_eq_getElem?_getD, ← hl]) j (by omega)
    unfold grow at this ⊢
    have hb : Nat.blt j j = false := by
      cases hh : Nat.blt j j with
      | false => rfl
      | true => have := blt_true hh; omega
    rw [hb, cond_false] at this ⊢
    exact this
  · unfold grow
    rw [blt_of (show j < t by omega), cond_true]
    show [_] = [_]
    rw [List.getD_eq_getElem?_getD, List.getD_eq_getElem?_getD, List.getElem?_append_left (by omega)]
/-- what is left to do, as a shift -/
def sv : Nat → Int
  | 0 => -1
  | u + 1 => Int.ofNat u
theorem sv_dec (s : Nat) (hs : s ≤ 1000 := by omega) : wr .i64 (Int.sub (Int.ofNat s) 1) = sv s := by
  cases s with
  | zero => rfl
  | succ s => exact (sm (n := ((s + 1 : Nat) : Int) - 1) (by omega)).trans (by show ((s + 1 : Nat) : Int) - 1 = ((s : Nat) : Int); omega)
def szO (x : Int) : Int := if x < 0 then wr .i64 (Int.sub 0 x) else x
def sgO (x : Int) : Int := if x < 0 then -1 else 1
/-- in a step of a division: the first numbers are done -/
def gk (b : List Int) (sz fac : Int) (s k : Nat) (r : List Int) (z : Nat) : Int := if s ≤ z ∧ z < s + k then wr .i64 (Int.sub ((tmL r sz).getD z 0) (wr .i64 (Int.mul fac (b.getD (z - s) 0)))) else (tmL r sz).getD z 0
def dvS (b : List Int) (sz sg : Int) (s : Nat) (st : List Int × List Int) : List Int × List Int :=
  (tmL st.1 sz ++ [wr .i64 (Int.mul sg (st.2.getD (s + b.length - 1) 0))], (List.range st.2.length).map (gk b sz (wr .i64 (Int.mul sg (st.2.getD (s + b.length - 1) 0))) s b.length st.2))
def dvN (b : List Int) (sz sg : Int) : Nat → List Int × List Int → List Int × List Int
  | 0, st => st
  | u + 1, st => dvN b sz sg u (dvS b sz sg u st)
theorem gk_get {b r : List Int} {sz fac : Int} {s k z : Nat} (h : z < r.length) : ((List.range r.length).map (gk b sz fac s k r)).getD z 0 = gk b sz fac s k r z := getD_tab h
theorem gk_upd {b r : List Int} {sz fac : Int} {s k : Nat} : ∀ z, updG (s + k) [.int .i64 (wr .i64 (Int.sub (gk b sz fac s k r (s + k)) (wr .i64 (Int.mul fac (b.getD k 0)))))] (fun z => [.int .i64 (gk b sz fac s k r z)]) z = [.int .i64 (gk b sz fac s (k + 1) r z)] := fun z => by
  by_cases h : z = s + k
  · subst h
    rw [updG_same]
    have e1 : gk b sz fac s k r (s + k) = (tmL r sz).getD (s + k) 0 := by unfold gk; rw [if_neg (by omega)]
    have e2 : gk b sz fac s (k + 1) r (s + k) = wr .i64 (Int.sub ((tmL r sz).getD (s + k) 0) (wr .i64 (Int.mul fac (b.getD k 0)))) := by unfold gk; rw [if_pos (by omega), show s + k - s = k by omega]
    rw [e1, e2]
  · rw [updG_other h]
    show [SV.int .i64 (gk b sz fac s k r z)] = _
    have : gk b sz fac s k r z = gk b sz fac s (k + 1) r z := by
      unfold gk
      by_cases h2 : s ≤ z ∧ z < s + k
      · rw [if_pos h2, if_pos (by omega)]
      · rw [if_neg h2, if_neg (by omega)]
    rw [this]
theorem gk_0 {b r : List Int} {sz fac : Int} {s z : Nat} : gk b sz fac s 0 r z = (tmL r sz).getD z 0 := by unfold gk; rw [if_neg (by omega)]
theorem gk_in {b r : List Int} {sz fac : Int} {s k z : Nat} (h : z < r.length) : inI (gk b sz fac s k r z) := by
  unfold gk
  split
  · exact inI_wr _
  · rw [tmL_get h]; exact inI_wr _
/-- the first elements of a slice -/
theorem sees_pre {m : Mem} {i n t e sz : Nat} {a : Option Addr} {f : Nat → List SV} (h : getM m i = some (.gr a n e sz f)) (ht : t ≤ n) : SeesE m (.ro a t (e + 1) sz f) := fun X Z s0 R s hm => by
  have g : SeesE m (.ro a n (e + 1) sz f) := sees_gr h (.inr rfl)
  obtain ⟨⟨g1, g2⟩, _⟩ := g X Z s0 R s hm
  refine ⟨⟨fun j hj => g1 _ (by omega), ?_⟩, fun b hb => hb⟩
  by_cases hk0 : t = 0
  · exact .inl hk0
  · rcases g2 with g2 | ⟨b, p, rfl, g2, _, g3⟩
    · omega
    · refine .inr ⟨b, p, rfl, ?_, .inr (.inr trivial), g3⟩
      obtain ⟨r, rfl⟩ : ∃ r, n = t + r := ⟨n - t, by omega⟩
      have l2 : (slL f t).length = t * sz := slL_length fun j hj => g1 _ (by omega)
      have h2 := g2.sub (o := 0) (n := t * sz) (by rw [slL_length g1, Nat.add_mul]; omega)
      rw [slL_add f t, List.drop_zero, List.take_append, l2, Nat.sub_self, List.take_zero, List.append_nil, List.take_of_length_le (by omega), Nat.add_zero] at h2
      exact h2
/-- in the turning around of a slice -/
def rvI (L t : Nat) (f : Nat → Int) (z : Nat) : Int := if z < t ∨ L ≤ z + t then f (L - 1 - z) else f z
theorem rvI_swap {L t : Nat} {f : Nat → Int} (ht : t < L - 1 - t) : ∀ z, z < L → updG (L - 1 - t) [.int .i64 (rvI L t f t)] (updG t [.int .i64 (rvI L t f (L - 1 - t))] (fun z => [.int .i64 (rvI L t f z)])) z = [.int .i64 (rvI L (t + 1) f z)] := fun z hz => by
  have e1 : rvI L t f t = f t := by unfold rvI; rw [if_neg (by omega)]
  have e2 : rvI L t f (L - 1 - t) = f (L - 1 - t) := by unfold rvI; rw [if_neg (by omega)]
  rw [e1, e2]
  by_cases h1 : z = L - 1 - t
  · rw [h1, updG_same]; unfold rvI; rw [if_pos (by omega)]; congr 3; omega
  · rw [updG_other h1]
    by_cases h2 : z = t
    · rw [h2, updG_same]; unfold rvI; rw [if_pos (by omega)]
    · rw [updG_other h2]
      show [SV.int .i64 (rvI L t f z)] = _
      have : rvI L t f z = rvI L (t + 1) f z := by
        unfold rvI
        by_cases h3 : z < t ∨ L ≤ z + t
        · rw [if_pos h3, if_pos (by omega)]
        · rw [if_neg h3, if_neg (by omega)]
      rw [this]
theorem rvI_done {t : Nat} {q : List Int} (ht : q.length - 1 - t ≤ t) : ∀ z, z < q.length → [SV.int .i64 (rvI q.length t (fun z => q.getD z 0) z)] = pf q.reverse z := fun z hz => by
  have e : q.reverse.getD z 0 = q.getD (q.length - 1 - z) 0 := by
    rw [List.getD_eq_getElem?_getD, List.getD_eq_getElem?_getD, List.getElem?_reverse hz]
  show _ = [SV.int .i64 (q.reverse.getD z 0)]
  rw [e]
  unfold rvI
  by_cases h3 : z < t ∨ q.length ≤ z + t
  · rw [if_pos h3]
  · rw [if_neg h3]; congr 3; omega
/-- how many numbers are left without the zeros at the end -/
def tl (r : List Int) : Nat → Nat
  | 0 => 0
  | t + 1 => if r.getD t 0 = 0 then tl r t else t + 1
theorem tl_le (r : List Int) : ∀ t, tl r t ≤ t
  | 0 => Nat.le_refl 0
  | t + 1 => by unfold tl; split; exact Nat.le_succ_of_le (tl_le r t); exact Nat.le_refl _
theorem take_get {r : List Int} {t z : Nat} (h : z < t) : (r.take t).getD z 0 = r.getD z 0 := by
  rw [List.getD_eq_getElem?_getD, List.getD_eq_getElem?_getD, List.getElem?_take_of_lt h]
theorem dvs_ne {a b : Int} (hb : inI b) (h : b ≠ 0) : dvs a b ≠ 0 := by
  unfold dvs
  have h1 : 0 < Int.gcd a b := Int.gcd_pos_of_ne_zero_right _ h
  have h2 : Int.gcd a b ≤ b.natAbs := Nat.le_of_dvd (by omega) (Int.gcd_dvd_natAbs_right _ _)
  unfold inI at hb
  by_cases e : Int.gcd a b = 9223372036854775808
  · rw [e]; decide
  · rw [wr_id (by show (-9223372036854775808 : Int) ≤ (Int.gcd a b : Int); omega) (by show (Int.gcd a b : Int) < _; omega)]
    show ((Int.gcd a b : Nat) : Int) ≠ 0
    omega
theorem mk_ne {l : List Int} {n : Nat} (h0 : 0 < n) (hi : inI (l.getD (n - 1) 0)) (h : l.getD (n - 1) 0 ≠ 0) : mk l n ≠ 0 := by
  cases n with
  | zero => omega
  | succ n => exact dvs_ne hi h
theorem tmL_in {q : List Int} {k : Int} : ∀ x ∈ tmL q k, inI x := fun x hx => by
  obtain ⟨y, _, rfl⟩ := List.mem_map.1 hx
  exact inI_wr _
theorem dvN_in {b : List Int} {sz sg : Int} : ∀ (u : Nat) (st : List Int × List Int), (∀ x ∈ st.1, inI x) → ∀ x ∈ (dvN b sz sg u st).1, inI x
  | 0, _, h => h
  | u + 1, st, _ => dvN_in u _ fun x hx => by
    rcases List.mem_append.1 hx with hx | hx
    · exact tmL_in x hx
    · rw [List.mem_singleton.1 hx]; exact inI_wr _
theorem getD_memI {l : List Int} {j : Nat} (h : j < l.length) : l.getD j 0 ∈ l := by rw [List.getD_eq_getElem?_getD, List.getElem?_eq_getElem h]; exact List.getElem_mem h
/-- what a division answers -/
def QD (i j nq : Nat) (lq : List Int) (nr : Nat) (lr : List Int) (w0 : SV) (mf : Mem) : Prop := ∃ a1 a2, w0 = .tup [.sl i a1 nq nq, .sl j a2 nr nr] ∧ mf = [(i, .gr a1 nq 3 1 (pf lq)), (j, .gr a2 nr 3 1 (pf lr))]
end Go.Proofs.Ytpncjgiojoehkaa
namespace Go.Proofs.Ytpncjgiojoehkaa
open Go.Ab
attribute [local irreducible] aggOk drwOK
set_option maxRecDepth 100000
set_option maxHeartbeats 4000000
set_option linter.unusedVariables false
set_option linter.unusedSimpArgs false
theorem ltS_11 {p s b : Nat} {K : Prop} (hs : s = 1) (h : p * 1 < b) (k : K) : ltS (Nat.mul p s) b K := by subst hs; exact ltS_intro h k
/-- in a product: the first numbers of a row are done -/
def mrow (l b : List Int) (i : Nat) (f : Nat → Int) : Nat → Nat → Int
  | 0, z => f z
  | k + 1, z => if z = i + k then wr .i64 (Int.add (mrow l b i f k z) (wr .i64 (Int.mul (l.getD i 0) (b.getD k 0)))) else mrow l b i f k z
def mall (l b : List Int) (m : Nat) : Nat → Nat → Int
  | 0, _ => 0
  | i + 1, z => mrow l b i (mall l b m i) m z
/-- a product -/
def mulL (l b : List Int) : List Int := (List.range (l.length + b.length - 1)).map (mall l b b.length l.length)
theorem mulL_len (l b : List Int) : (mulL l b).length = l.length + b.length - 1 := by unfold mulL; simp
theorem mrow_upd {l b : List Int} {i k : Nat} {f : Nat → Int} : ∀ z, updG (i + k) [.int .i64 (wr .i64 (Int.add (mrow l b i f k (i + k)) (wr .i64 (Int.mul (l.getD i 0) (b.getD k 0)))))] (fun z => [.int .i64 (mrow l b i f k z)]) z = [.int .i64 (mrow l b i f (k + 1) z)] := fun z => by
  by_cases h : z = i + k
  · subst h
    rw [updG_same]
    show _ = [SV.int .i64 (if i + k = i + k then _ else _)]
    rw [if_pos rfl]
  · rw [updG_other h]
    show _ = [SV.int .i64 (if z = i + k then _ else _)]
    rw [if_neg h]
theorem c59 (F d q : Nat) (a : Option Addr) (n c : Nat) (l : List Int) (hl : l.length = n) (a2 : Option Addr) (m c2 : Nat) (b : List Int) (hb : b.length = m) (hm : 0 < m) (h0 : 0 < n) (hn : n ≤ 8) (hm8 : m ≤ 8) (hF : 100 < F) (R : Nat) :
    callS (CL F (d + 1)) (.fn 59 [] []) [.sl 1000 a n c, .sl 1001 a2 m c2] [(1000, .ro a n 4 1 (pf l)), (1001, .ro a2 m 4 1 (pf b))] (addL R (3000 + 100)) 0 fun w m' R' _ => (∃ w0 mf, QP q (n + m - 1) (mulL l b) w0 mf ∧ den w = den w0 ∧ WkM m' mf) ∧ R ≤ R' := by
  have e1 : wr .i64 (Int.add (Int.ofNat n) (Int.ofNat m)) = Int.ofNat (n + m) := smn (i := n + m) (by omega)
  have e2 : wr .i64 (Int.sub (wr .i64 (Int.add (Int.ofNat n) (Int.ofNat m))) 1) = Int.ofNat (n + m - 1) := by
    rw [e1]; exact (sm (n := ((n + m : Nat) : Int) - 1) (by omega)).trans (by show ((n + m : Nat) : Int) - 1 = ((n + m - 1 : Nat) : Int); omega)
  rw [show 3000 + 100 = (3000) + 100 from rfl, addL_eq, ← Nat.add_assoc, ← addL_eq _ 100, Nat.add_comm R (3000)]
  refine call_in (n := 45) Try.func59 rfl rfl rfl rfl rfl rfl rfl ?_
  repeat' ((conv => whnf); first | refine eqS_rfl ?_ | refine eqA_rfl ?_ | refine eqA_of (by assumption) ?_ | refine eqS_of (by rfl) ?_ | refine eqL_rfl ?_ | refine eqJ_rfl ?_ | refine gE ?_ | refine seS_rfl ?_ | refine lsS_of hup ?_ | refine lsS_rfl ?_ | refine brS_tt ?_ | refine brS_ff ?_ | refine brS_not ?_ | refine gI ?_ | refine gT ?_ | refine gF ?_ | refine brS_intro (fun _ => ?_) (fun _ => ?_) | refine gL ?_ | refine gX ?_ | refine gO ?_ | refine gN ?_ | refine gM ?_ | refine gY ?_ | refine ixS_of e2 (show n + m - 1 < 32769 by omega) ?_ | refine ltS_11 (by kernel_rfl) oM1 ?_ | intro _)
  rename_i bw
  obtain ⟨aw, haw⟩ : ∃ aw : Option Addr, aw = some ⟨bw, 0, none⟩ := ⟨_, rfl⟩
  conv => whnf
  refine loS_i (fun jj f mm R' ni => ∃ i : Nat, i ≤ n ∧ jj = n - i + 1 ∧ f = [(1, .sl 1001 a2 m c2), (5, .sl 700 aw (n + m - 1) (n + m - 1)), (17, .sl 1000 a n c), (18, .int .i64 (Int.ofNat n)), (19, .int .i64 (Int.ofNat i))] ∧ mm = [(700, .gr aw (n + m - 1) 3 1 (fun z => [.int .i64 (mall l b m i z)])), (1000, .ro a n 4 1 (pf l)), (1001, .ro a2 m 4 1 (pf b))] ∧ R' = addL (300 * (n - i) + R) 50 ∧ ni = 100) (n + 1) (by omega)
    ⟨[(1, .sl 1001 a2 m c2), (5, .sl 700 aw (n + m - 1) (n + m - 1)), (17, .sl 1000 a n c), (18, .int .i64 (Int.ofNat n)), (19, .int .i64 (Int.ofNat 0))], [(700, .gr aw (n + m - 1) 3 1 (fun z => [.int .i64 (mall l b m 0 z)])), (1000, .ro a n 4 1 (pf l)), (1001, .ro a2 m 4 1 (pf b))], addL (300 * (n - 0) + R) 50, 100, ⟨eqF_rfl _, ⟨by rw [haw]; rfl, rfl⟩, eqF_rfl _, eqF_rfl _, eqF_rfl _, trivial⟩, ?_, nM1, 0, by omega, by omega, rfl, rfl, rfl, rfl⟩ ?_
  · rw [haw]
    have hz0 : ∀ j, j < n + m - 1 → (fun _ : Nat => ofVs (vcells (Value.int .i64 0))) j = [SV.int .i64 (mall l b m 0 j)] := fun j _ => rfl
    exact WG
  rintro _ _ _ _ _ ⟨i, hi, rfl, rfl, rfl, rfl, rfl⟩
  by_cases hlt : i < n
  · have d1 := iLt_t hlt
    repeat' ((conv => whnf); first | refine eqS_rfl ?_ | refine eqA_rfl ?_ | refine eqA_of (by assumption) ?_ | refine eqS_of (by rfl) ?_ | refine eqL_rfl ?_ | refine eqJ_rfl ?_ | refine gE ?_ | refine seS_rfl ?_ | refine lsS_of hup ?_ | refine lsS_rfl ?_ | refine brS_tt ?_ | refine brS_ff ?_ | refine brS_not ?_ | refine gI ?_ | refine gT ?_ | refine gF ?_ | refine brS_intro (fun _ => ?_) (fun _ => ?_) | refine gL ?_ | refine gX ?_ | refine gO ?_ | refine gN ?_ | refine gM ?_ | refine gY ?_ | intro _)
    conv => whnf
    refine loS_i (fun jj f mm R' ni => ∃ k : Nat, k ≤ m ∧ jj = m - k + 1 ∧ f = [(1, .sl 1001 a2 m c2), (5, .sl 700 aw (n + m - 1) (n + m - 1)), (6, .int .i64 (Int.ofNat i)), (7, .int .i64 (l.getD i 0)), (17, .sl 1000 a n c), (18, .int .i64 (Int.ofNat n)), (19, .int .i64 (Int.ofNat i)), (24, .sl 1001 a2 m c2), (25, .int .i64 (Int.ofNat m)), (26, .int .i64 (Int.ofNat k))] ∧ mm = [(700, .gr aw (n + m - 1) 3 1 (fun z => [.int .i64 (mrow l b i (mall l b m i) k z)])), (1000, .ro a n 4 1 (pf l)), (1001, .ro a2 m 4 1 (pf b))] ∧ R' = addL (25 * (m - k) + (300 * (n - (i + 1)) + R)) 70 ∧ ni = 200) (m + 1) (by omega)
      ⟨[(1, .sl 1001 a2 m c2), (5, .sl 700 aw (n + m - 1) (n + m - 1)), (6, .int .i64 (Int.ofNat i)), (7, .int .i64 (l.getD i 0)), (17, .sl 1000 a n c), (18, .int .i64 (Int.ofNat n)), (19, .int .i64 (Int.ofNat i)), (24, .sl 1001 a2 m c2), (25, .int .i64 (Int.ofNat m)), (26, .int .i64 (Int.ofNat 0))], [(700, .gr aw (n + m - 1) 3 1 (fun z => [.int .i64 (mrow l b i (mall l b m i) 0 z)])), (1000, .ro a n 4 1 (pf l)), (1001, .ro a2 m 4 1 (pf b))], addL (25 * (m - 0) + (300 * (n - (i + 1)) + R)) 70, 200, ⟨eqF_rfl _, eqF_rfl _, eqF_rfl _, eqF_rfl _, eqF_rfl _, eqF_rfl _, eqF_rfl _, eqF_rfl _, eqF_rfl _, eqF_rfl _, trivial⟩, WkM.refl _, nM1, 0, by omega, by omega, rfl, rfl, rfl, rfl⟩ ?_
    rintro _ _ _ _ _ ⟨k, hk0, rfl, rfl, rfl, rfl, rfl⟩
    by_cases hk : k < m
    · have d3 := iLt_t hk
      have ix4 : wr .i64 (Int.add (Int.ofNat i) (Int.ofNat k)) = Int.ofNat (i + k) := smn (i := i + k) (by omega)
      have hq3 : i + k < n + m - 1 := by omega
      have hU : ∀ z, z < n + m - 1 → updG (i + k) [.int .i64 (wr .i64 (Int.add (mrow l b i (mall l b m i) k (i + k)) (wr .i64 (Int.mul (l.getD i 0) (b.getD k 0)))))] (fun z => [.int .i64 (mrow l b i (mall l b m i) k z)]) z = [.int .i64 (mrow l b i (mall l b m i) (k + 1) z)] := fun z _ => mrow_upd z
      repeat' ((conv => whnf); first | refine eqS_rfl ?_ | refine eqA_rfl ?_ | refine eqA_of (by assumption) ?_ | refine eqS_of (by rfl) ?_ | refine eqL_rfl ?_ | refine eqJ_rfl ?_ | refine gE ?_ | refine seS_rfl ?_ | refine lsS_of hup ?_ | refine lsS_rfl ?_ | refine brS_tt ?_ | refine brS_ff ?_ | refine brS_not ?_ | refine gI ?_ | refine gT ?_ | refine gF ?_ | refine brS_intro (fun _ => ?_) (fun _ => ?_) | refine gL ?_ | refine gX ?_ | refine gO ?_ | refine gN ?_ | refine gM ?_ | refine gY ?_ | refine ixS_of ix4 hq3 ?_ | intro _)
      conv => whnf
      exact ⟨m - (k + 1) + 1, [(1, .sl 1001 a2 m c2), (5, .sl 700 aw (n + m - 1) (n + m - 1)), (6, .int .i64 (Int.ofNat i)), (7, .int .i64 (l.getD i 0)), (17, .sl 1000 a n c), (18, .int .i64 (Int.ofNat n)), (19, .int .i64 (Int.ofNat i)), (24, .sl 1001 a2 m c2), (25, .int .i64 (Int.ofNat m)), (26, .int .i64 (Int.ofNat (k + 1)))], [(700, .gr aw (n + m - 1) 3 1 (fun z => [.int .i64 (mrow l b i (mall l b m i) (k + 1) z)])), (1000, .ro a n 4 1 (pf l)), (1001, .ro a2 m 4 1 (pf b))], addL (25 * (m - (k + 1)) + (300 * (n - (i + 1)) + R)) 70, 200, by omega, ⟨eqF_rfl _, eqF_rfl _, eqF_rfl _, eqF_rfl _, eqF_rfl _, eqF_rfl _, eqF_rfl _, eqF_rfl _, eqF_rfl _, ⟨congrArg (Value.int .i64) (smn (i := k + 1) (by omega)), rfl⟩, trivial⟩, WG, nM1, k + 1, by omega, rfl, rfl, rfl, rfl, rfl⟩
    · have e3 : m = k := by omega
      subst e3
      have d3 := iLt_f (Nat.le_refl m)
      repeat' ((conv => whnf); first | refine eqS_rfl ?_ | refine eqA_rfl ?_ | refine eqA_of (by assumption) ?_ | refine eqS_of (by rfl) ?_ | refine eqL_rfl ?_ | refine eqJ_rfl ?_ | refine gE ?_ | refine seS_rfl ?_ | refine lsS_of hup ?_ | refine lsS_rfl ?_ | refine brS_tt ?_ | refine brS_ff ?_ | refine brS_not ?_ | refine gI ?_ | refine gT ?_ | refine gF ?_ | refine brS_intro (fun _ => ?_) (fun _ => ?_) | refine gL ?_ | refine gX ?_ | refine gO ?_ | refine gN ?_ | refine gM ?_ | refine gY ?_ | intro _)
      conv => whnf
      exact ⟨n - (i + 1) + 1, [(1, .sl 1001 a2 m c2), (5, .sl 700 aw (n + m - 1) (n + m - 1)), (17, .sl 1000 a n c), (18, .int .i64 (Int.ofNat n)), (19, .int .i64 (Int.ofNat (i + 1)))], [(700, .gr aw (n + m - 1) 3 1 (fun z => [.int .i64 (mall l b m (i + 1) z)])), (1000, .ro a n 4 1 (pf l)), (1001, .ro a2 m 4 1 (pf b))], addL (300 * (n - (i + 1)) + R) 50, 100, by omega, ⟨eqF_rfl _, eqF_rfl _, eqF_rfl _, eqF_rfl _, ⟨congrArg (Value.int .i64) (smn (i := i + 1) (by omega)), rfl⟩, trivial⟩, WkM.refl _, nM1, i + 1, by omega, rfl, rfl, rfl, rfl, rfl⟩
  · have e3 : n = i := by omega
    subst e3
    have d1 := iLt_f (Nat.le_refl n)
    have hfin : ∀ z, z < n + m - 1 → [SV.int .i64 (mall l b m n z)] = pf (mulL l b) z := fun z hz => by
      show _ = [SV.int .i64 ((mulL l b).getD z 0)]
      unfold mulL
      rw [hl, hb, getD_tab hz]
    repeat' ((conv => whnf); first | refine eqS_rfl ?_ | refine eqA_rfl ?_ | refine eqA_of (by assumption) ?_ | refine eqS_of (by rfl) ?_ | refine eqL_rfl ?_ | refine eqJ_rfl ?_ | refine gE ?_ | refine seS_rfl ?_ | refine lsS_of hup ?_ | refine lsS_rfl ?_ | refine brS_tt ?_ | refine brS_ff ?_ | refine brS_not ?_ | refine gI ?_ | refine gT ?_ | refine gF ?_ | refine brS_intro (fun _ => ?_) (fun _ => ?_) | refine gL ?_ | refine gX ?_ | refine gO ?_ | refine gN ?_ | refine gM ?_ | refine gY ?_ | intro _)
    conv => whnf
    exact ⟨⟨_, _, ⟨aw, rfl, rfl⟩, rfl, WG⟩, nM1⟩
theorem c33 (F d : Nat) (x1 y1 x2 y2 : Int) : PureC (CL F (d + 1)) 33 [.agg [.int .i64 x1, .int .i64 y1], .agg [.int .i64 x2, .int .i64 y2]] 40 (.bool (!iLt (wr .i64 (Int.mul x2 y1)) (wr .i64 (Int.mul x1 y2)))) := by
  intro m R
  refine call_in (n := 16) Try.func33 rfl rfl rfl rfl rfl rfl rfl ?_
  repeat' ((conv => whnf); first | refine eqS_rfl ?_ | refine eqA_rfl ?_ | refine eqA_of (by assumption) ?_ | refine eqS_of (by rfl) ?_ | refine eqL_rfl ?_ | refine eqJ_rfl ?_ | refine gE ?_ | refine seS_rfl ?_ | refine lsS_of hup ?_ | refine lsS_rfl ?_ | refine brS_tt ?_ | refine brS_ff ?_ | refine brS_not ?_ | refine gI ?_ | refine gT ?_ | refine gF ?_ | refine brS_intro (fun _ => ?_) (fun _ => ?_) | refine gL ?_ | refine gX ?_ | refine gO ?_ | refine gN ?_ | intro _)
  all_goals (conv => whnf)
  all_goals refine ⟨?_, by repeat' (first | exact WkM.refl _ | refine WkM.drop ?_), by repeat' (first | exact Nat.le_refl _ | refine Nat.le_succ_of_le ?_)⟩
  all_goals (rfl)

end Go.Proofs.Ytpncjgiojoehkaa
namespace Go.Proofs.Ytpncjgiojoehkaa
open Go.Ab
attribute [local irreducible] aggOk drwOK
set_option maxRecDepth 100000
set_option maxHeartbeats 4000000
set_option linter.unusedVariables false
set_option linter.unusedSimpArgs false
def sgI (x : Int) : Int := if x < 0 then -1 else if 0 < x then 1 else 0
theorem c62 (F d : Nat) (x : Int) : PureC (CL F (d + 2)) 62 [.int .i64 x, .int .i64 0] 40 (.int .i64 (sgI x)) := by
  by_cases h1 : x < 0
  · have d1 : iLt x 0 = true := by rw [iLt_eq]; exact decide_eq_true h1
    have e : sgI x = -1 := by unfold sgI; rw [if_pos h1]
    rw [e]
    intro m R
    refine call_in (n := 20) Try.func62 rfl rfl rfl rfl rfl rfl rfl ?_
    repeat' ((conv => whnf); first | refine eqS_rfl ?_ | refine eqA_rfl ?_ | refine eqA_of (by assumption) ?_ | refine eqS_of (by rfl) ?_ | refine eqL_rfl ?_ | refine eqJ_rfl ?_ | refine gE ?_ | refine seS_rfl ?_ | refine lsS_of hup ?_ | refine lsS_rfl ?_ | refine brS_tt ?_ | refine brS_ff ?_ | refine brS_not ?_ | refine gI ?_ | refine gT ?_ | refine gF ?_ | refine brS_intro (fun _ => ?_) (fun _ => ?_) | refine gL ?_ | refine gX ?_ | refine gO ?_ | refine gN ?_ | refine call_in (n := 6) Try.func84 rfl rfl rfl rfl rfl rfl rfl ?_ | intro _)
    all_goals (conv => whnf)
    all_goals refine ⟨?_, by repeat' (first | exact WkM.refl _ | refine WkM.drop ?_), by repeat' (first | exact Nat.le_refl _ | refine Nat.le_succ_of_le ?_)⟩
    all_goals (rfl)

  · have d1 : iLt x 0 = false := by rw [iLt_eq]; exact decide_eq_false h1
    by_cases h2 : 0 < x
    · have d2 : iLt 0 x = true := by rw [iLt_eq]; exact decide_eq_true h2
      have e : sgI x = 1 := by unfold sgI; rw [if_neg h1, if_pos h2]
      rw [e]
      intro m R
      refine call_in (n := 20) Try.func62 rfl rfl rfl rfl rfl rfl rfl ?_
      repeat' ((conv => whnf); first | refine eqS_rfl ?_ | refine eqA_rfl ?_ | refine eqA_of (by assumption) ?_ | refine eqS_of (by rfl) ?_ | refine eqL_rfl ?_ | refine eqJ_rfl ?_ | refine gE ?_ | refine seS_rfl ?_ | refine lsS_of hup ?_ | refine lsS_rfl ?_ | refine brS_tt ?_ | refine brS_ff ?_ | refine brS_not ?_ | refine gI ?_ | refine gT ?_ | refine gF ?_ | refine brS_intro (fun _ => ?_) (fun _ => ?_) | refine gL ?_ | refine gX ?_ | refine gO ?_ | refine gN ?_ | refine call_in (n := 6) Try.func84 rfl rfl rfl rfl rfl rfl rfl ?_ | intro _)
      all_goals (conv => whnf)
      all_goals refine ⟨?_, by repeat' (first | exact WkM.refl _ | refine WkM.drop ?_), by repeat' (first | exact Nat.le_refl _ | refine Nat.le_succ_of_le ?_)⟩
      all_goals (rfl)

    · have d2 : iLt 0 x = false := by rw [iLt_eq]; exact decide_eq_false h2
      have e : sgI x = 0 := by unfold sgI; rw [if_neg h1, if_neg h2]
      rw [e]
      intro m R
      refine call_in (n := 20) Try.func62 rfl rfl rfl rfl rfl rfl rfl ?_
      repeat' ((conv => whnf); first | refine eqS_rfl ?_ | refine eqA_rfl ?_ | refine eqA_of (by assumption) ?_ | refine eqS_of (by rfl) ?_ | refine eqL_rfl ?_ | refine eqJ_rfl ?_ | refine gE ?_ | refine seS_rfl ?_ | refine lsS_of hup ?_ | refine lsS_rfl ?_ | refine brS_tt ?_ | refine brS_ff ?_ | refine brS_not ?_ | refine gI ?_ | refine gT ?_ | refine gF ?_ | refine brS_intro (fun _ => ?_) (fun _ => ?_) | refine gL ?_ | refine gX ?_ | refine gO ?_ | refine gN ?_ | refine call_in (n := 6) Try.func84 rfl rfl rfl rfl rfl rfl rfl ?_ | intro _)
      all_goals (conv => whnf)
      all_goals refine ⟨?_, by repeat' (first | exact WkM.refl _ | refine WkM.drop ?_), by repeat' (first | exact Nat.le_refl _ | refine Nat.le_succ_of_le ?_)⟩
      all_goals (rfl)

theorem c83 (F d c2 : Nat) (hF : 200 < F) (a : Option Addr) (n c : Nat) (hn : n ≤ 20) (l : List Int) (bq : Nat) : IterC (CL F (d + 1)) (CL F (d + 2)) (.fn 83 [] [.ptr 901 bq 0]) [(901, .own bq 71 [.sl 900 a n c]), (900, .ro a n 4 1 (pf l))] ((c2 + 40) * n + 100) c2 n (fun k => [.int .i64 (Int.ofNat (n - 1 - k)), .int .i64 (l.getD (n - 1 - k) 0)]) := by
  intro i b I Q hr m hI R
  rw [addL_eq, ← Nat.add_assoc, ← addL_eq _ 100, Nat.add_comm R]
  refine call_in (n := 19) Try.func83 rfl rfl rfl rfl rfl rfl rfl ?_
  repeat' ((conv => whnf); first | refine eqS_rfl ?_ | refine eqA_rfl ?_ | refine eqA_of (by assumption) ?_ | refine eqS_of (by rfl) ?_ | refine eqL_rfl ?_ | refine eqJ_rfl ?_ | refine gE ?_ | refine seS_rfl ?_ | refine lsS_of hup ?_ | refine lsS_rfl ?_ | refine brS_tt ?_ | refine brS_ff ?_ | refine brS_not ?_ | refine gI ?_ | refine gT ?_ | refine gF ?_ | refine brS_intro (fun _ => ?_) (fun _ => ?_) | refine gL ?_ | refine gX ?_ | refine gO ?_ | refine gN ?_ | intro _)
  conv => whnf
  refine loS_i (fun jj f mm R' ni => ∃ (u : Nat) (m1 : Mem), u ≤ n ∧ jj = u + 1 ∧ f = [(0, .yf i b), (1, .ptr 901 bq 0), (3, .int .i64 (sv u))] ∧ mm = [(901, .own bq 71 [.sl 900 a n c]), (900, .ro a n 4 1 (pf l))] ++ m1 ∧ I (n - u) m1 ∧ R' = addL ((c2 + 40) * u + R) 60 ∧ ni = 500) (n + 1) (by omega)
    ⟨[(0, .yf i b), (1, .ptr 901 bq 0), (3, .int .i64 (sv n))], [(901, .own bq 71 [.sl 900 a n c]), (900, .ro a n 4 1 (pf l))] ++ m, addL ((c2 + 40) * n + R) 60, 500, ⟨eqF_rfl _, eqF_rfl _, ⟨congrArg (Value.int .i64) (sv_dec n), rfl⟩, trivial⟩, WS, nM1, n, m, by omega, rfl, rfl, rfl, by rw [Nat.sub_self]; exact hI, rfl, rfl⟩ ?_
  rintro _ _ _ _ _ ⟨u, m1, hu, rfl, rfl, rfl, hI, rfl, rfl⟩
  cases u with
  | zero =>
    have d1 : iLt (-1) 0 = true := by decide
    repeat' ((conv => whnf); first | refine eqS_rfl ?_ | refine eqA_rfl ?_ | refine eqA_of (by assumption) ?_ | refine eqS_of (by rfl) ?_ | refine eqL_rfl ?_ | refine eqJ_rfl ?_ | refine gE ?_ | refine seS_rfl ?_ | refine lsS_of hup ?_ | refine lsS_rfl ?_ | refine brS_tt ?_ | refine brS_ff ?_ | refine brS_not ?_ | refine gI ?_ | refine gT ?_ | refine gF ?_ | refine brS_intro (fun _ => ?_) (fun _ => ?_) | refine gL ?_ | refine gX ?_ | refine gO ?_ | refine gN ?_ | intro _)
    conv => whnf
    exact ⟨nM1, m1, by repeat' (first | exact WkM.comm [(901, _), (900, _)] _ | refine WkM.drop ?_), .inl (by rw [Nat.sub_zero] at hI; exact hI)⟩
  | succ s =>
    have d1 : iLt (Int.ofNat s) 0 = false := iLt_0 s
    have hb : (c2 + 40) * (s + 1) = (c2 + 40) * s + (c2 + 40) := Nat.mul_succ _ _
    have hq : s < n := by omega
    have e5 : n - (s + 1) + 1 = n - s := by omega
    have e6 : n - 1 - (n - (s + 1)) = s := by omega
    repeat' ((conv => whnf); first | refine eqS_rfl ?_ | refine eqA_rfl ?_ | refine eqA_of (by assumption) ?_ | refine eqS_of (by rfl) ?_ | refine eqL_rfl ?_ | refine eqJ_rfl ?_ | refine gE ?_ | refine seS_rfl ?_ | refine lsS_of hup ?_ | refine lsS_rfl ?_ | refine brS_tt ?_ | refine brS_ff ?_ | refine brS_not ?_ | refine gI ?_ | refine gT ?_ | refine gF ?_ | refine brS_intro (fun _ => ?_) (fun _ => ?_) | refine gL ?_ | refine gX ?_ | refine gO ?_ | refine gN ?_ | refine gM ?_ | refine gY ?_ | refine call_round (k := n - (s + 1)) hI (hr (n - (s + 1)) (by omega)) [_, _] (addL ((c2 + 40) * s + R) 75) (by show _ = dens [SV.int .i64 (Int.ofNat (n - 1 - (n - (s + 1)))), SV.int .i64 (l.getD (n - 1 - (n - (s + 1))) 0)]; rw [e6]; rfl) (by exact WkM.refl _) (nM1) ?_ ?_ | intro _)
    all_goals conv => whnf
    all_goals first
      | exact ⟨s + 1, [(0, .yf i b), (1, .ptr 901 bq 0), (3, .int .i64 (sv s))], _, addL ((c2 + 40) * s + R) 60, 500, by omega, ⟨eqF_rfl _, eqF_rfl _, ⟨congrArg (Value.int .i64) (sv_dec s), rfl⟩, trivial⟩, WkM.refl _, nM1, s, _, by omega, rfl, rfl, rfl, by rw [← e5]; assumption, rfl, rfl⟩
      | exact ⟨nM1, _, by repeat' (first | exact WkM.comm [(901, _), (900, _)] _ | refine WkM.drop ?_), .inr (by assumption)⟩
      | trace_state
/-- a value and a power, from the highest coefficient on -/
def hsN (l : List Int) (x y : Int) : Nat → Int × Int
  | 0 => (0, 1)
  | k + 1 => (wr .i64 (Int.add (wr .i64 (Int.mul (hsN l x y k).1 x)) (wr .i64 (Int.mul (l.getD (l.length - 1 - k) 0) (hsN l x y k).2))), wr .i64 (Int.mul (hsN l x y k).2 y))
def sgP (l : List Int) (x y : Int) : Int := sgI (hsN l x y l.length).1
theorem c38 (F d : Nat) (hF : 200 < F) (a : Option Addr) (n c : Nat) (hn : n ≤ 20) (l : List Int) (hl : l.length = n) (x y : Int) : ReadC (CL F (d + 3)) 38 [.sl 900 a n c, .agg [.int .i64 x, .int .i64 y]] [(900, .ro a n 4 1 (pf l))] (2000 + 200) (.int .i64 (sgP l x y)) := by
  subst hl
  intro R
  rw [show 2000 + 200 = (2000) + 200 from rfl, addL_eq, ← Nat.add_assoc, ← addL_eq _ 200, Nat.add_comm R (2000)]
  refine call_in (n := 27) Try.func38 rfl rfl rfl rfl rfl rfl rfl ?_
  repeat' ((conv => whnf); first | refine eqS_rfl ?_ | refine eqA_rfl ?_ | refine eqA_of (by assumption) ?_ | refine eqS_of (by rfl) ?_ | refine eqL_rfl ?_ | refine eqJ_rfl ?_ | refine gE ?_ | refine seS_rfl ?_ | refine lsS_of hup ?_ | refine lsS_rfl ?_ | refine brS_tt ?_ | refine brS_ff ?_ | refine brS_not ?_ | refine gI ?_ | refine gT ?_ | refine gF ?_ | refine brS_intro (fun _ => ?_) (fun _ => ?_) | refine gL ?_ | refine gX ?_ | refine gO ?_ | refine gN ?_ | refine call_in (n := 4) Try.func61 rfl rfl rfl rfl rfl rfl rfl ?_ | intro _)
  rename_i bx b5 b6 bq b1 b2
  refine call_iter (c83 F d 60 hF a l.length c hn l bq) (fun k m => m = [(4, lopF Try.f38 0 b2 .ready none 27 [(3, .ptr 0 bx 0), (5, .ptr 1 b5 0), (6, .ptr 2 b6 0)] b1), (dfN, .dfr [b1]), (1, .own b5 3 [.int .i64 (hsN l x y k).1]), (2, .own b6 3 [.int .i64 (hsN l x y k).2]), (0, .own bx 24 [.int .i64 x, .int .i64 y])]) (fun _ => False) [(4, lopF Try.f38 0 b2 .ready none 27 [(3, .ptr 0 bx 0), (5, .ptr 1 b5 0), (6, .ptr 2 b6 0)] b1), (dfN, .dfr [b1]), (1, .own b5 3 [.int .i64 (hsN l x y 0).1]), (2, .own b6 3 [.int .i64 (hsN l x y 0).2]), (0, .own bx 24 [.int .i64 x, .int .i64 y])] (addL R 50) (by rfl) (by exact (WkM.lop (i := 4) (j := 4) (f' := [(3, .ptr 0 bx 0), (5, .ptr 1 b5 0), (6, .ptr 2 b6 0)]) ⟨eqF_rfl _, eqF_rfl _, eqF_rfl _, trivial⟩ (WkM.refl _)).trans WS) rfl ?_ (nM1) ?_
  · rintro k hk _ rfl me' R
    refine call_yield ?_
    repeat' ((conv => whnf); first | refine eqS_rfl ?_ | refine eqA_rfl ?_ | refine eqA_of (by assumption) ?_ | refine eqS_of (by rfl) ?_ | refine eqL_rfl ?_ | refine eqJ_rfl ?_ | refine gE ?_ | refine seS_rfl ?_ | refine lsS_of hup ?_ | refine lsS_rfl ?_ | refine brS_tt ?_ | refine brS_ff ?_ | refine brS_not ?_ | refine gI ?_ | refine gT ?_ | refine gF ?_ | refine brS_intro (fun _ => ?_) (fun _ => ?_) | refine gL ?_ | refine gX ?_ | refine gO ?_ | refine gN ?_ | intro _)
    conv => whnf
    exact ⟨nM1, [(4, lopF Try.f38 0 b2 .ready none 27 [(3, .ptr 0 bx 0), (5, .ptr 1 b5 0), (6, .ptr 2 b6 0)] b1), (dfN, .dfr [b1]), (1, .own b5 3 [.int .i64 (hsN l x y (k + 1)).1]), (2, .own b6 3 [.int .i64 (hsN l x y (k + 1)).2]), (0, .own bx 24 [.int .i64 x, .int .i64 y])], WS, .inl ⟨rfl, rfl⟩⟩
  · rintro _ _ (rfl | h)
    · skip
      repeat' ((conv => whnf); first | refine eqS_rfl ?_ | refine eqA_rfl ?_ | refine eqA_of (by assumption) ?_ | refine eqS_of (by rfl) ?_ | refine eqL_rfl ?_ | refine eqJ_rfl ?_ | refine gE ?_ | refine seS_rfl ?_ | refine lsS_of hup ?_ | refine lsS_rfl ?_ | refine brS_tt ?_ | refine brS_ff ?_ | refine brS_not ?_ | refine gI ?_ | refine gT ?_ | refine gF ?_ | refine brS_intro (fun _ => ?_) (fun _ => ?_) | refine gL ?_ | refine gX ?_ | refine gO ?_ | refine gN ?_ | refine call_pure (c62 F _ _) ?_ | intro _)
      conv => whnf
      exact ⟨rfl, nM1⟩
    · exact h.elim
end Go.Proofs.Ytpncjgiojoehkaa
namespace Go.Proofs.Ytpncjgiojoehkaa
open Go.Ab
attribute [local irreducible] aggOk drwOK
set_option maxRecDepth 100000
set_option maxHeartbeats 4000000
set_option linter.unusedVariables false
set_option linter.unusedSimpArgs false
/-- a division -/
def dvF (l b : List Int) : List Int × List Int := dvN b (szO (b.getD (b.length - 1) 0)) (sgO (b.getD (b.length - 1) 0)) (l.length - b.length + 1) ([], l)
theorem c64 (F d i1 i2 : Nat) (a : Option Addr) (n c : Nat) (l : List Int) (hl : l.length = n) (a2 : Option Addr) (m c2 : Nat) (b : List Int) (hb : b.length = m) (hm : 0 < m) (hmn : m ≤ n) (hn : n ≤ 4) (hF : 200 < F) (hz : mk (dvF l b).1.reverse (n - m + 1) ≠ 0) (R : Nat) :
    callS (CL F (d + 3)) (.fn 64 [] []) [.sl 1000 a n c, .sl 1001 a2 m c2] [(1000, .ro a n 4 1 (pf l)), (1001, .ro a2 m 4 1 (pf b))] (addL R (28000 + 400)) 0 fun w m' R' _ => (∃ w0 mf, QD i1 i2 (n - m + 1) (leL (dvF l b).1.reverse) (tl (dvF l b).2 n) (leL ((dvF l b).2.take (tl (dvF l b).2 n))) w0 mf ∧ den w = den w0 ∧ WkM m' mf) ∧ R ≤ R' := by
  have e0 : wr .i64 (Int.sub (Int.ofNat n) (Int.ofNat m)) = Int.ofNat (n - m) := (sm (n := (n : Int) - (m : Int)) (by omega)).trans (by show (n : Int) - (m : Int) = ((n - m : Nat) : Int); omega)
  obtain ⟨sz, hsz⟩ : ∃ x, x = szO (b.getD (m - 1) 0) := ⟨_, rfl⟩
  obtain ⟨sg, hsg⟩ : ∃ x, x = sgO (b.getD (m - 1) 0) := ⟨_, rfl⟩
  obtain ⟨FIN, hFIN⟩ : ∃ x, x = dvN b sz sg (n - m + 1) ([], l) := ⟨_, rfl⟩
  have hdv : dvF l b = FIN := by rw [hFIN, hsz, hsg, ← hl, ← hb]; rfl
  rw [hdv] at hz ⊢
  have k66 := c66 F (d + 1) a2 m c2 b hm (by omega)
  rw [show 28000 + 400 = (28000) + 400 from rfl, addL_eq, ← Nat.add_assoc, ← addL_eq _ 400, Nat.add_comm R (28000)]
  refine call_in (n := 85) Try.func64 rfl rfl rfl rfl rfl rfl rfl ?_
  have hcase : (iLt (b.getD (m - 1) 0) 0 = true ∧ wr .i64 (Int.sub 0 (b.getD (m - 1) 0)) = sz ∧ -1 = sg) ∨ (iLt (b.getD (m - 1) 0) 0 = false ∧ b.getD (m - 1) 0 = sz ∧ 1 = sg) := by
    rw [hsz, hsg, iLt_eq]
    unfold szO sgO
    by_cases hlast : b.getD (m - 1) 0 < 0
    · exact .inl ⟨decide_eq_true hlast, by rw [if_pos hlast], by rw [if_pos hlast]⟩
    · exact .inr ⟨decide_eq_false hlast, by rw [if_neg hlast], by rw [if_neg hlast]⟩
  rcases hcase with ⟨d0, es, eg⟩ | ⟨d0, es, eg⟩
  all_goals
    repeat' ((conv => whnf); first | refine eqS_rfl ?_ | refine eqA_rfl ?_ | refine eqA_of (by assumption) ?_ | refine eqS_of (by rfl) ?_ | refine eqL_rfl ?_ | refine eqJ_rfl ?_ | refine gE ?_ | refine seS_rfl ?_ | refine lsS_of hup ?_ | refine lsS_rfl ?_ | refine brS_tt ?_ | refine brS_ff ?_ | refine brS_not ?_ | refine gI ?_ | refine gT ?_ | refine gF ?_ | refine brS_intro (fun _ => ?_) (fun _ => ?_) | refine gL ?_ | refine gX ?_ | refine gO ?_ | refine gN ?_ | refine call_readL k66 (addL (27500 + R) 100) (by rfl) (by exact SeesM.cons 1000 (sees_ro (i := 1001) (by rfl)) (SeesM.nil _) (fun _ _ _ _ _ _ x hx => by cases hx)) (nM1) ?_ | intro _)
    conv => whnf
    refine loS_i (fun jj f mm R' ni => ∃ (u : Nat) (st : List Int × List Int), u ≤ n - m + 1 ∧ jj = u + 1 ∧ dvN b sz sg u st = FIN ∧ ((u = n - m + 1 ∧ st = ([], l) ∧ f = [(1, .sl 1001 a2 m c2), (4, .val (.slice none 0 0)), (5, .sl 1000 a n c), (6, .int .i64 sz), (7, .int .i64 sg), (8, .int .i64 (sv (n - m + 1)))] ∧ mm = [(1000, .ro a n 4 1 (pf l)), (1001, .ro a2 m 4 1 (pf b))]) ∨ (0 < st.1.length ∧ st.1.length + u = n - m + 1 ∧ st.2.length = n ∧ (∀ z, z < n → inI (st.2.getD z 0)) ∧ ∃ a4 a5, f = [(1, .sl 1001 a2 m c2), (4, .sl 710 a4 st.1.length st.1.length), (5, .sl 720 a5 n n), (6, .int .i64 sz), (7, .int .i64 sg), (8, .int .i64 (sv u))] ∧ mm = [(710, .gr a4 st.1.length 3 1 (pf st.1)), (720, .gr a5 n 3 1 (pf st.2)), (1000, .ro a n 4 1 (pf l)), (1001, .ro a2 m 4 1 (pf b))])) ∧ R' = addL (2000 * u + (18000 + R)) 300 ∧ ni = 300) (n - m + 1 + 1) (by omega)
      ⟨[(1, .sl 1001 a2 m c2), (4, .val (.slice none 0 0)), (5, .sl 1000 a n c), (6, .int .i64 sz), (7, .int .i64 sg), (8, .int .i64 (sv (n - m + 1)))], [(1000, .ro a n 4 1 (pf l)), (1001, .ro a2 m 4 1 (pf b))], addL (2000 * (n - m + 1) + (18000 + R)) 300, 300, ⟨eqF_rfl _, eqF_rfl _, eqF_rfl _, ⟨congrArg (Value.int .i64) es, rfl⟩, ⟨congrArg (Value.int .i64) eg, rfl⟩, ⟨congrArg (Value.int .i64) e0, rfl⟩, trivial⟩, WS, nM1, n - m + 1, ([], l), by omega, rfl, hFIN.symm, .inl ⟨rfl, rfl, rfl, rfl⟩, rfl, rfl⟩ ?_
    rintro _ _ _ _ _ ⟨u, st, hu, rfl, hfin, hst, rfl, rfl⟩
    cases u with
    | zero =>
      rcases hst with ⟨h, _⟩ | ⟨hpos, hlen, hr, hin, a4, a5, rfl, rfl⟩
      · omega
      obtain ⟨q, r⟩ := st
      have hlen : q.length + 0 = n - m + 1 := hlen
      have hr : r.length = n := hr
      have hpos : 0 < q.length := hpos
      have hQ : (q, r) = FIN := hfin
      have hqi : ∀ z, z < q.length → inI (q.reverse.getD z 0) := fun z hz => by
        have h1 := dvN_in (b := b) (sz := sz) (sg := sg) (n - m + 1) ([], l) (fun x hx => by cases hx)
        rw [← hFIN, ← hQ] at h1
        exact h1 _ (List.mem_reverse.1 (getD_memI (by rw [List.length_reverse]; exact hz)))
      have hzq : 0 < q.length → mk q.reverse q.length ≠ 0 := fun _ => by
        rw [← hQ] at hz
        rw [show n - m + 1 = q.length by omega] at hz; exact hz
      have d1 : iLt (-1) 0 = true := by decide
      have el := len1 hpos (by omega)
      repeat' ((conv => whnf); first | refine eqS_rfl ?_ | refine eqA_rfl ?_ | refine eqA_of (by assumption) ?_ | refine eqS_of (by rfl) ?_ | refine eqL_rfl ?_ | refine eqJ_rfl ?_ | refine gE ?_ | refine seS_rfl ?_ | refine lsS_of hup ?_ | refine lsS_rfl ?_ | refine brS_tt ?_ | refine brS_ff ?_ | refine brS_not ?_ | refine gI ?_ | refine gT ?_ | refine gF ?_ | refine brS_intro (fun _ => ?_) (fun _ => ?_) | refine gL ?_ | refine gX ?_ | refine gO ?_ | refine gN ?_ | refine gM ?_ | refine gY ?_ | refine call_in (n := 28) Try.func85 rfl rfl rfl rfl rfl rfl rfl ?_ | intro _)
      conv => whnf
      refine loS_i (fun jj f mm R' ni => ∃ t : Nat, t ≤ q.length - 1 ∧ jj = q.length - t + 1 ∧ f = [(0, .sl 710 a4 q.length q.length), (2, .int .i64 (Int.ofNat t)), (3, .int .i64 (Int.ofNat (q.length - 1 - t)))] ∧ mm = [(710, .gr a4 q.length 3 1 (fun z => [.int .i64 (rvI q.length t (fun z => q.getD z 0) z)])), (720, .gr a5 n 3 1 (pf r)), (1000, .ro a n 4 1 (pf l)), (1001, .ro a2 m 4 1 (pf b))] ∧ R' = addL (30 * (q.length - t) + (17000 + R)) 30 ∧ ni = 500) (q.length + 1) (by omega)
        ⟨[(0, .sl 710 a4 q.length q.length), (2, .int .i64 (Int.ofNat 0)), (3, .int .i64 (Int.ofNat (q.length - 1 - 0)))], [(710, .gr a4 q.length 3 1 (fun z => [.int .i64 (rvI q.length 0 (fun z => q.getD z 0) z)])), (720, .gr a5 n 3 1 (pf r)), (1000, .ro a n 4 1 (pf l)), (1001, .ro a2 m 4 1 (pf b))], addL (30 * (q.length - 0) + (17000 + R)) 30, 500, ⟨eqF_rfl _, eqF_rfl _, ⟨congrArg (Value.int .i64) el, rfl⟩, trivial⟩, ?_, nM1, 0, by omega, by omega, rfl, rfl, rfl, rfl⟩ ?_
      · have hv0 : ∀ z, z < q.length → pf q z = [SV.int .i64 (rvI q.length 0 (fun z => q.getD z 0) z)] := fun z hz => by unfold rvI; rw [if_neg (by omega)]
        exact WG
      rintro _ _ _ _ _ ⟨t, ht, rfl, rfl, rfl, rfl, rfl⟩
      by_cases htj : t < q.length - 1 - t
      · have h1 := iLt_t htj
        have hsw := rvI_swap (L := q.length) (f := fun z => q.getD z 0) htj
        have el2 := len1 (n := q.length - 1 - t) (by omega) (by omega)
        have q1 : t < q.length := by omega
        have q2 : q.length - 1 - t < q.length := by omega
        have e5 : q.length - 1 - t - 1 = q.length - 1 - (t + 1) := by omega
        have hup : updG t [.int .i64 (rvI q.length t (fun z => q.getD z 0) (q.length - 1 - t))] (fun z => [.int .i64 (rvI q.length t (fun z => q.getD z 0) z)]) (q.length - 1 - t) = [.int .i64 (rvI q.length t (fun z => q.getD z 0) (q.length - 1 - t))] := updG_other (by omega)
        repeat' ((conv => whnf); first | refine eqS_rfl ?_ | refine eqA_rfl ?_ | refine eqA_of (by assumption) ?_ | refine eqS_of (by rfl) ?_ | refine eqL_rfl ?_ | refine eqJ_rfl ?_ | refine gE ?_ | refine seS_rfl ?_ | refine lsS_of hup ?_ | refine lsS_rfl ?_ | refine brS_tt ?_ | refine brS_ff ?_ | refine brS_not ?_ | refine gI ?_ | refine gT ?_ | refine gF ?_ | refine brS_intro (fun _ => ?_) (fun _ => ?_) | refine gL ?_ | refine gX ?_ | refine gO ?_ | refine gN ?_ | refine gM ?_ | refine gY ?_ | intro _)
        conv => whnf
        exact ⟨q.length - (t + 1) + 1, [(0, .sl 710 a4 q.length q.length), (2, .int .i64 (Int.ofNat (t + 1))), (3, .int .i64 (Int.ofNat (q.length - 1 - (t + 1))))], [(710, .gr a4 q.length 3 1 (fun z => [.int .i64 (rvI q.length (t + 1) (fun z => q.getD z 0) z)])), (720, .gr a5 n 3 1 (pf r)), (1000, .ro a n 4 1 (pf l)), (1001, .ro a2 m 4 1 (pf b))], addL (30 * (q.length - (t + 1)) + (17000 + R)) 30, 500, by omega, ⟨eqF_rfl _, ⟨congrArg (Value.int .i64) (smn (i := t + 1) (by omega)), rfl⟩, ⟨congrArg (Value.int .i64) (el2.trans (congrArg Int.ofNat e5)), rfl⟩, trivial⟩, WG, nM1, t + 1, by omega, rfl, rfl, rfl, rfl, rfl⟩
      · have h1 := iLt_f (show q.length - 1 - t ≤ t by omega)
        have hrd := rvI_done (q := q) (t := t) (by omega)
        repeat' ((conv => whnf); first | refine eqS_rfl ?_ | refine eqA_rfl ?_ | refine eqA_of (by assumption) ?_ | refine eqS_of (by rfl) ?_ | refine eqL_rfl ?_ | refine eqJ_rfl ?_ | refine gE ?_ | refine seS_rfl ?_ | refine lsS_of hup ?_ | refine lsS_rfl ?_ | refine brS_tt ?_ | refine brS_ff ?_ | refine brS_not ?_ | refine gI ?_ | refine gT ?_ | refine gF ?_ | refine brS_intro (fun _ => ?_) (fun _ => ?_) | refine gL ?_ | refine gX ?_ | refine gO ?_ | refine gN ?_ | refine gM ?_ | refine gY ?_ | intro _)
        conv => whnf
        refine loS_i (fun jj f mm R' ni => ∃ (t : Nat) (x : SV), t ≤ n ∧ jj = t + 1 ∧ tl r n = tl r t ∧ x = .sl 720 a5 t n ∧ f = [(4, .sl 710 a4 q.length q.length), (5, x)] ∧ mm = [(710, .gr a4 q.length 3 1 (pf q.reverse)), (720, .gr a5 n 3 1 (pf r)), (1000, .ro a n 4 1 (pf l)), (1001, .ro a2 m 4 1 (pf b))] ∧ R' = addL (50 * t + (16500 + R)) 30 ∧ ni = 600) (n + 1) (by omega)
          ⟨[(4, .sl 710 a4 q.length q.length), (5, .sl 720 a5 n n)], [(710, .gr a4 q.length 3 1 (pf q.reverse)), (720, .gr a5 n 3 1 (pf r)), (1000, .ro a n 4 1 (pf l)), (1001, .ro a2 m 4 1 (pf b))], addL (50 * n + (16500 + R)) 30, 600, ⟨eqF_rfl _, eqF_rfl _, trivial⟩, WG, nM1, n, _, by omega, rfl, rfl, rfl, rfl, rfl, rfl, rfl⟩ ?_
        clear h1
        rintro _ _ _ _ _ ⟨t, x, ht, rfl, htl, rfl, rfl, rfl, rfl, rfl⟩
        have hlq := fun (a : Option Addr) R => c71 F d 800 a q.length q.length q.reverse List.length_reverse (by omega) (by omega) hqi hzq R
        have hlr : ∀ t, t ≤ n → (t = 0 ∨ r.getD (t - 1) 0 ≠ 0) → ∀ (a : Option Addr) (c : Nat) (R : Nat), callS (CL F (d + 2)) (.fn 71 [] []) [.sl 1000 a t c] [(1000, .ro a t 4 1 (pf (r.take t)))] (addL R (8000 + 100)) 0 fun w m' R' _ => (∃ w0 mf, QP 810 t (leL (r.take t)) w0 mf ∧ den w = den w0 ∧ WkM m' mf) ∧ R ≤ R' := fun t ht h a c R =>
          c71 F d 810 a t c (r.take t) (by rw [List.length_take]; omega) (by omega) (by omega) (fun j hj => by rw [take_get hj]; exact hin j (by omega)) (fun h0 => mk_ne h0 (by rw [take_get (by omega)]; exact hin _ (by omega)) (by rw [take_get (by omega)]; exact h.resolve_left (by omega))) R
        have hfq : FIN.1.reverse = q.reverse := by rw [← hQ]
        have hfr : FIN.2 = r := by rw [← hQ]
        have hnq : n - m + 1 = q.length := by omega
        rw [hfq, hfr, hnq, htl]
        cases t with
        | zero =>
          have d2 : iLt 0 (Int.ofNat 0) = false := iLt_0 0
          repeat' ((conv => whnf); first | refine eqS_rfl ?_ | refine eqA_rfl ?_ | refine eqA_of (by assumption) ?_ | refine eqS_of (by rfl) ?_ | refine eqL_rfl ?_ | refine eqJ_rfl ?_ | refine gE ?_ | refine seS_rfl ?_ | refine lsS_of hup ?_ | refine lsS_rfl ?_ | refine brS_tt ?_ | refine brS_ff ?_ | refine brS_not ?_ | refine gI ?_ | refine gT ?_ | refine gF ?_ | refine brS_intro (fun _ => ?_) (fun _ => ?_) | refine gL ?_ | refine gX ?_ | refine gO ?_ | refine gN ?_ | refine gM ?_ | refine gY ?_ | refine call67 800 (hlq _) (addL (8200 + R) 60) (by rfl) (by exact SeesM.cons 1000 (sees_gr (i := 710) (by rfl)) (SeesM.nil _) (fun _ _ _ _ _ _ x hx => by cases hx)) (nM1) ?_ | refine call67 810 (hlr 0 (by omega) (.inl rfl) a5 n) (addL R 60) (by rfl) (by exact SeesM.cons 1000 (SeesE.ro_congr (g := pf (r.take 0)) (sees_pre (i := 720) (t := 0) (by rfl) (by omega)) (fun j hj => by first | rfl | (show [_] = [_]; rw [take_get hj]))) (SeesM.nil _) (fun _ _ _ _ _ _ x hx => by cases hx)) (nM1) ?_ | intro _)
          conv => whnf
          exact ⟨⟨_, _, ⟨_, _, rfl, rfl⟩, rfl, WS⟩, nM1⟩
        | succ t =>
          have d2 : iLt 0 (Int.ofNat (t + 1)) = true := iLt_t (a := 0) (b := t + 1) (by omega)
          have k66r := c66 F (d + 1) a5 (t + 1) n r (by omega) (by omega)
          by_cases hzt : r.getD t 0 = 0
          · have e2 : tl r (t + 1) = tl r t := by show (if _ then _ else _) = _; rw [if_pos hzt]
            have d3 : iEq (r.getD (t + 1 - 1) 0) 0 = true := by rw [iEq_eq]; exact decide_eq_true hzt
            have el3 : wr .i64 (Int.sub (Int.ofNat (t + 1)) 1) = Int.ofNat t := (len1 (by omega) (by omega))
            have hq4 : t < n + 1 := by omega
            repeat' ((conv => whnf); first | refine eqS_rfl ?_ | refine eqA_rfl ?_ | refine eqA_of (by assumption) ?_ | refine eqS_of (by rfl) ?_ | refine eqL_rfl ?_ | refine eqJ_rfl ?_ | refine gE ?_ | refine seS_rfl ?_ | refine lsS_of hup ?_ | refine lsS_rfl ?_ | refine brS_tt ?_ | refine brS_ff ?_ | refine brS_not ?_ | refine gI ?_ | refine gT ?_ | refine gF ?_ | refine brS_intro (fun _ => ?_) (fun _ => ?_) | refine gL ?_ | refine gX ?_ | refine gO ?_ | refine gN ?_ | refine gM ?_ | refine gY ?_ | refine call_readL k66r (addL (50 * (t + 1) + (16500 + R)) 0) (by rfl) (by exact SeesM.cons 1000 (SeesE.ro_congr (g := pf r) (sees_pre (i := 720) (t := (t + 1)) (by rfl) (by omega)) (fun j hj => by first | rfl | (show [_] = [_]; rw [take_get hj]))) (SeesM.nil _) (fun _ _ _ _ _ _ x hx => by cases hx)) (nM1) ?_ | refine ixS_of el3 hq4 ?_ | refine ltS_intro oM1 ?_ | intro _)
            conv => whnf
            exact ⟨t + 1, [(4, .sl 710 a4 q.length q.length), (5, .sl 720 a5 t n)], [(710, .gr a4 q.length 3 1 (pf q.reverse)), (720, .gr a5 n 3 1 (pf r)), (1000, .ro a n 4 1 (pf l)), (1001, .ro a2 m 4 1 (pf b))], addL (50 * t + (16500 + R)) 30, 600, by omega, ⟨eqF_rfl _, ⟨rfl, rfl⟩, trivial⟩, WG, nM1, t, _, by omega, rfl, e2, rfl, rfl, rfl, rfl, rfl⟩
          · have e2 : tl r (t + 1) = t + 1 := by show (if _ then _ else _) = _; rw [if_neg hzt]
            rw [e2]
            have d3 : iEq (r.getD (t + 1 - 1) 0) 0 = false := by rw [iEq_eq]; exact decide_eq_false hzt
            repeat' ((conv => whnf); first | refine eqS_rfl ?_ | refine eqA_rfl ?_ | refine eqA_of (by assumption) ?_ | refine eqS_of (by rfl) ?_ | refine eqL_rfl ?_ | refine eqJ_rfl ?_ | refine gE ?_ | refine seS_rfl ?_ | refine lsS_of hup ?_ | refine lsS_rfl ?_ | refine brS_tt ?_ | refine brS_ff ?_ | refine brS_not ?_ | refine gI ?_ | refine gT ?_ | refine gF ?_ | refine brS_intro (fun _ => ?_) (fun _ => ?_) | refine gL ?_ | refine gX ?_ | refine gO ?_ | refine gN ?_ | refine gM ?_ | refine gY ?_ | refine call_readL k66r (addL (50 * (t + 1) + (16500 + R)) 0) (by rfl) (by exact SeesM.cons 1000 (SeesE.ro_congr (g := pf r) (sees_pre (i := 720) (t := (t + 1)) (by rfl) (by omega)) (fun j hj => by first | rfl | (show [_] = [_]; rw [take_get hj]))) (SeesM.nil _) (fun _ _ _ _ _ _ x hx => by cases hx)) (nM1) ?_ | refine call67 800 (hlq _) (addL (8200 + R) 60) (by rfl) (by exact SeesM.cons 1000 (sees_gr (i := 710) (by rfl)) (SeesM.nil _) (fun _ _ _ _ _ _ x hx => by cases hx)) (nM1) ?_ | refine call67 810 (hlr (t + 1) (by omega) (.inr hzt) a5 n) (addL R 60) (by rfl) (by exact SeesM.cons 1000 (SeesE.ro_congr (g := pf (r.take (t + 1))) (sees_pre (i := 720) (t := (t + 1)) (by rfl) (by omega)) (fun j hj => by first | rfl | (show [_] = [_]; rw [take_get hj]))) (SeesM.nil _) (fun _ _ _ _ _ _ x hx => by cases hx)) (nM1) ?_ | intro _)
            conv => whnf
            exact ⟨⟨_, _, ⟨_, _, rfl, rfl⟩, rfl, WS⟩, nM1⟩
    | succ s =>
      rcases hst with ⟨hu2, rfl, rfl, rfl⟩ | ⟨hpos, hlen, hr, hin, a4, a5, rfl, rfl⟩
      · have hs2 : n - m = s := by omega
        rw [show n - m + 1 = s + 1 by omega]
        obtain ⟨fac, hfac⟩ : ∃ x, x = wr .i64 (Int.mul sg (l.getD (s + m - 1) 0)) := ⟨_, rfl⟩
        have ix3 := fun k (hk : k < m) => (smn (i := s + k) (by omega) : wr .i64 (Int.add (Int.ofNat s) (Int.ofNat k)) = Int.ofNat (s + k))
        have ix1 : wr .i64 (Int.sub (wr .i64 (Int.add (Int.ofNat s) (Int.ofNat m))) 1) = Int.ofNat (s + m - 1) := by
          rw [show Int.add (Int.ofNat s) (Int.ofNat m) = Int.ofNat (s + m) from rfl, smn (i := s + m) (by omega)]
          exact (sm (n := ((s + m : Nat) : Int) - 1) (by omega)).trans (by show ((s + m : Nat) : Int) - 1 = ((s + m - 1 : Nat) : Int); omega)
        have hq1 : s + m - 1 < n := by omega
        have d1 : iLt (Int.ofNat s) 0 = false := iLt_0 s
        have hG : ∀ j, j < ([] : List Int).length + 1 → grow ([] : List Int).length 1 (pf (tmL ([] : List Int) sz)) [.int .i64 (wr .i64 (Int.mul sg (l.getD (s + m - 1) 0)))] j = pf (tmL ([] : List Int) sz ++ [fac]) j := by rw [← hfac]; exact growP (tmL_len _ _)
        have hK0 : ∀ z, z < n → pf (tmL l sz) z = [SV.int .i64 (gk b sz fac s 0 l z)] := fun z _ => by rw [gk_0]
        obtain ⟨st2, hst2⟩ : ∃ x, x = (tmL ([] : List Int) sz ++ [fac], (List.range n).map (gk b sz fac s m l)) := ⟨_, rfl⟩
        have hst3 : dvS b sz sg s (([] : List Int), l) = st2 := by rw [hst2, hfac]; unfold dvS; rw [show (([] : List Int), l).2.length = n from hl, hb]
        have hfin2 : dvN b sz sg s st2 = FIN := by rw [← hst3]; exact hfin
        have hL : st2.1.length = ([] : List Int).length + 1 := by rw [hst2]; simp [tmL_len]
        have hL2 : st2.2.length = n := by rw [hst2]; simp
        have hin2 : ∀ z, z < n → inI (st2.2.getD z 0) := fun z hz => by rw [hst2]; show inI (((List.range n).map (gk b sz fac s m l)).getD z 0); rw [getD_tab hz]; exact gk_in (by omega)
        have hK1 : ∀ z, z < n → [SV.int .i64 (gk b sz fac s m l z)] = pf st2.2 z := fun z hz => by rw [hst2]; show _ = [SV.int .i64 (((List.range n).map (gk b sz fac s m l)).getD z 0)]; rw [getD_tab hz]
        have hK2 : ∀ z, z < ([] : List Int).length + 1 → pf (tmL ([] : List Int) sz ++ [fac]) z = pf st2.1 z := fun z hz => by rw [hst2]
        repeat' ((conv => whnf); first | refine eqS_rfl ?_ | refine eqA_rfl ?_ | refine eqA_of (by assumption) ?_ | refine eqS_of (by rfl) ?_ | refine eqL_rfl ?_ | refine eqJ_rfl ?_ | refine gE ?_ | refine seS_rfl ?_ | refine lsS_of hup ?_ | refine lsS_rfl ?_ | refine brS_tt ?_ | refine brS_ff ?_ | refine brS_not ?_ | refine gI ?_ | refine gT ?_ | refine gF ?_ | refine brS_intro (fun _ => ?_) (fun _ => ?_) | refine gL ?_ | refine gX ?_ | refine gO ?_ | refine gN ?_ | refine gM ?_ | refine gY ?_ | refine ixS_of ix1 hq1 ?_ | refine call67 730 (fun R => c67 F (d + 1) 730 none 0 0 [] rfl (by omega) (by omega) sz R) (addL (2000 * s + (18000 + R) + 1500) 60) (by rfl) (by exact SeesM.cons 1000 (sees_nil _ _ _ _) (SeesM.nil _) (fun _ _ _ _ _ _ x hx => by cases hx)) (nM1) ?_ | refine call67 740 (fun R => c67 F (d + 1) 740 a n c l hl (by omega) (by omega) sz R) (addL (2000 * s + (18000 + R) + 900) 60) (by rfl) (by exact SeesM.cons 1000 (sees_ro (i := 1000) (by rfl)) (SeesM.nil _) (fun _ _ _ _ _ _ x hx => by cases hx)) (nM1) ?_ | refine ltS_intro (by simp only [List.length_nil]; omega) ?_ | refine ltS_intro (show ([] : List Int).length * 1 + 1 < 32769 by simp only [List.length_nil] at *; omega) ?_ | intro _)
        rename_i a9 a5
        conv => whnf
        refine loS_i (fun jj f mm R' ni => ∃ k : Nat, k ≤ m ∧ jj = m - k + 1 ∧ f = [(1, .sl 1001 a2 m c2), (4, .sl 730 a9 (([] : List Int).length + 1) (([] : List Int).length + 1)), (5, .sl 740 a5 n n), (6, .int .i64 sz), (7, .int .i64 sg), (8, .int .i64 (Int.ofNat s)), (9, .int .i64 fac), (47, .sl 1001 a2 m c2), (48, .int .i64 (Int.ofNat m)), (49, .int .i64 (Int.ofNat k))] ∧ mm = [(730, .gr a9 (([] : List Int).length + 1) 3 1 (pf (tmL ([] : List Int) sz ++ [fac]))), (740, .gr a5 n 3 1 (fun z => [.int .i64 (gk b sz fac s k l z)])), (1000, .ro a n 4 1 (pf l)), (1001, .ro a2 m 4 1 (pf b))] ∧ R' = addL (40 * (m - k) + (2000 * s + (18000 + R) + 400)) 30 ∧ ni = 400) (m + 1) (by omega)
          ⟨[(1, .sl 1001 a2 m c2), (4, .sl 730 a9 (([] : List Int).length + 1) (([] : List Int).length + 1)), (5, .sl 740 a5 n n), (6, .int .i64 sz), (7, .int .i64 sg), (8, .int .i64 (Int.ofNat s)), (9, .int .i64 fac), (47, .sl 1001 a2 m c2), (48, .int .i64 (Int.ofNat m)), (49, .int .i64 (Int.ofNat 0))], [(730, .gr a9 (([] : List Int).length + 1) 3 1 (pf (tmL ([] : List Int) sz ++ [fac]))), (740, .gr a5 n 3 1 (fun z => [.int .i64 (gk b sz fac s 0 l z)])), (1000, .ro a n 4 1 (pf l)), (1001, .ro a2 m 4 1 (pf b))], addL (40 * (m - 0) + (2000 * s + (18000 + R) + 400)) 30, 400, ⟨eqF_rfl _, ⟨rfl, rfl⟩, eqF_rfl _, eqF_rfl _, eqF_rfl _, ⟨rfl, rfl⟩, ⟨congrArg (Value.int .i64) hfac.symm, rfl⟩, eqF_rfl _, eqF_rfl _, eqF_rfl _, trivial⟩, WG, nM1, 0, by omega, by omega, rfl, rfl, rfl, rfl⟩ ?_
        rintro _ _ _ _ _ ⟨k, hk0, rfl, rfl, rfl, rfl, rfl⟩
        by_cases hk : k < m
        · have d3 := iLt_t hk
          have ix4 := ix3 k hk
          have hq3 : s + k < n := by omega
          have hU : ∀ z, z < n → updG (s + k) [.int .i64 (wr .i64 (Int.sub (gk b sz fac s k l (s + k)) (wr .i64 (Int.mul fac (b.getD k 0)))))] (fun z => [.int .i64 (gk b sz fac s k l z)]) z = [.int .i64 (gk b sz fac s (k + 1) l z)] := fun z _ => gk_upd z
          repeat' ((conv => whnf); first | refine eqS_rfl ?_ | refine eqA_rfl ?_ | refine eqA_of (by assumption) ?_ | refine eqS_of (by rfl) ?_ | refine eqL_rfl ?_ | refine eqJ_rfl ?_ | refine gE ?_ | refine seS_rfl ?_ | refine lsS_of hup ?_ | refine lsS_rfl ?_ | refine brS_tt ?_ | refine brS_ff ?_ | refine brS_not ?_ | refine gI ?_ | refine gT ?_ | refine gF ?_ | refine brS_intro (fun _ => ?_) (fun _ => ?_) | refine gL ?_ | refine gX ?_ | refine gO ?_ | refine gN ?_ | refine gM ?_ | refine gY ?_ | refine ixS_of ix4 hq3 ?_ | intro _)
          conv => whnf
          exact ⟨m - (k + 1) + 1, [(1, .sl 1001 a2 m c2), (4, .sl 730 a9 (([] : List Int).length + 1) (([] : List Int).length + 1)), (5, .sl 740 a5 n n), (6, .int .i64 sz), (7, .int .i64 sg), (8, .int .i64 (Int.ofNat s)), (9, .int .i64 fac), (47, .sl 1001 a2 m c2), (48, .int .i64 (Int.ofNat m)), (49, .int .i64 (Int.ofNat (k + 1)))], [(730, .gr a9 (([] : List Int).length + 1) 3 1 (pf (tmL ([] : List Int) sz ++ [fac]))), (740, .gr a5 n 3 1 (fun z => [.int .i64 (gk b sz fac s (k + 1) l z)])), (1000, .ro a n 4 1 (pf l)), (1001, .ro a2 m 4 1 (pf b))], addL (40 * (m - (k + 1)) + (2000 * s + (18000 + R) + 400)) 30, 400, by omega, ⟨eqF_rfl _, eqF_rfl _, eqF_rfl _, eqF_rfl _, eqF_rfl _, eqF_rfl _, eqF_rfl _, eqF_rfl _, eqF_rfl _, ⟨congrArg (Value.int .i64) (smn (i := k + 1) (by omega)), rfl⟩, trivial⟩, WG, nM1, k + 1, by omega, rfl, rfl, rfl, rfl, rfl⟩
        · have e2 : m = k := by omega
          subst e2
          have d3 := iLt_f (Nat.le_refl m)
          repeat' ((conv => whnf); first | refine eqS_rfl ?_ | refine eqA_rfl ?_ | refine eqA_of (by assumption) ?_ | refine eqS_of (by rfl) ?_ | refine eqL_rfl ?_ | refine eqJ_rfl ?_ | refine gE ?_ | refine seS_rfl ?_ | refine lsS_of hup ?_ | refine lsS_rfl ?_ | refine brS_tt ?_ | refine brS_ff ?_ | refine brS_not ?_ | refine gI ?_ | refine gT ?_ | refine gF ?_ | refine brS_intro (fun _ => ?_) (fun _ => ?_) | refine gL ?_ | refine gX ?_ | refine gO ?_ | refine gN ?_ | refine gM ?_ | refine gY ?_ | intro _)
          conv => whnf
          exact ⟨s + 1, [(1, .sl 1001 a2 m c2), (4, .sl 710 a9 (([] : List Int).length + 1) (([] : List Int).length + 1)), (5, .sl 720 a5 n n), (6, .int .i64 sz), (7, .int .i64 sg), (8, .int .i64 (sv s))], [(710, .gr a9 (([] : List Int).length + 1) 3 1 (pf st2.1)), (720, .gr a5 n 3 1 (pf st2.2)), (1000, .ro a n 4 1 (pf l)), (1001, .ro a2 m 4 1 (pf b))], addL (2000 * s + (18000 + R)) 300, 300, by omega, ⟨eqF_rfl _, ⟨rfl, rfl⟩, ⟨rfl, rfl⟩, eqF_rfl _, eqF_rfl _, ⟨congrArg (Value.int .i64) (sv_dec s), rfl⟩, trivial⟩, WG, nM1, s, st2, by omega, rfl, hfin2, .inr ⟨by omega, by simp only [List.length_nil] at *; omega, hL2, hin2, a9, a5, by rw [hL], by rw [hL]⟩, rfl, rfl⟩
      · obtain ⟨q, r⟩ := st
        have hlen : q.length + (s + 1) = n - m + 1 := hlen
        have hr : r.length = n := hr
        have hpos : 0 < q.length := hpos
        obtain ⟨fac, hfac⟩ : ∃ x, x = wr .i64 (Int.mul sg (r.getD (s + m - 1) 0)) := ⟨_, rfl⟩
        have ix3 := fun k (hk : k < m) => (smn (i := s + k) (by omega) : wr .i64 (Int.add (Int.ofNat s) (Int.ofNat k)) = Int.ofNat (s + k))
        have ix1 : wr .i64 (Int.sub (wr .i64 (Int.add (Int.ofNat s) (Int.ofNat m))) 1) = Int.ofNat (s + m - 1) := by
          rw [show Int.add (Int.ofNat s) (Int.ofNat m) = Int.ofNat (s + m) from rfl, smn (i := s + m) (by omega)]
          exact (sm (n := ((s + m : Nat) : Int) - 1) (by omega)).trans (by show ((s + m : Nat) : Int) - 1 = ((s + m - 1 : Nat) : Int); omega)
        have hq1 : s + m - 1 < n := by omega
        have d1 : iLt (Int.ofNat s) 0 = false := iLt_0 s
        have hG : ∀ j, j < q.length + 1 → grow q.length 1 (pf (tmL q sz)) [.int .i64 (wr .i64 (Int.mul sg (r.getD (s + m - 1) 0)))] j = pf (tmL q sz ++ [fac]) j := by rw [← hfac]; exact growP (tmL_len _ _)
        have hK0 : ∀ z, z < n → pf (tmL r sz) z = [SV.int .i64 (gk b sz fac s 0 r z)] := fun z _ => by rw [gk_0]
        obtain ⟨st2, hst2⟩ : ∃ x, x = (tmL q sz ++ [fac], (List.range n).map (gk b sz fac s m r)) := ⟨_, rfl⟩
        have hst3 : dvS b sz sg s (q, r) = st2 := by rw [hst2, hfac]; unfold dvS; rw [show (q, r).2.length = n from hr, hb]
        have hfin2 : dvN b sz sg s st2 = FIN := by rw [← hst3]; exact hfin
        have hL : st2.1.length = q.length + 1 := by rw [hst2]; simp [tmL_len]
        have hL2 : st2.2.length = n := by rw [hst2]; simp
        have hin2 : ∀ z, z < n → inI (st2.2.getD z 0) := fun z hz => by rw [hst2]; show inI (((List.range n).map (gk b sz fac s m r)).getD z 0); rw [getD_tab hz]; exact gk_in (by rw [show r.length = n from hr]; exact hz)
        have hK1 : ∀ z, z < n → [SV.int .i64 (gk b sz fac s m r z)] = pf st2.2 z := fun z hz => by rw [hst2]; show _ = [SV.int .i64 (((List.range n).map (gk b sz fac s m r)).getD z 0)]; rw [getD_tab hz]
        have hK2 : ∀ z, z < q.length + 1 → pf (tmL q sz ++ [fac]) z = pf st2.1 z := fun z hz => by rw [hst2]
        repeat' ((conv => whnf); first | refine eqS_rfl ?_ | refine eqA_rfl ?_ | refine eqA_of (by assumption) ?_ | refine eqS_of (by rfl) ?_ | refine eqL_rfl ?_ | refine eqJ_rfl ?_ | refine gE ?_ | refine seS_rfl ?_ | refine lsS_of hup ?_ | refine lsS_rfl ?_ | refine brS_tt ?_ | refine brS_ff ?_ | refine brS_not ?_ | refine gI ?_ | refine gT ?_ | refine gF ?_ | refine brS_intro (fun _ => ?_) (fun _ => ?_) | refine gL ?_ | refine gX ?_ | refine gO ?_ | refine gN ?_ | refine gM ?_ | refine gY ?_ | refine ixS_of ix1 hq1 ?_ | refine call67 730 (fun R => c67 F (d + 1) 730 a4 q.length q.length q rfl (by omega) (by omega) sz R) (addL (2000 * s + (18000 + R) + 1500) 60) (by rfl) (by exact SeesM.cons 1000 (sees_gr (i := 710) (by rfl)) (SeesM.nil _) (fun _ _ _ _ _ _ x hx => by cases hx)) (nM1) ?_ | refine call67 740 (fun R => c67 F (d + 1) 740 a5 n n r hr (by omega) (by omega) sz R) (addL (2000 * s + (18000 + R) + 900) 60) (by rfl) (by exact SeesM.cons 1000 (sees_gr (i := 720) (by rfl)) (SeesM.nil _) (fun _ _ _ _ _ _ x hx => by cases hx)) (nM1) ?_ | refine ltS_intro (by simp only [List.length_nil]; omega) ?_ | refine ltS_intro (show q.length * 1 + 1 < 32769 by simp only [List.length_nil] at *; omega) ?_ | intro _)
        rename_i a9 a5
        conv => whnf
        refine loS_i (fun jj f mm R' ni => ∃ k : Nat, k ≤ m ∧ jj = m - k + 1 ∧ f = [(1, .sl 1001 a2 m c2), (4, .sl 730 a9 (q.length + 1) (q.length + 1)), (5, .sl 740 a5 n n), (6, .int .i64 sz), (7, .int .i64 sg), (8, .int .i64 (Int.ofNat s)), (9, .int .i64 fac), (47, .sl 1001 a2 m c2), (48, .int .i64 (Int.ofNat m)), (49, .int .i64 (Int.ofNat k))] ∧ mm = [(730, .gr a9 (q.length + 1) 3 1 (pf (tmL q sz ++ [fac]))), (740, .gr a5 n 3 1 (fun z => [.int .i64 (gk b sz fac s k r z)])), (1000, .ro a n 4 1 (pf l)), (1001, .ro a2 m 4 1 (pf b))] ∧ R' = addL (40 * (m - k) + (2000 * s + (18000 + R) + 400)) 30 ∧ ni = 400) (m + 1) (by omega)
          ⟨[(1, .sl 1001 a2 m c2), (4, .sl 730 a9 (q.length + 1) (q.length + 1)), (5, .sl 740 a5 n n), (6, .int .i64 sz), (7, .int .i64 sg), (8, .int .i64 (Int.ofNat s)), (9, .int .i64 fac), (47, .sl 1001 a2 m c2), (48, .int .i64 (Int.ofNat m)), (49, .int .i64 (Int.ofNat 0))], [(730, .gr a9 (q.length + 1) 3 1 (pf (tmL q sz ++ [fac]))), (740, .gr a5 n 3 1 (fun z => [.int .i64 (gk b sz fac s 0 r z)])), (1000, .ro a n 4 1 (pf l)), (1001, .ro a2 m 4 1 (pf b))], addL (40 * (m - 0) + (2000 * s + (18000 + R) + 400)) 30, 400, ⟨eqF_rfl _, ⟨rfl, rfl⟩, eqF_rfl _, eqF_rfl _, eqF_rfl _, ⟨rfl, rfl⟩, ⟨congrArg (Value.int .i64) hfac.symm, rfl⟩, eqF_rfl _, eqF_rfl _, eqF_rfl _, trivial⟩, WG, nM1, 0, by omega, by omega, rfl, rfl, rfl, rfl⟩ ?_
        rintro _ _ _ _ _ ⟨k, hk0, rfl, rfl, rfl, rfl, rfl⟩
        by_cases hk : k < m
        · have d3 := iLt_t hk
          have ix4 := ix3 k hk
          have hq3 : s + k < n := by omega
          have hU : ∀ z, z < n → updG (s + k) [.int .i64 (wr .i64 (Int.sub (gk b sz fac s k r (s + k)) (wr .i64 (Int.mul fac (b.getD k 0)))))] (fun z => [.int .i64 (gk b sz fac s k r z)]) z = [.int .i64 (gk b sz fac s (k + 1) r z)] := fun z _ => gk_upd z
          repeat' ((conv => whnf); first | refine eqS_rfl ?_ | refine eqA_rfl ?_ | refine eqA_of (by assumption) ?_ | refine eqS_of (by rfl) ?_ | refine eqL_rfl ?_ | refine eqJ_rfl ?_ | refine gE ?_ | refine seS_rfl ?_ | refine lsS_of hup ?_ | refine lsS_rfl ?_ | refine brS_tt ?_ | refine brS_ff ?_ | refine brS_not ?_ | refine gI ?_ | refine gT ?_ | refine gF ?_ | refine brS_intro (fun _ => ?_) (fun _ => ?_) | refine gL ?_ | refine gX ?_ | refine gO ?_ | refine gN ?_ | refine gM ?_ | refine gY ?_ | refine ixS_of ix4 hq3 ?_ | intro _)
          conv => whnf
          exact ⟨m - (k + 1) + 1, [(1, .sl 1001 a2 m c2), (4, .sl 730 a9 (q.length + 1) (q.length + 1)), (5, .sl 740 a5 n n), (6, .int .i64 sz), (7, .int .i64 sg), (8, .int .i64 (Int.ofNat s)), (9, .int .i64 fac), (47, .sl 1001 a2 m c2), (48, .int .i64 (Int.ofNat m)), (49, .int .i64 (Int.ofNat (k + 1)))], [(730, .gr a9 (q.length + 1) 3 1 (pf (tmL q sz ++ [fac]))), (740, .gr a5 n 3 1 (fun z => [.int .i64 (gk b sz fac s (k + 1) r z)])), (1000, .ro a n 4 1 (pf l)), (1001, .ro a2 m 4 1 (pf b))], addL (40 * (m - (k + 1)) + (2000 * s + (18000 + R) + 400)) 30, 400, by omega, ⟨eqF_rfl _, eqF_rfl _, eqF_rfl _, eqF_rfl _, eqF_rfl _, eqF_rfl _, eqF_rfl _, eqF_rfl _, eqF_rfl _, ⟨congrArg (Value.int .i64) (smn (i := k + 1) (by omega)), rfl⟩, trivial⟩, WG, nM1, k + 1, by omega, rfl, rfl, rfl, rfl, rfl⟩
        · have e2 : m = k := by omega
          subst e2
          have d3 := iLt_f (Nat.le_refl m)
          repeat' ((conv => whnf); first | refine eqS_rfl ?_ | refine eqA_rfl ?_ | refine eqA_of (by assumption) ?_ | refine eqS_of (by rfl) ?_ | refine eqL_rfl ?_ | refine eqJ_rfl ?_ | refine gE ?_ | refine seS_rfl ?_ | refine lsS_of hup ?_ | refine lsS_rfl ?_ | refine brS_tt ?_ | refine brS_ff ?_ | refine brS_not ?_ | refine gI ?_ | refine gT ?_ | refine gF ?_ | refine brS_intro (fun _ => ?_) (fun _ => ?_) | refine gL ?_ | refine gX ?_ | refine gO ?_ | refine gN ?_ | refine gM ?_ | refine gY ?_ | intro _)
          conv => whnf
          exact ⟨s + 1, [(1, .sl 1001 a2 m c2), (4, .sl 710 a9 (q.length + 1) (q.length + 1)), (5, .sl 720 a5 n n), (6, .int .i64 sz), (7, .int .i64 sg), (8, .int .i64 (sv s))], [(710, .gr a9 (q.length + 1) 3 1 (pf st2.1)), (720, .gr a5 n 3 1 (pf st2.2)), (1000, .ro a n 4 1 (pf l)), (1001, .ro a2 m 4 1 (pf b))], addL (2000 * s + (18000 + R)) 300, 300, by omega, ⟨eqF_rfl _, ⟨rfl, rfl⟩, ⟨rfl, rfl⟩, eqF_rfl _, eqF_rfl _, ⟨congrArg (Value.int .i64) (sv_dec s), rfl⟩, trivial⟩, WG, nM1, s, st2, by omega, rfl, hfin2, .inr ⟨by omega, by have : q.length + (s + 1) = n - m + 1 := hlen; omega, hL2, hin2, a9, a5, by rw [hL], by rw [hL]⟩, rfl, rfl⟩
end Go.Proofs.Ytpncjgiojoehkaa
namespace Go.Proofs.Ytpncjgiojoehkaa
open Go.Ab
attribute [local irreducible] aggOk drwOK
set_option maxRecDepth 100000
set_option maxHeartbeats 4000000
set_option linter.unusedVariables false
set_option linter.unusedSimpArgs false
theorem call64 (i j : Nat) {call : CallT} {g : FuncId} {args args0 : List SV} {m0 : Mem} {N nq nr : Nat} {lq lr : List Int} (h : ∀ R, callS call (.fn g [] []) args0 m0 (addL R N) 0 fun w m' R' _ => (∃ w0 mf, QD i j nq lq nr lr w0 mf ∧ den w = den w0 ∧ WkM m' mf) ∧ R ≤ R') (R2 : Nat) {m : Mem} {R ni : Nat} {K : SV → Mem → Nat → Nat → Prop} (ha : dens args = dens args0) (hs : SeesM m m0) (hN : R2 + N ≤ R)
    (hK : ∀ a1 a2, K (.tup [.sl i a1 nq nq, .sl j a2 nr nr]) ((i, .gr a1 nq 3 1 (pf lq)) :: (j, .gr a2 nr 3 1 (pf lr)) :: m) R2 ni) : callS call (.fn g [] []) args m R ni K := by
  refine call_freshL (QD i j nq lq nr lr) h ?_ R2 ha hs hN ?_
  · rintro _ _ ⟨a1, a2, rfl, rfl⟩ x hx
    rcases List.mem_cons.1 hx with rfl | hx
    · exact ⟨_, _, _, _, _, rfl⟩
    · rw [List.mem_singleton.1 hx]; exact ⟨_, _, _, _, _, rfl⟩
  · rintro _ _ ⟨a1, a2, rfl, rfl⟩
    exact hK a1 a2
/-- the quotient, the rest of a division -/
def dvQ (l b : List Int) : List Int := leL (dvF l b).1.reverse
def dvR (l b : List Int) : List Int := leL ((dvF l b).2.take (tl (dvF l b).2 l.length))
/-- a division can be done -/
def dvB (l b : List Int) : Bool := decide (0 < b.length) && decide (b.length ≤ l.length) && decide (l.length ≤ 4) && decide (mk (dvF l b).1.reverse (l.length - b.length + 1) ≠ 0)
theorem gkS_len (b : List Int) (sz sg : Int) (s : Nat) (st : List Int × List Int) : (dvS b sz sg s st).1.length = st.1.length + 1 ∧ (dvS b sz sg s st).2.length = st.2.length := by
  unfold dvS; simp [tmL_len]
theorem dvN_len (b : List Int) (sz sg : Int) : ∀ (u : Nat) (st : List Int × List Int), (dvN b sz sg u st).1.length = st.1.length + u ∧ (dvN b sz sg u st).2.length = st.2.length
  | 0, st => ⟨rfl, rfl⟩
  | u + 1, st => by
    have h1 := dvN_len b sz sg u (dvS b sz sg u st)
    have h2 := gkS_len b sz sg u st
    unfold dvN
    omega
theorem dvQ_len {l b : List Int} : (dvQ l b).length = l.length - b.length + 1 := by
  unfold dvQ dvF
  rw [leL_len, List.length_reverse, (dvN_len _ _ _ _ _).1]; simp
theorem dvR_len {l b : List Int} : (dvR l b).length = tl (dvF l b).2 l.length := by
  have h1 : (dvF l b).2.length = l.length := (dvN_len _ _ _ _ _).2
  have h2 := tl_le (dvF l b).2 l.length
  unfold dvR
  rw [leL_len, List.length_take]; omega
theorem leL_in {l : List Int} {j : Nat} (h : j < l.length) : inI ((leL l).getD j 0) := by rw [leL_get h]; exact inI_wr _
theorem drL_in {l : List Int} {j : Nat} (h : j + 1 < l.length) : inI ((drL l).getD j 0) := by rw [drL_get h]; exact inI_wr _
theorem tmL_inj {l : List Int} {k : Int} {j : Nat} (h : j < l.length) : inI ((tmL l k).getD j 0) := by rw [tmL_get h]; exact inI_wr _
theorem c64' (F d i1 i2 : Nat) (a : Option Addr) (c : Nat) (l : List Int) (a2 : Option Addr) (c2 : Nat) (b : List Int) (h : dvB l b = true) (hF : 200 < F) (R : Nat) :
    callS (CL F (d + 3)) (.fn 64 [] []) [.sl 1000 a l.length c, .sl 1001 a2 b.length c2] [(1000, .ro a l.length 4 1 (pf l)), (1001, .ro a2 b.length 4 1 (pf b))] (addL R (28000 + 400)) 0 fun w m' R' _ => (∃ w0 mf, QD i1 i2 (dvQ l b).length (dvQ l b) (dvR l b).length (dvR l b) w0 mf ∧ den w = den w0 ∧ WkM m' mf) ∧ R ≤ R' := by
  unfold dvB at h
  simp only [Bool.and_eq_true, decide_eq_true_eq] at h
  obtain ⟨⟨⟨h1, h2⟩, h3⟩, h4⟩ := h
  rw [dvQ_len, dvR_len]
  exact c64 F d i1 i2 a l.length c l rfl a2 b.length c2 b rfl h1 h2 h3 hF h4 R
/-- the greatest polynomial that divides two of them -/
def eu : Nat → List Int → List Int → Option (List Int)
  | 0, _, _ => none
  | k + 1, x, y => if y = [] then some x else if dvB x y = true then eu k y (dvR x y) else none
/-- a polynomial can be made lean -/
def leB (l : List Int) : Bool := decide (l.length = 0) || decide (mk l l.length ≠ 0)
theorem leB_ne {l : List Int} (h : leB l = true) : 0 < l.length → mk l l.length ≠ 0 := fun h0 => by
  unfold leB at h
  rw [Bool.or_eq_true, decide_eq_true_eq, decide_eq_true_eq] at h
  rcases h with h | h
  · omega
  · exact h
def rpO (p : List Int) : Option (List Int) := if (leB p && leB (drL p)) = true then eu 6 (leL p) (leL (drL p)) else none
theorem c65 (F d i : Nat) (a : Option Addr) (n c : Nat) (l : List Int) (hl : l.length = n) (hn : n ≤ 4) (hF : 200 < F) (hi : ∀ j, j < n → inI (l.getD j 0)) (g : List Int) (hg : rpO l = some g) (R : Nat) :
    callS (CL F (d + 4)) (.fn 65 [] []) [.sl 1000 a n c] [(1000, .ro a n 4 1 (pf l))] (addL R (200000 + 400)) 0 fun w m' R' _ => (∃ w0 mf, QP i g.length g w0 mf ∧ den w = den w0 ∧ WkM m' mf) ∧ R ≤ R' := by
  subst hl
  unfold rpO at hg
  by_cases hB : (leB l && leB (drL l)) = true
  rotate_left
  · rw [if_neg hB] at hg; cases hg
  rw [if_pos hB] at hg
  rw [Bool.and_eq_true] at hB
  have z1 := leB_ne hB.1
  have z2 := leB_ne hB.2
  have hdl := drL_len l
  have k71 := fun R => c71 F (d + 1) 700 a l.length c l rfl hn hF hi z1 R
  have k55 := fun R => c55 F (d + 2) 720 a l.length c l rfl (by omega) (by omega) R
  have k71b := fun a R => c71 F (d + 1) 710 a (l.length - 1) (l.length - 1) (drL l) hdl (by omega) hF (fun j hj => drL_in (by omega)) (by rw [← hdl]; exact z2) R
  rw [show 200000 + 400 = (200000) + 400 from rfl, addL_eq, ← Nat.add_assoc, ← addL_eq _ 400, Nat.add_comm R (200000)]
  refine call_in (n := 24) Try.func65 rfl rfl rfl rfl rfl rfl rfl ?_
  repeat' ((conv => whnf); first | refine eqS_rfl ?_ | refine eqA_rfl ?_ | refine eqA_of (by assumption) ?_ | refine eqS_of (by rfl) ?_ | refine eqL_rfl ?_ | refine eqJ_rfl ?_ | refine gE ?_ | refine seS_rfl ?_ | refine lsS_of hup ?_ | refine lsS_rfl ?_ | refine brS_tt ?_ | refine brS_ff ?_ | refine brS_not ?_ | refine gI ?_ | refine gT ?_ | refine gF ?_ | refine brS_intro (fun _ => ?_) (fun _ => ?_) | refine gL ?_ | refine gX ?_ | refine gO ?_ | refine gN ?_ | refine gM ?_ | refine gY ?_ | refine call67 700 k71 (addL (191000 + R) 60) (by rfl) (by exact SeesM.cons 1000 (sees_ro (i := 1000) (by rfl)) (SeesM.nil _) (fun _ _ _ _ _ _ x hx => by cases hx)) (nM1) ?_ | refine call67 720 k55 (addL (190000 + R) 60) (by rfl) (by exact SeesM.cons 1000 (sees_ro (i := 1000) (by rfl)) (SeesM.nil _) (fun _ _ _ _ _ _ x hx => by cases hx)) (nM1) ?_ | refine call67 710 (k71b _) (addL (181000 + R) 60) (by rfl) (by exact SeesM.cons 1000 (sees_gr (i := 720) (by rfl)) (SeesM.nil _) (fun _ _ _ _ _ _ x hx => by cases hx)) (nM1) ?_ | intro _)
  rename_i aa a20 ab
  conv => whnf
  refine loS_i (fun jj f mm R' ni => ∃ (k : Nat) (xa xb : List Int) (aa ab : Option Addr), k ≤ 6 ∧ eu k xa xb = some g ∧ (∀ j, j < xa.length → inI (xa.getD j 0)) ∧ (∀ j, j < xb.length → inI (xb.getD j 0)) ∧ k = jj ∧ f = [(3, .sl 700 aa xa.length xa.length), (4, .sl 710 ab xb.length xb.length)] ∧ mm = [(700, .gr aa xa.length 3 1 (pf xa)), (710, .gr ab xb.length 3 1 (pf xb)), (1000, .ro a l.length 4 1 (pf l))] ∧ R' = addL (28500 * k + R) 300 ∧ ni = 300) 6 (by omega)
    ⟨[(3, .sl 700 aa (leL l).length (leL l).length), (4, .sl 710 ab (leL (drL l)).length (leL (drL l)).length)], [(700, .gr aa (leL l).length 3 1 (pf (leL l))), (710, .gr ab (leL (drL l)).length 3 1 (pf (leL (drL l)))), (1000, .ro a l.length 4 1 (pf l))], addL (28500 * 6 + R) 300, 300, ⟨⟨congrArg (fun z => Value.slice aa z z) (leL_len l).symm, rfl⟩, ⟨congrArg (fun z => Value.slice ab z z) (by rw [leL_len, hdl]), rfl⟩, trivial⟩, ?_, nM1, 6, leL l, leL (drL l), aa, ab, by omega, hg, fun j hj => leL_in (by rw [leL_len] at hj; exact hj), fun j hj => leL_in (by rw [leL_len] at hj; exact hj), rfl, rfl, rfl, rfl, rfl⟩ ?_
  · rw [leL_len, leL_len, hdl]
    exact WG
  rintro _ _ _ _ _ ⟨k, xa, xb, aa, ab, hk, he, ia, ib, rfl, rfl, rfl, rfl, rfl⟩
  cases k with
  | zero => cases he
  | succ k =>
    unfold eu at he
    by_cases hb0 : xb = []
    · rw [if_pos hb0] at he
      injection he with he
      subst he
      subst hb0
      have d1 : iLt 0 (Int.ofNat ([] : List Int).length) = false := iLt_0 0
      repeat' ((conv => whnf); first | refine eqS_rfl ?_ | refine eqA_rfl ?_ | refine eqA_of (by assumption) ?_ | refine eqS_of (by rfl) ?_ | refine eqL_rfl ?_ | refine eqJ_rfl ?_ | refine gE ?_ | refine seS_rfl ?_ | refine lsS_of hup ?_ | refine lsS_rfl ?_ | refine brS_tt ?_ | refine brS_ff ?_ | refine brS_not ?_ | refine gI ?_ | refine gT ?_ | refine gF ?_ | refine brS_intro (fun _ => ?_) (fun _ => ?_) | refine gL ?_ | refine gX ?_ | refine gO ?_ | refine gN ?_ | refine gM ?_ | refine gY ?_ | intro _)
      conv => whnf
      exact ⟨⟨_, _, ⟨_, rfl, rfl⟩, rfl, WS⟩, nM1⟩
    · rw [if_neg hb0] at he
      by_cases hB2 : dvB xa xb = true
      · rw [if_pos hB2] at he
        have hp : 0 < xb.length := Nat.pos_of_ne_zero fun h => hb0 (List.length_eq_zero_iff.1 h)
        have d1 : iLt 0 (Int.ofNat xb.length) = true := iLt_t (a := 0) (b := xb.length) hp
        repeat' ((conv => whnf); first | refine eqS_rfl ?_ | refine eqA_rfl ?_ | refine eqA_of (by assumption) ?_ | refine eqS_of (by rfl) ?_ | refine eqL_rfl ?_ | refine eqJ_rfl ?_ | refine gE ?_ | refine seS_rfl ?_ | refine lsS_of hup ?_ | refine lsS_rfl ?_ | refine brS_tt ?_ | refine brS_ff ?_ | refine brS_not ?_ | refine gI ?_ | refine gT ?_ | refine gF ?_ | refine brS_intro (fun _ => ?_) (fun _ => ?_) | refine gL ?_ | refine gX ?_ | refine gO ?_ | refine gN ?_ | refine gM ?_ | refine gY ?_ | refine call64 730 740 (fun R => c64' F d 730 740 aa xa.length xa ab xb.length xb hB2 hF R) (addL (28500 * k + R) 320) (by rfl) (by exact SeesM.cons 1000 (sees_gr (i := 700) (by rfl)) (SeesM.cons 1001 (sees_gr (i := 710) (by rfl)) (SeesM.nil _) (fun _ _ _ _ _ _ x hx => by cases hx)) (fun _ _ _ _ _ _ x hx => by rcases List.mem_singleton.1 hx with rfl; exact fun _ h => h)) (nM1) ?_ | intro _)
        rename_i aq ar
        conv => whnf
        exact ⟨k, [(3, .sl 700 ab xb.length xb.length), (4, .sl 710 ar (dvR xa xb).length (dvR xa xb).length)], [(700, .gr ab xb.length 3 1 (pf xb)), (710, .gr ar (dvR xa xb).length 3 1 (pf (dvR xa xb))), (1000, .ro a l.length 4 1 (pf l))], addL (28500 * k + R) 300, 300, by omega, ⟨⟨rfl, rfl⟩, ⟨rfl, rfl⟩, trivial⟩, WG, nM1, k, xb, dvR xa xb, ab, ar, by omega, he, ib, fun j hj => by unfold dvR at hj ⊢; exact leL_in (by rw [leL_len] at hj; exact hj), rfl, rfl, rfl, rfl, rfl⟩
      · rw [if_neg hB2] at he; cases he
end Go.Proofs.Ytpncjgiojoehkaa
namespace Go.Proofs.Ytpncjgiojoehkaa
open Go.Ab
attribute [local irreducible] aggOk drwOK
set_option maxRecDepth 100000
set_option maxHeartbeats 4000000
set_option linter.unusedVariables false
set_option linter.unusedSimpArgs false
/-- a valid polynomial -/
structure Val (l : List Int) (n : Nat) : Prop where
  len : l.length = n
  h2 : 2 ≤ n
  h4 : n ≤ 4
  bd : ∀ j, j < n → -50 ≤ l.getD j 0 ∧ l.getD j 0 ≤ 50
  ne : l.getD (n - 1) 0 ≠ 0
/-- an argument -/
structure Arg (x y : Int) : Prop where
  x : -100000 ≤ x ∧ x ≤ 100000
  y : 1 ≤ y ∧ y ≤ 1000
theorem c45 (F d : Nat) (x m : Int) (hm : 0 ≤ m ∧ m ≤ 1000000) (hx : -m ≤ x ∧ x ≤ m) : PureC (CL F (d + 1)) 45 [.int .i64 x, .int .i64 m] 20 (.bool true) := by
  have e : wr .i64 (Int.sub 0 m) = -m := (congrArg (wr .i64) (Int.zero_sub m)).trans (sm (by omega))
  have d1 : iLt x (wr .i64 (Int.sub 0 m)) = false := by rw [e, iLt_eq]; exact decide_eq_false (by omega)
  have d2 : iLt m x = false := by rw [iLt_eq]; exact decide_eq_false (by omega)
  intro m R
  refine call_in (n := 14) Try.func45 rfl rfl rfl rfl rfl rfl rfl ?_
  repeat' ((conv => whnf); first | refine eqS_rfl ?_ | refine eqA_rfl ?_ | refine eqA_of (by assumption) ?_ | refine eqS_of (by rfl) ?_ | refine eqL_rfl ?_ | refine eqJ_rfl ?_ | refine gE ?_ | refine seS_rfl ?_ | refine lsS_of hup ?_ | refine lsS_rfl ?_ | refine brS_tt ?_ | refine brS_ff ?_ | refine brS_not ?_ | refine gI ?_ | refine gT ?_ | refine gF ?_ | refine brS_intro (fun _ => ?_) (fun _ => ?_) | refine gL ?_ | refine gX ?_ | refine gO ?_ | refine gN ?_ | intro _)
  all_goals (conv => whnf)
  all_goals refine ⟨?_, by repeat' (first | exact WkM.refl _ | refine WkM.drop ?_), by repeat' (first | exact Nat.le_refl _ | refine Nat.le_succ_of_le ?_)⟩
  all_goals (exact congrArg Value.bool (by first | rfl | (rw [d2]; rfl)))

theorem c21 (F d : Nat) (hF : 100 < F) (a : Option Addr) (n c : Nat) (l : List Int) (h : Val l n) : ReadC (CL F (d + 2)) 21 [.sl 1000 a n c] [(1000, .ro a n 4 1 (pf l))] (300 + 60) (i64 0) := by
  obtain ⟨hl, h2, h4, hb, hne⟩ := h
  have t1 : iEq (Int.ofNat n) 0 = false := (iEq_n (a := n) (b := 0)).trans (decide_eq_false (by omega))
  have t2 : iLt 4 (Int.ofNat n) = false := iLt_f (a := 4) (b := n) h4
  have t3 : iEq (Int.ofNat n) 1 = false := (iEq_n (a := n) (b := 1)).trans (decide_eq_false (by omega))
  have t4 : iEq (l.getD (n - 1) 0) 0 = false := by rw [iEq_eq]; exact decide_eq_false hne
  have el := len1 (n := n) (by omega) (by omega)
  have hq : n - 1 < n := by omega
  intro R
  rw [show 300 + 60 = (300) + 60 from rfl, addL_eq, ← Nat.add_assoc, ← addL_eq _ 60, Nat.add_comm R (300)]
  refine call_in (n := 33) Try.func21 rfl rfl rfl rfl rfl rfl rfl ?_
  repeat' ((conv => whnf); first | refine eqS_rfl ?_ | refine eqA_rfl ?_ | refine eqA_of (by assumption) ?_ | refine eqS_of (by rfl) ?_ | refine eqL_rfl ?_ | refine eqJ_rfl ?_ | refine gE ?_ | refine seS_rfl ?_ | refine lsS_of hup ?_ | refine lsS_rfl ?_ | refine brS_tt ?_ | refine brS_ff ?_ | refine brS_not ?_ | refine gI ?_ | refine gT ?_ | refine gF ?_ | refine brS_intro (fun _ => ?_) (fun _ => ?_) | refine gL ?_ | refine gX ?_ | refine gO ?_ | refine gN ?_ | refine gM ?_ | refine gY ?_ | intro _)
  conv => whnf
  refine loS_i (fun jj f mm R' ni => ∃ j : Nat, j ≤ n ∧ jj = n - j + 1 ∧ f = [(0, .sl 1000 a n c), (11, .sl 1000 a n c), (12, .int .i64 (Int.ofNat n)), (13, .int .i64 (Int.ofNat j))] ∧ mm = [(1000, .ro a n 4 1 (pf l))] ∧ R' = addL (50 * (n - j) + R) 50 ∧ ni = 10) (n + 1) (by omega)
    ⟨[(0, .sl 1000 a n c), (11, .sl 1000 a n c), (12, .int .i64 (Int.ofNat n)), (13, .int .i64 (Int.ofNat 0))], _, addL (50 * (n - 0) + R) 50, 10, ⟨eqF_rfl _, eqF_rfl _, eqF_rfl _, eqF_rfl _, trivial⟩, WkM.refl _, nM1, 0, by omega, by omega, rfl, rfl, rfl, rfl⟩ ?_
  rintro _ _ _ _ _ ⟨j, hj, rfl, rfl, rfl, rfl, rfl⟩
  by_cases hlt : j < n
  · have d1 := iLt_t hlt
    have hbj := hb j hlt
    repeat' ((conv => whnf); first | refine eqS_rfl ?_ | refine eqA_rfl ?_ | refine eqA_of (by assumption) ?_ | refine eqS_of (by rfl) ?_ | refine eqL_rfl ?_ | refine eqJ_rfl ?_ | refine gE ?_ | refine seS_rfl ?_ | refine lsS_of hup ?_ | refine lsS_rfl ?_ | refine brS_tt ?_ | refine brS_ff ?_ | refine brS_not ?_ | refine gI ?_ | refine gT ?_ | refine gF ?_ | refine brS_intro (fun _ => ?_) (fun _ => ?_) | refine gL ?_ | refine gX ?_ | refine gO ?_ | refine gN ?_ | refine gM ?_ | refine gY ?_ | refine call_pure (c45 F _ _ 50 (by decide) hbj) ?_ | intro _)
    conv => whnf
    exact ⟨n - (j + 1) + 1, [(0, .sl 1000 a n c), (11, .sl 1000 a n c), (12, .int .i64 (Int.ofNat n)), (13, .int .i64 (Int.ofNat (j + 1)))], _, addL (50 * (n - (j + 1)) + R) 50, 10, by omega, ⟨eqF_rfl _, eqF_rfl _, eqF_rfl _, ⟨congrArg (Value.int .i64) (smn (i := j + 1) (by omega)), rfl⟩, trivial⟩, WS, nM1, j + 1, by omega, rfl, rfl, rfl, rfl, rfl⟩
  · have e2 : n = j := by omega
    subst e2
    have d1 := iLt_f (Nat.le_refl n)
    repeat' ((conv => whnf); first | refine eqS_rfl ?_ | refine eqA_rfl ?_ | refine eqA_of (by assumption) ?_ | refine eqS_of (by rfl) ?_ | refine eqL_rfl ?_ | refine eqJ_rfl ?_ | refine gE ?_ | refine seS_rfl ?_ | refine lsS_of hup ?_ | refine lsS_rfl ?_ | refine brS_tt ?_ | refine brS_ff ?_ | refine brS_not ?_ | refine gI ?_ | refine gT ?_ | refine gF ?_ | refine brS_intro (fun _ => ?_) (fun _ => ?_) | refine gL ?_ | refine gX ?_ | refine gO ?_ | refine gN ?_ | refine gM ?_ | refine gY ?_ | refine ixS_of el hq ?_ | intro _)
    conv => whnf
    exact ⟨rfl, nM1⟩
theorem c60 (F d : Nat) (x y : Int) (h : Arg x y) : PureC (CL F (d + 2)) 60 [.agg [.int .i64 x, .int .i64 y]] 50 (.bool true) := by
  obtain ⟨hx, hy⟩ := h
  have d1 : iLt y 1 = false := by rw [iLt_eq]; exact decide_eq_false (by omega)
  have d2 : iLt 1000 y = false := by rw [iLt_eq]; exact decide_eq_false (by omega)
  intro m R
  refine call_in (n := 16) Try.func60 rfl rfl rfl rfl rfl rfl rfl ?_
  repeat' ((conv => whnf); first | refine eqS_rfl ?_ | refine eqA_rfl ?_ | refine eqA_of (by assumption) ?_ | refine eqS_of (by rfl) ?_ | refine eqL_rfl ?_ | refine eqJ_rfl ?_ | refine gE ?_ | refine seS_rfl ?_ | refine lsS_of hup ?_ | refine lsS_rfl ?_ | refine brS_tt ?_ | refine brS_ff ?_ | refine brS_not ?_ | refine gI ?_ | refine gT ?_ | refine gF ?_ | refine brS_intro (fun _ => ?_) (fun _ => ?_) | refine gL ?_ | refine gX ?_ | refine gO ?_ | refine gN ?_ | refine call_pure (c45 F _ _ 100000 (by decide) hx) ?_ | intro _)
  all_goals (conv => whnf)
  all_goals refine ⟨?_, by repeat' (first | exact WkM.refl _ | refine WkM.drop ?_), by repeat' (first | exact Nat.le_refl _ | refine Nat.le_succ_of_le ?_)⟩
  all_goals (exact congrArg Value.bool (by first | rfl | (rw [d2]; rfl)))

theorem c37 (F d : Nat) (hF : 100 < F) (a : Option Addr) (n c : Nat) (l : List Int) (h : Val l n) (a2 : Option Addr) (m e2 c2 : Nat) (hm : m ≤ 2) (fx fy : Nat → Int) (hA : ∀ j, j < m → Arg (fx j) (fy j)) : ReadC (CL F (d + 3)) 37 [.sl 1000 a n c, .sl 1001 a2 m c2] [(1000, .ro a n 4 1 (pf l)), (1001, .ro a2 m e2 2 (fun j => [.int .i64 (fx j), .int .i64 (fy j)]))] (800 + 60) (i64 0) := by
  have k21 := c21 F d hF a n c l h
  intro R
  rw [show 800 + 60 = (800) + 60 from rfl, addL_eq, ← Nat.add_assoc, ← addL_eq _ 60, Nat.add_comm R (800)]
  refine call_in (n := 23) Try.func37 rfl rfl rfl rfl rfl rfl rfl ?_
  repeat' ((conv => whnf); first | refine eqS_rfl ?_ | refine eqA_rfl ?_ | refine eqA_of (by assumption) ?_ | refine eqS_of (by rfl) ?_ | refine eqL_rfl ?_ | refine eqJ_rfl ?_ | refine gE ?_ | refine seS_rfl ?_ | refine lsS_of hup ?_ | refine lsS_rfl ?_ | refine brS_tt ?_ | refine brS_ff ?_ | refine brS_not ?_ | refine gI ?_ | refine gT ?_ | refine gF ?_ | refine brS_intro (fun _ => ?_) (fun _ => ?_) | refine gL ?_ | refine gX ?_ | refine gO ?_ | refine gN ?_ | refine gM ?_ | refine gY ?_ | refine call_readL k21 (addL (400 + R) 55) (by rfl) (by exact SeesM.cons 1000 (sees_ro (i := 1000) (by rfl)) (SeesM.nil _) (fun _ _ _ _ _ _ x hx => by cases hx)) (nM1) ?_ | intro _)
  conv => whnf
  refine loS_i (fun jj f mm R' ni => ∃ j : Nat, j ≤ m ∧ jj = m - j + 1 ∧ f = [(13, .sl 1001 a2 m c2), (14, .int .i64 (Int.ofNat m)), (15, .int .i64 (Int.ofNat j))] ∧ mm = [(1000, .ro a n 4 1 (pf l)), (1001, .ro a2 m e2 2 (fun j => [.int .i64 (fx j), .int .i64 (fy j)]))] ∧ R' = addL (100 * (m - j) + R) 90 ∧ ni = 10) (m + 1) (by omega)
    ⟨[(13, .sl 1001 a2 m c2), (14, .int .i64 (Int.ofNat m)), (15, .int .i64 (Int.ofNat 0))], _, addL (100 * (m - 0) + R) 90, 10, ⟨eqF_rfl _, eqF_rfl _, eqF_rfl _, trivial⟩, WkM.refl _, nM1, 0, by omega, by omega, rfl, rfl, rfl, rfl⟩ ?_
  rintro _ _ _ _ _ ⟨j, hj, rfl, rfl, rfl, rfl, rfl⟩
  by_cases hlt : j < m
  · have d1 := iLt_t hlt
    have hAj := hA j hlt
    repeat' ((conv => whnf); first | refine eqS_rfl ?_ | refine eqA_rfl ?_ | refine eqA_of (by assumption) ?_ | refine eqS_of (by rfl) ?_ | refine eqL_rfl ?_ | refine eqJ_rfl ?_ | refine gE ?_ | refine seS_rfl ?_ | refine lsS_of hup ?_ | refine lsS_rfl ?_ | refine brS_tt ?_ | refine brS_ff ?_ | refine brS_not ?_ | refine gI ?_ | refine gT ?_ | refine gF ?_ | refine brS_intro (fun _ => ?_) (fun _ => ?_) | refine gL ?_ | refine gX ?_ | refine gO ?_ | refine gN ?_ | refine gM ?_ | refine gY ?_ | refine call_pure (c60 F _ _ _ hAj) ?_ | intro _)
    conv => whnf
    exact ⟨m - (j + 1) + 1, [(13, .sl 1001 a2 m c2), (14, .int .i64 (Int.ofNat m)), (15, .int .i64 (Int.ofNat (j + 1)))], _, addL (100 * (m - (j + 1)) + R) 90, 10, by omega, ⟨eqF_rfl _, eqF_rfl _, ⟨congrArg (Value.int .i64) (smn (i := j + 1) (by omega)), rfl⟩, trivial⟩, WS, nM1, j + 1, by omega, rfl, rfl, rfl, rfl, rfl⟩
  · have e2 : m = j := by omega
    subst e2
    have d1 := iLt_f (Nat.le_refl m)
    repeat' ((conv => whnf); first | refine eqS_rfl ?_ | refine eqA_rfl ?_ | refine eqA_of (by assumption) ?_ | refine eqS_of (by rfl) ?_ | refine eqL_rfl ?_ | refine eqJ_rfl ?_ | refine gE ?_ | refine seS_rfl ?_ | refine lsS_of hup ?_ | refine lsS_rfl ?_ | refine brS_tt ?_ | refine brS_ff ?_ | refine brS_not ?_ | refine gI ?_ | refine gT ?_ | refine gF ?_ | refine brS_intro (fun _ => ?_) (fun _ => ?_) | refine gL ?_ | refine gX ?_ | refine gO ?_ | refine gN ?_ | refine gM ?_ | refine gY ?_ | intro _)
    conv => whnf
    exact ⟨rfl, nM1⟩
theorem c50 (F d : Nat) (hF : 100 < F) (a : Option Addr) (n c : Nat) (l : List Int) (h : Val l n) (x1 y1 x2 y2 : Int) (h1 : Arg x1 y1) (h2 : Arg x2 y2) (hle : x1 * y2 ≤ x2 * y1) : ReadC (CL F (d + 4)) 50 [.sl 1000 a n c, .agg [.int .i64 x1, .int .i64 y1], .agg [.int .i64 x2, .int .i64 y2]] [(1000, .ro a n 4 1 (pf l))] (1000 + 60) (i64 0) := by
  have q1 := h1.x
  have q2 := h2.x
  have q3 := h1.y
  have q4 := h2.y
  have b1 : Bd x1 100000 := Bd.of (by omega) (by omega)
  have b2 : Bd x2 100000 := Bd.of (by omega) (by omega)
  have b3 : Bd y1 1000 := Bd.of (by omega) (by omega)
  have b4 : Bd y2 1000 := Bd.of (by omega) (by omega)
  have hAr : ∀ j, j < 2 → Arg ((fun j => if j = 0 then x1 else x2) j) ((fun j => if j = 0 then y1 else y2) j) := fun j _ => by
    show Arg (if j = 0 then x1 else x2) (if j = 0 then y1 else y2)
    by_cases e : j = 0
    · rw [if_pos e, if_pos e]; exact h1
    · rw [if_neg e, if_neg e]; exact h2
  have e1 : wr .i64 (Int.mul x1 y2) = x1 * y2 := wr_mul rfl rfl b1 b4 (by decide)
  have e2 : wr .i64 (Int.mul x2 y1) = x2 * y1 := wr_mul rfl rfl b2 b3 (by decide)
  have d1 : iLt (wr .i64 (Int.mul x2 y1)) (wr .i64 (Int.mul x1 y2)) = false := by rw [e1, e2, iLt_eq]; exact decide_eq_false (by omega)
  have k37 := fun a2 => c37 F d hF a n c l h a2 2 0 2 (by omega) (fun j => if j = 0 then x1 else x2) (fun j => if j = 0 then y1 else y2) hAr
  intro R
  rw [show 1000 + 60 = (1000) + 60 from rfl, addL_eq, ← Nat.add_assoc, ← addL_eq _ 60, Nat.add_comm R (1000)]
  refine call_in (n := 27) Try.func50 rfl rfl rfl rfl rfl rfl rfl ?_
  repeat' ((conv => whnf); first | refine eqS_rfl ?_ | refine eqA_rfl ?_ | refine eqA_of (by assumption) ?_ | refine eqS_of (by rfl) ?_ | refine eqL_rfl ?_ | refine eqJ_rfl ?_ | refine gE ?_ | refine seS_rfl ?_ | refine lsS_of hup ?_ | refine lsS_rfl ?_ | refine brS_tt ?_ | refine brS_ff ?_ | refine brS_not ?_ | refine gI ?_ | refine gT ?_ | refine gF ?_ | refine brS_intro (fun _ => ?_) (fun _ => ?_) | refine gL ?_ | refine gX ?_ | refine gO ?_ | refine gN ?_ | refine gM ?_ | refine gY ?_ | refine call_readL (k37 _) (addL (100 + R) 55) (by rfl) (by exact SeesM.cons 1000 (sees_ro (i := 1000) (by rfl)) (SeesM.cons 1001 (SeesE.ro_congr (g := fun j => [.int .i64 (if j = 0 then x1 else x2), .int .i64 (if j = 0 then y1 else y2)]) (sees_own (i := 2) (n := 2) (o := 0) (sz := 2) (c := 0) (by rfl) (by exact Nat.le_refl 4)) (fun j hj => by match j, hj with | 0, _ => rfl | 1, _ => rfl | j + 2, hj => exact absurd hj (by omega))) (SeesM.nil _) (fun _ _ _ _ _ _ x hx => by cases hx)) (fun _ _ _ _ _ _ x hx => by rcases List.mem_singleton.1 hx with rfl; exact fun _ h => h)) (nM1) ?_ | intro _)
  conv => whnf
  exact ⟨rfl, nM1⟩
end Go.Proofs.Ytpncjgiojoehkaa
namespace Go.Proofs.Ytpncjgiojoehkaa
open Go.Ab
attribute [local irreducible] aggOk drwOK
set_option maxRecDepth 100000
set_option maxHeartbeats 4000000
set_option linter.unusedVariables false
set_option linter.unusedSimpArgs false
/-- the core -/
def coO (p : List Int) : Option (List Int) := match rpO p with
  | none => none
  | some g => if dvB p g = true then some (if (dvQ p g).getD ((dvQ p g).length - 1) 0 < 0 then tmL (dvQ p g) (-1) else dvQ p g) else none
theorem dvB_le {l b : List Int} (h : dvB l b = true) : 0 < b.length ∧ b.length ≤ l.length ∧ l.length ≤ 4 := by
  unfold dvB at h
  simp only [Bool.and_eq_true, decide_eq_true_eq] at h
  exact ⟨h.1.1.1, h.1.1.2, h.1.2⟩
theorem dvR_le (l b : List Int) : (dvR l b).length ≤ l.length := by rw [dvR_len]; exact tl_le _ _
theorem dvQ_in {l b : List Int} {j : Nat} (h : j < (dvQ l b).length) : inI ((dvQ l b).getD j 0) := by unfold dvQ at h ⊢; exact leL_in (by rw [leL_len] at h; exact h)
theorem coO_in {p co : List Int} (h : coO p = some co) : ∀ j, j < co.length → inI (co.getD j 0) := fun j hj => by
  unfold coO at h
  cases hr : rpO p with
  | none => rw [hr] at h; cases h
  | some g =>
    rw [hr] at h
    simp only at h
    split at h
    · injection h with h
      subst h
      split at hj
      · rename_i h1; rw [if_pos h1]; exact tmL_inj (by rw [tmL_len] at hj; exact hj)
      · rename_i h1; rw [if_neg h1]; exact dvQ_in hj
    · cases h
theorem c41 (F d i : Nat) (a : Option Addr) (n c : Nat) (l : List Int) (hl : l.length = n) (hn : n ≤ 4) (hF : 200 < F) (hi : ∀ j, j < n → inI (l.getD j 0)) (co : List Int) (hco : coO l = some co) (R : Nat) :
    callS (CL F (d + 5)) (.fn 41 [] []) [.sl 1000 a n c] [(1000, .ro a n 4 1 (pf l))] (addL R (235000 + 400)) 0 fun w m' R' _ => (∃ w0 mf, QP i co.length co w0 mf ∧ den w = den w0 ∧ WkM m' mf) ∧ R ≤ R' := by
  subst hl
  unfold coO at hco
  cases hr : rpO l with
  | none => rw [hr] at hco; cases hco
  | some g =>
    rw [hr] at hco
    simp only at hco
    by_cases hB : dvB l g = true
    rotate_left
    · rw [if_neg hB] at hco; cases hco
    rw [if_pos hB] at hco
    injection hco with hco
    have k65 := fun R => c65 F d 700 a l.length c l rfl hn hF hi g hr R
    have hle := dvB_le hB
    have hql := dvQ_len (l := l) (b := g)
    have k66 := fun a => c66 F (d + 3) a (dvQ l g).length (dvQ l g).length (dvQ l g) (by omega) (by omega)
    rw [show 235000 + 400 = (235000) + 400 from rfl, addL_eq, ← Nat.add_assoc, ← addL_eq _ 400, Nat.add_comm R (235000)]
    refine call_in (n := 18) Try.func41 rfl rfl rfl rfl rfl rfl rfl ?_
    by_cases hlt : (dvQ l g).getD ((dvQ l g).length - 1) 0 < 0
    · rw [if_pos hlt] at hco
      have d1 : iLt ((dvQ l g).getD ((dvQ l g).length - 1) 0) 0 = true := by rw [iLt_eq]; exact decide_eq_true hlt
      rw [← hco, tmL_len]
      repeat' ((conv => whnf); first | refine eqS_rfl ?_ | refine eqA_rfl ?_ | refine eqA_of (by assumption) ?_ | refine eqS_of (by rfl) ?_ | refine eqL_rfl ?_ | refine eqJ_rfl ?_ | refine gE ?_ | refine seS_rfl ?_ | refine lsS_of hup ?_ | refine lsS_rfl ?_ | refine brS_tt ?_ | refine brS_ff ?_ | refine brS_not ?_ | refine gI ?_ | refine gT ?_ | refine gF ?_ | refine brS_intro (fun _ => ?_) (fun _ => ?_) | refine gL ?_ | refine gX ?_ | refine gO ?_ | refine gN ?_ | refine gM ?_ | refine gY ?_ | refine call67 700 k65 (addL (30000 + R) 60) (by rfl) (by exact SeesM.cons 1000 (sees_ro (i := 1000) (by rfl)) (SeesM.nil _) (fun _ _ _ _ _ _ x hx => by cases hx)) (nM1) ?_ | refine call64 740 750 (fun R => c64' F (d + 1) 740 750 a c l _ _ g hB hF R) (addL (1000 + R) 60) (by rfl) (by exact SeesM.cons 1000 (sees_ro (i := 1000) (by rfl)) (SeesM.cons 1001 (sees_gr (i := 700) (by rfl)) (SeesM.nil _) (fun _ _ _ _ _ _ x hx => by cases hx)) (fun _ _ _ _ _ _ x hx => by rcases List.mem_singleton.1 hx with rfl; exact fun _ h => h)) (nM1) ?_ | refine call_readL (k66 _) (addL (900 + R) 60) (by rfl) (by exact SeesM.cons 1000 (sees_gr (i := 740) (by rfl)) (SeesM.nil _) (fun _ _ _ _ _ _ x hx => by cases hx)) (nM1) ?_ | refine call67 760 (fun R => c67 F (d + 3) 760 _ (dvQ l g).length (dvQ l g).length (dvQ l g) rfl (by omega) (by omega) (-1) R) (addL R 60) (by rfl) (by exact SeesM.cons 1000 (sees_gr (i := 740) (by rfl)) (SeesM.nil _) (fun _ _ _ _ _ _ x hx => by cases hx)) (nM1) ?_ | intro _)
      conv => whnf
      exact ⟨⟨_, _, ⟨_, rfl, rfl⟩, rfl, WS⟩, nM1⟩
    · rw [if_neg hlt] at hco
      have d1 : iLt ((dvQ l g).getD ((dvQ l g).length - 1) 0) 0 = false := by rw [iLt_eq]; exact decide_eq_false hlt
      rw [← hco]
      repeat' ((conv => whnf); first | refine eqS_rfl ?_ | refine eqA_rfl ?_ | refine eqA_of (by assumption) ?_ | refine eqS_of (by rfl) ?_ | refine eqL_rfl ?_ | refine eqJ_rfl ?_ | refine gE ?_ | refine seS_rfl ?_ | refine lsS_of hup ?_ | refine lsS_rfl ?_ | refine brS_tt ?_ | refine brS_ff ?_ | refine brS_not ?_ | refine gI ?_ | refine gT ?_ | refine gF ?_ | refine brS_intro (fun _ => ?_) (fun _ => ?_) | refine gL ?_ | refine gX ?_ | refine gO ?_ | refine gN ?_ | refine gM ?_ | refine gY ?_ | refine call67 700 k65 (addL (30000 + R) 60) (by rfl) (by exact SeesM.cons 1000 (sees_ro (i := 1000) (by rfl)) (SeesM.nil _) (fun _ _ _ _ _ _ x hx => by cases hx)) (nM1) ?_ | refine call64 740 750 (fun R => c64' F (d + 1) 740 750 a c l _ _ g hB hF R) (addL (1000 + R) 60) (by rfl) (by exact SeesM.cons 1000 (sees_ro (i := 1000) (by rfl)) (SeesM.cons 1001 (sees_gr (i := 700) (by rfl)) (SeesM.nil _) (fun _ _ _ _ _ _ x hx => by cases hx)) (fun _ _ _ _ _ _ x hx => by rcases List.mem_singleton.1 hx with rfl; exact fun _ h => h)) (nM1) ?_ | refine call_readL (k66 _) (addL (900 + R) 60) (by rfl) (by exact SeesM.cons 1000 (sees_gr (i := 740) (by rfl)) (SeesM.nil _) (fun _ _ _ _ _ _ x hx => by cases hx)) (nM1) ?_ | refine call67 760 (fun R => c67 F (d + 3) 760 _ (dvQ l g).length (dvQ l g).length (dvQ l g) rfl (by omega) (by omega) (-1) R) (addL R 60) (by rfl) (by exact SeesM.cons 1000 (sees_gr (i := 740) (by rfl)) (SeesM.nil _) (fun _ _ _ _ _ _ x hx => by cases hx)) (nM1) ?_ | intro _)
      conv => whnf
      exact ⟨⟨_, _, ⟨_, rfl, rfl⟩, rfl, WS⟩, nM1⟩
theorem c64n (F d i1 i2 : Nat) (a : Option Addr) (c : Nat) (l : List Int) (n : Nat) (hn : l.length = n) (a2 : Option Addr) (c2 : Nat) (b : List Int) (m : Nat) (hm : b.length = m) (h : dvB l b = true) (hF : 200 < F) (R : Nat) :
    callS (CL F (d + 3)) (.fn 64 [] []) [.sl 1000 a n c, .sl 1001 a2 m c2] [(1000, .ro a n 4 1 (pf l)), (1001, .ro a2 m 4 1 (pf b))] (addL R (28000 + 400)) 0 fun w m' R' _ => (∃ w0 mf, QD i1 i2 (dvQ l b).length (dvQ l b) (dvR l b).length (dvR l b) w0 mf ∧ den w = den w0 ∧ WkM m' mf) ∧ R ≤ R' := by
  subst hn; subst hm
  exact c64' F d i1 i2 a c l a2 c2 b h hF R
theorem slL_dens {f g : Nat → List SV} : ∀ n, (∀ j, j < n → dens (f j) = dens (g j)) → slL f n = slL g n
  | 0, _ => rfl
  | n + 1, h => by rw [slL, slL, slL_dens n fun j hj => h j (by omega), h n (by omega)]
/-- a slice's elements, said otherwise -/
theorem WkM.gr_den {i j n sz : Nat} {e : TypeId} {a : Option Addr} {f g : Nat → List SV} {m : Mem} (h : ∀ j, j < n → dens (f j) = dens (g j)) : WkM ((i, .gr a n e sz f) :: m) ((j, .gr a n e sz g) :: m) := fun X Z s0 R s hm => by
  have h1 : EntOK X Z s0 s (.gr a n e sz f) := hm.ent (i, .gr a n e sz f) (by simp)
  have h2 := (WkM.drop (WkM.refl m)) X Z s0 R s hm
  refine h2.cons ⟨fun j hj => ?_, ?_, h1.2.2⟩ (List.pairwise_cons.1 hm.dis).1
  · rw [← dens_length, ← h j hj, dens_length]; exact h1.1 j hj
  · rw [← slL_dens n h]; exact h1.2.1
theorem SeesE.n_eq {m : Mem} {a : Option Addr} {n n' c sz : Nat} {f : Nat → List SV} (e : n = n') (h : SeesE m (.ro a n c sz f)) : SeesE m (.ro a n' c sz f) := e ▸ h
/-- the elements of a chain -/
abbrev elS (l : List SV) (z : Nat) : List SV := [l.getD z .junk]
def QC1 (i : Nat) (co : List Int) (n0 : Nat) (w0 : SV) (mf : Mem) : Prop := ∃ a a0, w0 = .sl i a 1 1 ∧ mf = [(i, .gr a 1 71 1 (elS [.sl (i + 1) a0 n0 n0])), ((i + 1), .gr a0 n0 3 1 (pf co))]
def QC2 (i : Nat) (co : List Int) (d1 : List Int) (n0 : Nat) (n1 : Nat) (w0 : SV) (mf : Mem) : Prop := ∃ a a0 a1, w0 = .sl i a 2 2 ∧ mf = [(i, .gr a 2 71 1 (elS [.sl (i + 1) a0 n0 n0, .sl (i + 2) a1 n1 n1])), ((i + 1), .gr a0 n0 3 1 (pf co)), ((i + 2), .gr a1 n1 3 1 (pf d1))]
def QC3 (i : Nat) (co : List Int) (d1 : List Int) (r1 : List Int) (n0 : Nat) (n1 : Nat) (n2 : Nat) (w0 : SV) (mf : Mem) : Prop := ∃ a a0 a1 a2, w0 = .sl i a 3 3 ∧ mf = [(i, .gr a 3 71 1 (elS [.sl (i + 1) a0 n0 n0, .sl (i + 2) a1 n1 n1, .sl (i + 3) a2 n2 n2])), ((i + 1), .gr a0 n0 3 1 (pf co)), ((i + 2), .gr a1 n1 3 1 (pf d1)), ((i + 3), .gr a2 n2 3 1 (pf r1))]
def QC4 (i : Nat) (co : List Int) (d1 : List Int) (r1 : List Int) (r2 : List Int) (n0 : Nat) (n1 : Nat) (n2 : Nat) (n3 : Nat) (w0 : SV) (mf : Mem) : Prop := ∃ a a0 a1 a2 a3, w0 = .sl i a 4 4 ∧ mf = [(i, .gr a 4 71 1 (elS [.sl (i + 1) a0 n0 n0, .sl (i + 2) a1 n1 n1, .sl (i + 3) a2 n2 n2, .sl (i + 4) a3 n3 n3])), ((i + 1), .gr a0 n0 3 1 (pf co)), ((i + 2), .gr a1 n1 3 1 (pf d1)), ((i + 3), .gr a2 n2 3 1 (pf r1)), ((i + 4), .gr a3 n3 3 1 (pf r2))]
theorem c43_2 (F d i : Nat) (a : Option Addr) (n c : Nat) (l : List Int) (hl : l.length = n) (hn : n ≤ 4) (hF : 200 < F) (hi : ∀ j, j < n → inI (l.getD j 0)) (co : List Int) (hco : coO l = some co) (hcl : co.length ≤ 4) (hle : leB (drL co) = true) (d1 : List Int) (hd1 : leL (drL co) = d1) (s1 r1 : List Int) (hs1 : dvR co d1 = s1) (hr1 : tmL s1 (-1) = r1) (hc0 : ¬ co.length < 2) (hc1 : d1.length < 2) (hv0 : dvB co d1 = true) (R : Nat) :
    callS (CL F (d + 7)) (.fn 43 [] []) [.sl 1000 a n c] [(1000, .ro a n 4 1 (pf l))] (addL R (380000 + 400)) 0 fun w m' R' _ => (∃ w0 mf, QC2 i co d1 co.length d1.length w0 mf ∧ den w = den w0 ∧ WkM m' mf) ∧ R ≤ R' := by
  have k41 := fun R => c41 F (d + 1) 700 a n c l hl hn hF hi co hco R
  have hdl := drL_len co
  have hl1 : d1.length = co.length - 1 := by rw [← hd1, leL_len, hdl]
  have k55 := fun a R => c55 F (d + 5) 720 a co.length co.length co rfl (by omega) (by omega) R
  have hci := coO_in hco
  have k71 := fun a R => c71 F (d + 4) 710 a d1.length d1.length (drL co) (by omega) (by omega) hF (fun j hj => drL_in (by omega)) (by rw [hl1, ← hdl]; exact leB_ne hle) R
  rw [hd1] at k71
  rw [← hl1] at k55
  have e0 := decide_eq_false hc0
  have e1 := decide_eq_true hc1
  have v0 := dvB_le hv0
  have w0 := dvR_le co d1
  rw [hs1] at w0
  have hl2 : r1.length = s1.length := by rw [← hr1, tmL_len]
  have kd0 := fun a c a2 c2 R => c64n F (d + 2) 740 750 a c co co.length rfl a2 c2 d1 d1.length rfl hv0 hF R
  rw [hs1] at kd0
  generalize dvQ co d1 = q0 at kd0
  have km0 := fun a R => c67 F (d + 4) 732 a s1.length s1.length s1 rfl (by omega) (by omega) (-1) R
  rw [hr1] at km0
  rw [show 380000 + 400 = (380000) + 400 from rfl, addL_eq, ← Nat.add_assoc, ← addL_eq _ 400, Nat.add_comm R (380000)]
  clear hd1 hs1 hr1
  refine call_in (n := 11) Try.func43 rfl rfl rfl rfl rfl rfl rfl ?_
  repeat' ((conv => whnf); first | refine eqS_rfl ?_ | refine eqA_rfl ?_ | refine eqA_of (by assumption) ?_ | refine eqS_of (by rfl) ?_ | refine eqL_rfl ?_ | refine eqJ_rfl ?_ | refine gE ?_ | refine seS_rfl ?_ | refine lsS_of hup ?_ | refine lsS_rfl ?_ | refine brS_tt ?_ | refine brS_ff ?_ | refine brS_not ?_ | refine gI ?_ | refine gT ?_ | refine gF ?_ | refine brS_intro (fun _ => ?_) (fun _ => ?_) | refine gL ?_ | refine gX ?_ | refine gO ?_ | refine gN ?_ | refine gM ?_ | refine gY ?_ | refine call67 700 k41 (addL (140000 + R) 60) (by rfl) (by exact SeesM.cons 1000 (sees_ro (i := 1000) (by rfl)) (SeesM.nil _) (fun _ _ _ _ _ _ x hx => by cases hx)) (nM1) ?_ | refine call67 720 (k55 _) (addL (139000 + R) 60) (by rfl) (by exact SeesM.cons 1000 (sees_gr (i := 700) (by rfl)) (SeesM.nil _) (fun _ _ _ _ _ _ x hx => by cases hx)) (nM1) ?_ | refine call67 710 (k71 _) (addL (130000 + R) 60) (by rfl) (by exact SeesM.cons 1000 (sees_gr (i := 720) (by rfl)) (SeesM.nil _) (fun _ _ _ _ _ _ x hx => by cases hx)) (nM1) ?_ | refine call64 740 750 (kd0 _ _ _ _) (addL (90000 + R) 60) (by rfl) (by exact SeesM.cons 1000 (sees_gr (i := 700) (by rfl)) (SeesM.cons 1001 (sees_gr (i := 710) (by rfl)) (SeesM.nil _) (fun _ _ _ _ _ _ x hx => by cases hx)) (fun _ _ _ _ _ _ x hx => by rcases List.mem_singleton.1 hx with rfl; exact fun _ h => h)) (nM1) ?_ | refine call67 732 (km0 _) (addL (89000 + R) 60) (by rfl) (by exact SeesM.cons 1000 (sees_gr (i := 750) (by rfl)) (SeesM.nil _) (fun _ _ _ _ _ _ x hx => by cases hx)) (nM1) ?_ | refine call_pure (c79 F _ _ _ _ _) ?_ | refine flE_intro (fun j hj => by match j, hj with | 0, _ => rfl | 1, _ => rfl | 2, _ => rfl | j + 3, hj => exact absurd (Nat.lt_of_lt_of_le hj (show _ ≤ 3 by decide)) (Nat.not_lt_of_le (Nat.le_add_left 3 j))) ?_ | refine call_in (n := 23) Try.func70 rfl rfl rfl rfl rfl rfl rfl ?_ | refine call_in (n := 9) Try.func86 rfl rfl rfl rfl rfl rfl rfl ?_ | refine ltS_intro oM1 ?_ | refine emS_0 ?_ | refine emS_p oM1 ?_ | refine emS_z rfl ?_ | intro _)
  rename_i ac x2 a1 q0x s0x x5 b1 b2 az
  conv => whnf
  exact ⟨⟨_, _, ⟨az, ac, a1, rfl, rfl⟩, rfl, (WkM.gr_den (j := i) (g := elS [.sl (i + 1) ac co.length co.length, .sl (i + 2) a1 d1.length d1.length]) (fun j hj => by match j, hj with | 0, _ => rfl | 1, _ => rfl | j + 2, hj => exact absurd hj (by show ¬ j + 2 < 2; omega))).trans WS⟩, nM1⟩
theorem c43_3 (F d i : Nat) (a : Option Addr) (n c : Nat) (l : List Int) (hl : l.length = n) (hn : n ≤ 4) (hF : 200 < F) (hi : ∀ j, j < n → inI (l.getD j 0)) (co : List Int) (hco : coO l = some co) (hcl : co.length ≤ 4) (hle : leB (drL co) = true) (d1 : List Int) (hd1 : leL (drL co) = d1) (s1 r1 : List Int) (hs1 : dvR co d1 = s1) (hr1 : tmL s1 (-1) = r1) (s2 r2 : List Int) (hs2 : dvR d1 r1 = s2) (hr2 : tmL s2 (-1) = r2) (hc0 : ¬ co.length < 2) (hc1 : ¬ d1.length < 2) (hc2 : s1.length < 2) (hv0 : dvB co d1 = true) (hv1 : dvB d1 r1 = true) (R : Nat) :
    callS (CL F (d + 7)) (.fn 43 [] []) [.sl 1000 a n c] [(1000, .ro a n 4 1 (pf l))] (addL R (380000 + 400)) 0 fun w m' R' _ => (∃ w0 mf, QC3 i co d1 r1 co.length d1.length s1.length w0 mf ∧ den w = den w0 ∧ WkM m' mf) ∧ R ≤ R' := by
  have k41 := fun R => c41 F (d + 1) 700 a n c l hl hn hF hi co hco R
  have hdl := drL_len co
  have hl1 : d1.length = co.length - 1 := by rw [← hd1, leL_len, hdl]
  have k55 := fun a R => c55 F (d + 5) 720 a co.length co.length co rfl (by omega) (by omega) R
  have hci := coO_in hco
  have k71 := fun a R => c71 F (d + 4) 710 a d1.length d1.length (drL co) (by omega) (by omega) hF (fun j hj => drL_in (by omega)) (by rw [hl1, ← hdl]; exact leB_ne hle) R
  rw [hd1] at k71
  rw [← hl1] at k55
  have e0 := decide_eq_false hc0
  have e1 := decide_eq_false hc1
  have e2 := decide_eq_true hc2
  have v0 := dvB_le hv0
  have w0 := dvR_le co d1
  rw [hs1] at w0
  have hl2 : r1.length = s1.length := by rw [← hr1, tmL_len]
  have kd0 := fun a c a2 c2 R => c64n F (d + 2) 740 750 a c co co.length rfl a2 c2 d1 d1.length rfl hv0 hF R
  rw [hs1] at kd0
  generalize dvQ co d1 = q0 at kd0
  have km0 := fun a R => c67 F (d + 4) 732 a s1.length s1.length s1 rfl (by omega) (by omega) (-1) R
  rw [hr1] at km0
  have v1 := dvB_le hv1
  have w1 := dvR_le d1 r1
  rw [hs2] at w1
  have hl3 : r2.length = s2.length := by rw [← hr2, tmL_len]
  have kd1 := fun a c a2 c2 R => c64n F (d + 1) 741 751 a c d1 d1.length rfl a2 c2 r1 s1.length hl2 hv1 hF R
  rw [hs2] at kd1
  generalize dvQ d1 r1 = q1 at kd1
  have km1 := fun a R => c67 F (d + 3) 733 a s2.length s2.length s2 rfl (by omega) (by omega) (-1) R
  rw [hr2] at km1
  rw [show 380000 + 400 = (380000) + 400 from rfl, addL_eq, ← Nat.add_assoc, ← addL_eq _ 400, Nat.add_comm R (380000)]
  clear hd1 hs1 hr1 hs2 hr2
  refine call_in (n := 11) Try.func43 rfl rfl rfl rfl rfl rfl rfl ?_
  repeat' ((conv => whnf); first | refine eqS_rfl ?_ | refine eqA_rfl ?_ | refine eqA_of (by assumption) ?_ | refine eqS_of (by rfl) ?_ | refine eqL_rfl ?_ | refine eqJ_rfl ?_ | refine gE ?_ | refine seS_rfl ?_ | refine lsS_of hup ?_ | refine lsS_rfl ?_ | refine brS_tt ?_ | refine brS_ff ?_ | refine brS_not ?_ | refine gI ?_ | refine gT ?_ | refine gF ?_ | refine brS_intro (fun _ => ?_) (fun _ => ?_) | refine gL ?_ | refine gX ?_ | refine gO ?_ | refine gN ?_ | refine gM ?_ | refine gY ?_ | refine call67 700 k41 (addL (140000 + R) 60) (by rfl) (by exact SeesM.cons 1000 (sees_ro (i := 1000) (by rfl)) (SeesM.nil _) (fun _ _ _ _ _ _ x hx => by cases hx)) (nM1) ?_ | refine call67 720 (k55 _) (addL (139000 + R) 60) (by rfl) (by exact SeesM.cons 1000 (sees_gr (i := 700) (by rfl)) (SeesM.nil _) (fun _ _ _ _ _ _ x hx => by cases hx)) (nM1) ?_ | refine call67 710 (k71 _) (addL (130000 + R) 60) (by rfl) (by exact SeesM.cons 1000 (sees_gr (i := 720) (by rfl)) (SeesM.nil _) (fun _ _ _ _ _ _ x hx => by cases hx)) (nM1) ?_ | refine call64 740 750 (kd0 _ _ _ _) (addL (90000 + R) 60) (by rfl) (by exact SeesM.cons 1000 (sees_gr (i := 700) (by rfl)) (SeesM.cons 1001 (sees_gr (i := 710) (by rfl)) (SeesM.nil _) (fun _ _ _ _ _ _ x hx => by cases hx)) (fun _ _ _ _ _ _ x hx => by rcases List.mem_singleton.1 hx with rfl; exact fun _ h => h)) (nM1) ?_ | refine call67 732 (km0 _) (addL (89000 + R) 60) (by rfl) (by exact SeesM.cons 1000 (sees_gr (i := 750) (by rfl)) (SeesM.nil _) (fun _ _ _ _ _ _ x hx => by cases hx)) (nM1) ?_ | refine call64 741 751 (kd1 _ _ _ _) (addL (60000 + R) 60) (by rfl) (by exact SeesM.cons 1000 (sees_gr (i := 710) (by rfl)) (SeesM.cons 1001 (sees_gr (i := 732) (by rfl)) (SeesM.nil _) (fun _ _ _ _ _ _ x hx => by cases hx)) (fun _ _ _ _ _ _ x hx => by rcases List.mem_singleton.1 hx with rfl; exact fun _ h => h)) (nM1) ?_ | refine call67 733 (km1 _) (addL (59000 + R) 60) (by rfl) (by exact SeesM.cons 1000 (sees_gr (i := 751) (by rfl)) (SeesM.nil _) (fun _ _ _ _ _ _ x hx => by cases hx)) (nM1) ?_ | refine call_pure (c79 F _ _ _ _ _) ?_ | refine flE_intro (fun j hj => by match j, hj with | 0, _ => rfl | 1, _ => rfl | 2, _ => rfl | j + 3, hj => exact absurd (Nat.lt_of_lt_of_le hj (show _ ≤ 3 by decide)) (Nat.not_lt_of_le (Nat.le_add_left 3 j))) ?_ | refine call_in (n := 23) Try.func70 rfl rfl rfl rfl rfl rfl rfl ?_ | refine call_in (n := 9) Try.func86 rfl rfl rfl rfl rfl rfl rfl ?_ | refine ltS_intro oM1 ?_ | refine emS_0 ?_ | refine emS_p oM1 ?_ | refine emS_z rfl ?_ | intro _)
  rename_i ac x2 a1 q0x s0x a2 q1x s1x x5 b1 b2 az1 b3 az
  conv => whnf
  exact ⟨⟨_, _, ⟨az, ac, a1, a2, rfl, rfl⟩, rfl, (WkM.gr_den (j := i) (g := elS [.sl (i + 1) ac co.length co.length, .sl (i + 2) a1 d1.length d1.length, .sl (i + 3) a2 s1.length s1.length]) (fun j hj => by match j, hj with | 0, _ => rfl | 1, _ => rfl | 2, _ => rfl | j + 3, hj => exact absurd hj (by show ¬ j + 3 < 3; omega))).trans WS⟩, nM1⟩
end Go.Proofs.Ytpncjgiojoehkaa
