/- Open runs: the law. -/
import Derived.Test.YtkkmgaigingmpaaOpenL
namespace Go.Proofs.Ytkkmgaigingmpaa
open Go.Ab
attribute [local irreducible] iLt iEq wr runLoop ld1 ldN callF Ab.stN Ab.st1
set_option maxRecDepth 100000
set_option maxHeartbeats 4000000

theorem given17 (F : Nat) (call : CallT) (s : St) (hs : s.nx + 10 < 262144) (e : Int) (v : Value) (hv : flat1 v = true) : Sat (fun K => (cFun Try.prog F 17).run call [.agg ⟨[.int .i64 e, v]⟩] K s) fun x s' => Kp 2 s s' ∧ x = .agg ⟨[.int .i64 e, v]⟩ := by
  intro K r hK
  change (cFun Try.prog F 17).run call [.agg ⟨[.int .i64 e, v]⟩] K s = r
  conv => lhs; whnf
  rw [blt_of (show s.nx < 262144 by omega)]
  generalize hs1 : s.push _ = s1
  have hP : Own s1 s.nx [.int .i64 e, v] := by subst hs1; exact Own.push (l := [.int .i64 e, v]) (by show 2 ≤ 32768; omega) (by omega) rfl
  have ks1 : Kp 1 s s1 := by subst hs1; exact Kp.push _ (by omega)
  clear hs1
  have ns1 := ks1.2
  conv => lhs; whnf
  rw [blt_of (show s1.nx < 262144 by omega)]
  generalize hs2 : s1.push _ = s2
  have hR : Own s2 s1.nx [.int .i64 0, .slice none 0 0] := by subst hs2; exact Own.push (l := [.int .i64 0, .slice none 0 0]) (by show 2 ≤ 32768; omega) (by omega) rfl
  have ks2 : Kp 1 s1 s2 := by subst hs2; exact Kp.push _ (by omega)
  clear hs2
  have ns2 := ks2.2
  conv => lhs; whnf
  have b1 := hP.1
  have hP2 := (hP.keep ks2.1).at
  have hl : ([.int .i64 e, v] : List Value).all flat1 = true := by show (flat1 (.int .i64 e) && (flat1 v && true)) = true; rw [hv]; rfl
  refine Eq.trans (hP2.ldN rfl rfl _) ?_
  conv => lhs; whnf
  refine hR.stN (o := 0) (l := [.int .i64 e, v]) (by show 0 + 2 ≤ 2; omega) hl ?_ rfl
  intro s3 n3 k3 o3 hR3
  have k3 := k3 s (by omega) (ks1.1.trans ks2.1)
  have hR3 : Own s3 s1.nx [.int .i64 e, v] := hR3
  conv => lhs; whnf
  refine Eq.trans (hR3.at.ldN rfl rfl _) ?_
  conv => lhs; whnf
  exact hK _ _ ⟨⟨k3, by omega⟩, rfl⟩

theorem weights28 (F : Nat) (call : CallT) (s : St) (hs : s.nx + 10 < 262144) (e : Int) (v : Value) (hv : flat1 v = true) : Sat (fun K => (cFun Try.prog F 28).run call [.agg ⟨[.int .i64 e, v]⟩] K s) fun x s' => Kp 2 s s' ∧ x = .agg ⟨[.int .i64 e, v]⟩ := by
  intro K r hK
  change (cFun Try.prog F 28).run call [.agg ⟨[.int .i64 e, v]⟩] K s = r
  conv => lhs; whnf
  rw [blt_of (show s.nx < 262144 by omega)]
  generalize hs1 : s.push _ = s1
  have hP : Own s1 s.nx [.int .i64 e, v] := by subst hs1; exact Own.push (l := [.int .i64 e, v]) (by show 2 ≤ 32768; omega) (by omega) rfl
  have ks1 : Kp 1 s s1 := by subst hs1; exact Kp.push _ (by omega)
  clear hs1
  have ns1 := ks1.2
  conv => lhs; whnf
  rw [blt_of (show s1.nx < 262144 by omega)]
  generalize hs2 : s1.push _ = s2
  have hR : Own s2 s1.nx [.int .i64 0, .slice none 0 0] := by subst hs2; exact Own.push (l := [.int .i64 0, .slice none 0 0]) (by show 2 ≤ 32768; omega) (by omega) rfl
  have ks2 : Kp 1 s1 s2 := by subst hs2; exact Kp.push _ (by omega)
  clear hs2
  have ns2 := ks2.2
  conv => lhs; whnf
  have b1 := hP.1
  have hP2 := (hP.keep ks2.1).at
  have hl : ([.int .i64 e, v] : List Value).all flat1 = true := by show (flat1 (.int .i64 e) && (flat1 v && true)) = true; rw [hv]; rfl
  refine Eq.trans (hP2.ldN rfl rfl _) ?_
  conv => lhs; whnf
  refine hR.stN (o := 0) (l := [.int .i64 e, v]) (by show 0 + 2 ≤ 2; omega) hl ?_ rfl
  intro s3 n3 k3 o3 hR3
  have k3 := k3 s (by omega) (ks1.1.trans ks2.1)
  have hR3 : Own s3 s1.nx [.int .i64 e, v] := hR3
  conv => lhs; whnf
  refine Eq.trans (hR3.at.ldN rfl rfl _) ?_
  conv => lhs; whnf
  exact hK _ _ ⟨⟨k3, by omega⟩, rfl⟩

end Go.Proofs.Ytkkmgaigingmpaa
