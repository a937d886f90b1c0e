/- Two functions of the library at this program: strings.IndexByte and strings.Join by the library's contracts. -/
import Derived.Test.YtfcgfnlifdjfjaaProg
import Derived.Test.YtfcgfnlifdjfjaaEngUd
import Derived.Test.YtfcgfnlifdjfjaaEngUa
import Derived.Test.YtfcgfnlifdjfjaaEngY
import Derived.Test.YtfcgfnlifdjfjaaEngQc
import Derived.KernelRfl
import Derived.Shelf.Small.Strs
import Derived.Shelf.Strings.OnBuilder
namespace Go.Proofs.Ytfcgfnlifdjfjaa
open Go.Ab Go.Shelf Go.RowKit
def laysIndex_ren : Go.Shelf.Ren := ⟨fun | 137 => 80 | 217 => 92 | 266 => 94 | n => n, fun | 9 => 9 | 5 => 5 | 3 => 3 | n => n, fun | n => n⟩
theorem laysIndex : Go.Proofs.Lays.n137 Try.prog laysIndex_ren := {
  mixed := by kernel_rfl
  f137 := Try.func80.trans (congrArg some (by kernel_rfl))
  f217 := Try.func92.trans (congrArg some (by kernel_rfl))
  f266 := Try.func94.trans (congrArg some (by kernel_rfl))
  t3 := Try.underlying3
  a3 := Try.isAgg3
  z3 := Try.sizeOf3
  v3 := Try.zeroValue3
  t5 := Try.underlying5
  a5 := Try.isAgg5
  z5 := Try.sizeOf5
  v5 := Try.zeroValue5
  t9 := Try.underlying9
  a9 := Try.isAgg9
  z9 := Try.sizeOf9
  v9 := Try.zeroValue9 }

def laysJoin_ren : Go.Shelf.Ren := ⟨fun | 156 => 54 | 165 => 63 | 166 => 64 | 169 => 65 | 240 => 78 | 241 => 79 | 276 => 90 | 277 => 91 | n => n, fun | 31 => 26 | 9 => 9 | 3 => 3 | 4 => 4 | 0 => 0 | 20 => 20 | 72 => 82 | 76 => 86 | 70 => 80 | 37 => 51 | 75 => 85 | 127 => 101 | 164 => 111 | 5 => 5 | 80 => 88 | n => n, fun | n => n⟩
theorem laysJoin : Go.Proofs.Lays.n156 Try.prog laysJoin_ren := {
  mixed := by kernel_rfl
  f156 := Try.func54.trans (congrArg some (by kernel_rfl))
  f165 := Try.func63.trans (congrArg some (by kernel_rfl))
  f166 := Try.func64.trans (congrArg some (by kernel_rfl))
  f169 := Try.func65.trans (congrArg some (by kernel_rfl))
  f240 := Try.func78.trans (congrArg some (by kernel_rfl))
  f241 := Try.func79.trans (congrArg some (by kernel_rfl))
  f276 := Try.func90.trans (congrArg some (by kernel_rfl))
  f277 := Try.func91.trans (congrArg some (by kernel_rfl))
  t0 := Try.underlying0
  a0 := Try.isAgg0
  z0 := Try.sizeOf0
  v0 := Try.zeroValue0
  t3 := Try.underlying3
  a3 := Try.isAgg3
  z3 := Try.sizeOf3
  v3 := Try.zeroValue3
  t4 := Try.underlying4
  a4 := Try.isAgg4
  z4 := Try.sizeOf4
  v4 := Try.zeroValue4
  t9 := Try.underlying9
  a9 := Try.isAgg9
  z9 := Try.sizeOf9
  v9 := Try.zeroValue9
  t20 := Try.underlying20
  a20 := Try.isAgg20
  z20 := Try.sizeOf20
  v20 := Try.zeroValue20
  t31 := Try.underlying26
  a31 := Try.isAgg26
  z31 := Try.sizeOf26
  v31 := Try.zeroValue26
  t37 := Try.underlying51
  a37 := Try.isAgg51
  z37 := Try.sizeOf51
  v37 := Try.zeroValue51
  t70 := Try.underlying80
  a70 := Try.isAgg80
  z70 := Try.sizeOf80
  v70 := Try.zeroValue80
  t72 := Try.underlying82
  a72 := Try.isAgg82
  z72 := Try.sizeOf82
  v72 := Try.zeroValue82
  t75 := Try.underlying85
  a75 := Try.isAgg85
  z75 := Try.sizeOf85
  v75 := Try.zeroValue85
  t76 := Try.underlying86
  a76 := Try.isAgg86
  z76 := Try.sizeOf86
  v76 := Try.zeroValue86
  t127 := Try.underlying101
  a127 := Try.isAgg101
  z127 := Try.sizeOf101
  v127 := Try.zeroValue101
  t164 := Try.underlying111
  a164 := Try.isAgg111
  z164 := Try.sizeOf111
  v164 := Try.zeroValue111 }


theorem extra : Builder.Extra Try.prog laysJoin_ren := {
  sizeBuilder := by kernel_rfl
  liesBuilder := by kernel_rfl
  t5 := Try.underlying5
  a5 := Try.isAgg5
  z5 := Try.sizeOf5
  v5 := Try.zeroValue5
  infoByte := by kernel_rfl
  cellsByte := by kernel_rfl
  sizeByte := by kernel_rfl
  neB5 := by decide }
theorem join_catB : ∀ xs : List ByteArray, Lib.join (xs.map (·.data.toList)) [] = catB xs
  | [] => rfl
  | [x] => by simp [Lib.join, catB, List.intercalate]
  | x :: y :: r => by
    have h := join_catB (y :: r)
    simp only [Lib.join, List.intercalate, List.map_cons] at h ⊢
    rw [catB, ← h]
    simp [List.intersperse]
theorem lib_ok : LibH Try.prog 80 54 := {
  bi := ⟨_, Try.func80, by kernel_rfl⟩
  bj := ⟨_, Try.func54, by kernel_rfl⟩
  idx := fun s c W => Any.strings_IndexByte laysIndex s c W
  joi := fun bk o c xs W hcells hbk hN hcap hlen => by
    have h := Any.strings_Join laysJoin extra bk o c xs ⟨#[]⟩ W hcells hbk (by omega) hcap (by show (Lib.join _ []).length ≤ _; rw [join_catB]; omega)
    have e : Lib.join (xs.map (·.data.toList)) (ByteArray.data ⟨#[]⟩).toList = catB xs := join_catB xs
    rw [e] at h
    exact h }
def noGor (P : Program) : Bool := P.funcs.toList.all fun fn => !(fn.name == "runtime.NumGoroutine")
theorem no_gor : noGor Try.prog = true := by kernel_rfl
theorem name_ok : NameH Try.prog := fun f fn hf hn => by
  have h := no_gor
  unfold noGor at h
  rw [List.all_eq_true] at h
  have := h fn (by rw [Array.mem_toList_iff]; exact Array.mem_of_getElem? hf)
  rw [hn] at this
  simp at this
theorem mixed : Try.prog.follows .mixedOrders = true := by kernel_rfl
theorem draws : DrawH Try.prog := draw_ok mixed
def ext0 : CallT → CallT := fun call => extL 80 54 call
theorem ext0_ok : ∀ call, CallOK Try.prog call → CallOK Try.prog (ext0 call) := fun call h => extL_ok name_ok lib_ok call h
end Go.Proofs.Ytfcgfnlifdjfjaa
