/-
  No cell of these rows narrows 'for every input' (looked for: loops, veiled, ifaces, maps, wideKeys, modest, calm, conditions, laid).
  DERIVED. THE GIVEN ROWS OF THIS SEAT. 12 by the template 'for every input the law returns true; each argument reads behind the call as it read before'; 0 by the template 'total and deterministic' (their statements: YtkkmgaigingmpaaTotals.lean).
  GIVEN WITH THE SEED: the statements are not yours to turn. If you find one false, say at which input.
  Laid BY PROGRAM, IN A SANDBOX (cutbox-rows.mjs): the forced cells as the released guide's own fill.sh prints them over the translation 0e75f6b9ac66dc78… (all of the seat's roots in one cut). By AI agents, Wed Nov 11 2026. No macro, syntax, notation, axiom, sorry.
-/
import Derived.Test.YtkkmgaigingmpaaChecked
import GoSem.Claim
import GoSem.ClaimJoined
import GoSem.ClaimMapViews
import Derived.JoinedTies
import Derived.KernelRfl
namespace Go.Proofs.Ytkkmgaigingmpaa
/- THE CELL 'sum', in the pinned program and in every row, IS THE sha256 OF THE DUMP (.gsa) THAT YtkkmgaigingmpaaProg.lean LOADS. Nothing in Lean hashes anything: it is a label: what it is worth is what the hold of that sum in a sandbox is worth. -/
noncomputable def Try.pinned : Pinned := { name := "ytkkmgaigingmpaa", sum := "0e75f6b9ac66dc78a84e6a1998bd0f9f6307fd297b36fa579e9fab19ae33429f", checked := Try.checked }
namespace Rows
def none {H : Type} : Left H := { results := [], args := [] }

/-- 'agoniclaw01.PillarWeights': WHATEVER THE INPUT: true; the input reads as it did. -/
def pillarWeightsSpec : ChangeSpec := { name := "pillarWeights", fn := fun _ => fun
  | [d1, d2, d3] => { results := [.lit (.bool true)], args := [d1, d2, d3] }
  | _ => none }
def pillarWeightsRow : OpenClaim := { program := "ytkkmgaigingmpaa", sum := "0e75f6b9ac66dc78a84e6a1998bd0f9f6307fd297b36fa579e9fab19ae33429f", func := "agonic/agoniclaw01.PillarWeights", spec := "pillarWeights", unfollowed := true, recurses := true, apart := false }
def PillarWeightsSaid : Prop := pillarWeightsRow.holds Try.pinned (OpenSpec.ofChange pillarWeightsSpec)

/-- ITS FALSE NEIGHBOUR: 'it returns false'. Refute it at one input. -/
def pillarWeightsWrong : ChangeSpec := { name := "pillarWeights", fn := fun _ => fun
  | [d1, d2, d3] => { results := [.lit (.bool false)], args := [d1, d2, d3] }
  | _ => none }
def PillarWeightsWrongFalsely : Prop := pillarWeightsRow.holds Try.pinned (OpenSpec.ofChange pillarWeightsWrong)

/-- 'agoniclaw01.PillarBounds': WHATEVER THE INPUT: true; the input reads as it did. -/
def pillarBoundsSpec : ChangeSpec := { name := "pillarBounds", fn := fun _ => fun
  | [d1, d2, d3] => { results := [.lit (.bool true)], args := [d1, d2, d3] }
  | _ => none }
def pillarBoundsRow : OpenClaim := { program := "ytkkmgaigingmpaa", sum := "0e75f6b9ac66dc78a84e6a1998bd0f9f6307fd297b36fa579e9fab19ae33429f", func := "agonic/agoniclaw01.PillarBounds", spec := "pillarBounds", unfollowed := true, recurses := true, apart := false }
def PillarBoundsSaid : Prop := pillarBoundsRow.holds Try.pinned (OpenSpec.ofChange pillarBoundsSpec)

/-- ITS FALSE NEIGHBOUR: 'it returns false'. Refute it at one input. -/
def pillarBoundsWrong : ChangeSpec := { name := "pillarBounds", fn := fun _ => fun
  | [d1, d2, d3] => { results := [.lit (.bool false)], args := [d1, d2, d3] }
  | _ => none }
def PillarBoundsWrongFalsely : Prop := pillarBoundsRow.holds Try.pinned (OpenSpec.ofChange pillarBoundsWrong)

/-- 'agoniclaw01.PillarValues': WHATEVER THE INPUT: true; the input reads as it did. -/
def pillarValuesSpec : ChangeSpec := { name := "pillarValues", fn := fun _ => fun
  | [d1, d2] => { results := [.lit (.bool true)], args := [d1, d2] }
  | _ => none }
def pillarValuesRow : OpenClaim := { program := "ytkkmgaigingmpaa", sum := "0e75f6b9ac66dc78a84e6a1998bd0f9f6307fd297b36fa579e9fab19ae33429f", func := "agonic/agoniclaw01.PillarValues", spec := "pillarValues", unfollowed := true, recurses := true, apart := false }
def PillarValuesSaid : Prop := pillarValuesRow.holds Try.pinned (OpenSpec.ofChange pillarValuesSpec)

/-- ITS FALSE NEIGHBOUR: 'it returns false'. Refute it at one input. -/
def pillarValuesWrong : ChangeSpec := { name := "pillarValues", fn := fun _ => fun
  | [d1, d2] => { results := [.lit (.bool false)], args := [d1, d2] }
  | _ => none }
def PillarValuesWrongFalsely : Prop := pillarValuesRow.holds Try.pinned (OpenSpec.ofChange pillarValuesWrong)

/-- 'agoniclaw01.PillarClashes': WHATEVER THE INPUT: true; the input reads as it did. -/
def pillarClashesSpec : ChangeSpec := { name := "pillarClashes", fn := fun _ => fun
  | [d1, d2, d3] => { results := [.lit (.bool true)], args := [d1, d2, d3] }
  | _ => none }
def pillarClashesRow : OpenClaim := { program := "ytkkmgaigingmpaa", sum := "0e75f6b9ac66dc78a84e6a1998bd0f9f6307fd297b36fa579e9fab19ae33429f", func := "agonic/agoniclaw01.PillarClashes", spec := "pillarClashes", unfollowed := true, recurses := true, apart := false }
def PillarClashesSaid : Prop := pillarClashesRow.holds Try.pinned (OpenSpec.ofChange pillarClashesSpec)

/-- ITS FALSE NEIGHBOUR: 'it returns false'. Refute it at one input. -/
def pillarClashesWrong : ChangeSpec := { name := "pillarClashes", fn := fun _ => fun
  | [d1, d2, d3] => { results := [.lit (.bool false)], args := [d1, d2, d3] }
  | _ => none }
def PillarClashesWrongFalsely : Prop := pillarClashesRow.holds Try.pinned (OpenSpec.ofChange pillarClashesWrong)

/-- 'agoniclaw01.PillarEither': WHATEVER THE INPUT: true; the input reads as it did. -/
def pillarEitherSpec : ChangeSpec := { name := "pillarEither", fn := fun _ => fun
  | [d1, d2, d3] => { results := [.lit (.bool true)], args := [d1, d2, d3] }
  | _ => none }
def pillarEitherRow : OpenClaim := { program := "ytkkmgaigingmpaa", sum := "0e75f6b9ac66dc78a84e6a1998bd0f9f6307fd297b36fa579e9fab19ae33429f", func := "agonic/agoniclaw01.PillarEither", spec := "pillarEither", unfollowed := true, recurses := true, apart := false }
def PillarEitherSaid : Prop := pillarEitherRow.holds Try.pinned (OpenSpec.ofChange pillarEitherSpec)

/-- ITS FALSE NEIGHBOUR: 'it returns false'. Refute it at one input. -/
def pillarEitherWrong : ChangeSpec := { name := "pillarEither", fn := fun _ => fun
  | [d1, d2, d3] => { results := [.lit (.bool false)], args := [d1, d2, d3] }
  | _ => none }
def PillarEitherWrongFalsely : Prop := pillarEitherRow.holds Try.pinned (OpenSpec.ofChange pillarEitherWrong)

/-- 'agoniclaw01.PillarTruth': WHATEVER THE INPUT: true; the input reads as it did. -/
def pillarTruthSpec : ChangeSpec := { name := "pillarTruth", fn := fun _ => fun
  | [d1, d2, d3] => { results := [.lit (.bool true)], args := [d1, d2, d3] }
  | _ => none }
def pillarTruthRow : OpenClaim := { program := "ytkkmgaigingmpaa", sum := "0e75f6b9ac66dc78a84e6a1998bd0f9f6307fd297b36fa579e9fab19ae33429f", func := "agonic/agoniclaw01.PillarTruth", spec := "pillarTruth", unfollowed := true, recurses := true, apart := false }
def PillarTruthSaid : Prop := pillarTruthRow.holds Try.pinned (OpenSpec.ofChange pillarTruthSpec)

/-- ITS FALSE NEIGHBOUR: 'it returns false'. Refute it at one input. -/
def pillarTruthWrong : ChangeSpec := { name := "pillarTruth", fn := fun _ => fun
  | [d1, d2, d3] => { results := [.lit (.bool false)], args := [d1, d2, d3] }
  | _ => none }
def PillarTruthWrongFalsely : Prop := pillarTruthRow.holds Try.pinned (OpenSpec.ofChange pillarTruthWrong)

/-- 'agoniclaw01.PillarSharp': WHATEVER THE INPUT: true; the input reads as it did. -/
def pillarSharpSpec : ChangeSpec := { name := "pillarSharp", fn := fun _ => fun
  | [d1, d2, d3] => { results := [.lit (.bool true)], args := [d1, d2, d3] }
  | _ => none }
def pillarSharpRow : OpenClaim := { program := "ytkkmgaigingmpaa", sum := "0e75f6b9ac66dc78a84e6a1998bd0f9f6307fd297b36fa579e9fab19ae33429f", func := "agonic/agoniclaw01.PillarSharp", spec := "pillarSharp", unfollowed := true, recurses := true, apart := false }
def PillarSharpSaid : Prop := pillarSharpRow.holds Try.pinned (OpenSpec.ofChange pillarSharpSpec)

/-- ITS FALSE NEIGHBOUR: 'it returns false'. Refute it at one input. -/
def pillarSharpWrong : ChangeSpec := { name := "pillarSharp", fn := fun _ => fun
  | [d1, d2, d3] => { results := [.lit (.bool false)], args := [d1, d2, d3] }
  | _ => none }
def PillarSharpWrongFalsely : Prop := pillarSharpRow.holds Try.pinned (OpenSpec.ofChange pillarSharpWrong)

/-- 'agoniclaw01.PillarClash': WHATEVER THE INPUT: true; the input reads as it did. -/
def pillarClashSpec : ChangeSpec := { name := "pillarClash", fn := fun _ => fun
  | [d1, d2, d3] => { results := [.lit (.bool true)], args := [d1, d2, d3] }
  | _ => none }
def pillarClashRow : OpenClaim := { program := "ytkkmgaigingmpaa", sum := "0e75f6b9ac66dc78a84e6a1998bd0f9f6307fd297b36fa579e9fab19ae33429f", func := "agonic/agoniclaw01.PillarClash", spec := "pillarClash", unfollowed := true, recurses := true, apart := false }
def PillarClashSaid : Prop := pillarClashRow.holds Try.pinned (OpenSpec.ofChange pillarClashSpec)

/-- ITS FALSE NEIGHBOUR: 'it returns false'. Refute it at one input. -/
def pillarClashWrong : ChangeSpec := { name := "pillarClash", fn := fun _ => fun
  | [d1, d2, d3] => { results := [.lit (.bool false)], args := [d1, d2, d3] }
  | _ => none }
def PillarClashWrongFalsely : Prop := pillarClashRow.holds Try.pinned (OpenSpec.ofChange pillarClashWrong)

/-- 'agoniclaw01.PillarReversed': WHATEVER THE INPUT: true; the input reads as it did. -/
def pillarReversedSpec : ChangeSpec := { name := "pillarReversed", fn := fun _ => fun
  | [d1, d2] => { results := [.lit (.bool true)], args := [d1, d2] }
  | _ => none }
def pillarReversedRow : OpenClaim := { program := "ytkkmgaigingmpaa", sum := "0e75f6b9ac66dc78a84e6a1998bd0f9f6307fd297b36fa579e9fab19ae33429f", func := "agonic/agoniclaw01.PillarReversed", spec := "pillarReversed", unfollowed := true, recurses := true, apart := false }
def PillarReversedSaid : Prop := pillarReversedRow.holds Try.pinned (OpenSpec.ofChange pillarReversedSpec)

/-- ITS FALSE NEIGHBOUR: 'it returns false'. Refute it at one input. -/
def pillarReversedWrong : ChangeSpec := { name := "pillarReversed", fn := fun _ => fun
  | [d1, d2] => { results := [.lit (.bool false)], args := [d1, d2] }
  | _ => none }
def PillarReversedWrongFalsely : Prop := pillarReversedRow.holds Try.pinned (OpenSpec.ofChange pillarReversedWrong)

/-- 'agoniclaw01.PillarTurned': WHATEVER THE INPUT: true; the input reads as it did. -/
def pillarTurnedSpec : ChangeSpec := { name := "pillarTurned", fn := fun _ => fun
  | [d1, d2, d3, d4] => { results := [.lit (.bool true)], args := [d1, d2, d3, d4] }
  | _ => none }
def pillarTurnedRow : OpenClaim := { program := "ytkkmgaigingmpaa", sum := "0e75f6b9ac66dc78a84e6a1998bd0f9f6307fd297b36fa579e9fab19ae33429f", func := "agonic/agoniclaw01.PillarTurned", spec := "pillarTurned", unfollowed := true, recurses := true, apart := false }
def PillarTurnedSaid : Prop := pillarTurnedRow.holds Try.pinned (OpenSpec.ofChange pillarTurnedSpec)

/-- ITS FALSE NEIGHBOUR: 'it returns false'. Refute it at one input. -/
def pillarTurnedWrong : ChangeSpec := { name := "pillarTurned", fn := fun _ => fun
  | [d1, d2, d3, d4] => { results := [.lit (.bool false)], args := [d1, d2, d3, d4] }
  | _ => none }
def PillarTurnedWrongFalsely : Prop := pillarTurnedRow.holds Try.pinned (OpenSpec.ofChange pillarTurnedWrong)

/-- 'agoniclaw01.PillarKnown': WHATEVER THE INPUT: true; the input reads as it did. -/
def pillarKnownSpec : ChangeSpec := { name := "pillarKnown", fn := fun _ => fun
  | [] => { results := [.lit (.bool true)], args := [] }
  | _ => none }
def pillarKnownRow : OpenClaim := { program := "ytkkmgaigingmpaa", sum := "0e75f6b9ac66dc78a84e6a1998bd0f9f6307fd297b36fa579e9fab19ae33429f", func := "agonic/agoniclaw01.PillarKnown", spec := "pillarKnown", unfollowed := true, recurses := true, apart := false }
def PillarKnownSaid : Prop := pillarKnownRow.holds Try.pinned (OpenSpec.ofChange pillarKnownSpec)

/-- ITS FALSE NEIGHBOUR: 'it returns false'. Refute it at one input. -/
def pillarKnownWrong : ChangeSpec := { name := "pillarKnown", fn := fun _ => fun
  | [] => { results := [.lit (.bool false)], args := [] }
  | _ => none }
def PillarKnownWrongFalsely : Prop := pillarKnownRow.holds Try.pinned (OpenSpec.ofChange pillarKnownWrong)

/-- 'agoniclaw02.BaselineSteps': WHATEVER THE INPUT: true; the input reads as it did. -/
def baselineStepsSpec : ChangeSpec := { name := "baselineSteps", fn := fun _ => fun
  | [d1, d2] => { results := [.lit (.bool true)], args := [d1, d2] }
  | _ => none }
def baselineStepsRow : OpenClaim := { program := "ytkkmgaigingmpaa", sum := "0e75f6b9ac66dc78a84e6a1998bd0f9f6307fd297b36fa579e9fab19ae33429f", func := "agonic/agoniclaw02.BaselineSteps", spec := "baselineSteps", unfollowed := true, recurses := true, apart := false }
def BaselineStepsSaid : Prop := baselineStepsRow.holds Try.pinned (OpenSpec.ofChange baselineStepsSpec)

/-- ITS FALSE NEIGHBOUR: 'it returns false'. Refute it at one input. -/
def baselineStepsWrong : ChangeSpec := { name := "baselineSteps", fn := fun _ => fun
  | [d1, d2] => { results := [.lit (.bool false)], args := [d1, d2] }
  | _ => none }
def BaselineStepsWrongFalsely : Prop := baselineStepsRow.holds Try.pinned (OpenSpec.ofChange baselineStepsWrong)

/- THE SECOND FORM. 'bulk': how many values and letters a reading holds, each counted each time it is reached (what is shared counts as often as it is met; a slice's spare places count too). A statement '..UptoSaid' is the law's where the arguments, and the package variables that the reading takes, are together of bulk at most 1048576: NARROWER than '..Said'. Prove '..Said' where nothing that the law and all that it calls make is longer than what came in: it says more and counts as full. Else prove '..UptoSaid'. A law counts once. -/
mutual
def uptoBulk {H : Type} : DataW H → Nat
  | .lit (.string bytes) => bytes.length + 1
  | .lit _ => 1
  | .nil => 1
  | .ptr d => uptoBulk d + 1
  | .slice elems spare => uptoBulkAll elems + uptoBulkAll spare + 1
  | .agg parts => uptoBulkAll parts + 1
  | .iface _ d => uptoBulk d + 1
  | .map entries => uptoBulkEntries entries + 1
  | .held _ => 1
def uptoBulkAll {H : Type} : List (DataW H) → Nat
  | [] => 0
  | d :: r => uptoBulk d + uptoBulkAll r
def uptoBulkEntries {H : Type} : List (Lit × DataW H) → Nat
  | [] => 0
  | x :: r => uptoBulkEntry x + uptoBulkEntries r
def uptoBulkEntry {H : Type} : Lit × DataW H → Nat
  | (.string bytes, d) => bytes.length + uptoBulk d + 1
  | (_, d) => uptoBulk d + 1
 end
def uptoSmall : (H : Type) → List (DataW H) → Bool := fun _ ds => decide (uptoBulkAll ds ≤ 1048576)
def OpenSpec.upto (s : _root_.Go.ChangeSpec) : _root_.Go.OpenSpec := { _root_.Go.OpenSpec.ofChange s with cond := some uptoSmall }

/-- 'agoniclaw01.PillarWeights', WHERE WHAT IT READS IS OF BULK AT MOST 1048576: true; the input reads as it did. -/
def pillarWeightsUptoRow : OpenClaim := { program := "ytkkmgaigingmpaa", sum := "0e75f6b9ac66dc78a84e6a1998bd0f9f6307fd297b36fa579e9fab19ae33429f", func := "agonic/agoniclaw01.PillarWeights", spec := "pillarWeights", unfollowed := true, recurses := true, apart := false, narrowed := true }
def PillarWeightsUptoSaid : Prop := pillarWeightsUptoRow.holds Try.pinned (OpenSpec.upto pillarWeightsSpec)

/-- 'agoniclaw01.PillarBounds', WHERE WHAT IT READS IS OF BULK AT MOST 1048576: true; the input reads as it did. -/
def pillarBoundsUptoRow : OpenClaim := { program := "ytkkmgaigingmpaa", sum := "0e75f6b9ac66dc78a84e6a1998bd0f9f6307fd297b36fa579e9fab19ae33429f", func := "agonic/agoniclaw01.PillarBounds", spec := "pillarBounds", unfollowed := true, recurses := true, apart := false, narrowed := true }
def PillarBoundsUptoSaid : Prop := pillarBoundsUptoRow.holds Try.pinned (OpenSpec.upto pillarBoundsSpec)

/-- 'agoniclaw01.PillarValues', WHERE WHAT IT READS IS OF BULK AT MOST 1048576: true; the input reads as it did. -/
def pillarValuesUptoRow : OpenClaim := { program := "ytkkmgaigingmpaa", sum := "0e75f6b9ac66dc78a84e6a1998bd0f9f6307fd297b36fa579e9fab19ae33429f", func := "agonic/agoniclaw01.PillarValues", spec := "pillarValues", unfollowed := true, recurses := true, apart := false, narrowed := true }
def PillarValuesUptoSaid : Prop := pillarValuesUptoRow.holds Try.pinned (OpenSpec.upto pillarValuesSpec)

/-- 'agoniclaw01.PillarClashes', WHERE WHAT IT READS IS OF BULK AT MOST 1048576: true; the input reads as it did. -/
def pillarClashesUptoRow : OpenClaim := { program := "ytkkmgaigingmpaa", sum := "0e75f6b9ac66dc78a84e6a1998bd0f9f6307fd297b36fa579e9fab19ae33429f", func := "agonic/agoniclaw01.PillarClashes", spec := "pillarClashes", unfollowed := true, recurses := true, apart := false, narrowed := true }
def PillarClashesUptoSaid : Prop := pillarClashesUptoRow.holds Try.pinned (OpenSpec.upto pillarClashesSpec)

/-- 'agoniclaw01.PillarEither', WHERE WHAT IT READS IS OF BULK AT MOST 1048576: true; the input reads as it did. -/
def pillarEitherUptoRow : OpenClaim := { program := "ytkkmgaigingmpaa", sum := "0e75f6b9ac66dc78a84e6a1998bd0f9f6307fd297b36fa579e9fab19ae33429f", func := "agonic/agoniclaw01.PillarEither", spec := "pillarEither", unfollowed := true, recurses := true, apart := false, narrowed := true }
def PillarEitherUptoSaid : Prop := pillarEitherUptoRow.holds Try.pinned (OpenSpec.upto pillarEitherSpec)

/-- 'agoniclaw01.PillarTruth', WHERE WHAT IT READS IS OF BULK AT MOST 1048576: true; the input reads as it did. -/
def pillarTruthUptoRow : OpenClaim := { program := "ytkkmgaigingmpaa", sum := "0e75f6b9ac66dc78a84e6a1998bd0f9f6307fd297b36fa579e9fab19ae33429f", func := "agonic/agoniclaw01.PillarTruth", spec := "pillarTruth", unfollowed := true, recurses := true, apart := false, narrowed := true }
def PillarTruthUptoSaid : Prop := pillarTruthUptoRow.holds Try.pinned (OpenSpec.upto pillarTruthSpec)

/-- 'agoniclaw01.PillarSharp', WHERE WHAT IT READS IS OF BULK AT MOST 1048576: true; the input reads as it did. -/
def pillarSharpUptoRow : OpenClaim := { program := "ytkkmgaigingmpaa", sum := "0e75f6b9ac66dc78a84e6a1998bd0f9f6307fd297b36fa579e9fab19ae33429f", func := "agonic/agoniclaw01.PillarSharp", spec := "pillarSharp", unfollowed := true, recurses := true, apart := false, narrowed := true }
def PillarSharpUptoSaid : Prop := pillarSharpUptoRow.holds Try.pinned (OpenSpec.upto pillarSharpSpec)

/-- 'agoniclaw01.PillarClash', WHERE WHAT IT READS IS OF BULK AT MOST 1048576: true; the input reads as it did. -/
def pillarClashUptoRow : OpenClaim := { program := "ytkkmgaigingmpaa", sum := "0e75f6b9ac66dc78a84e6a1998bd0f9f6307fd297b36fa579e9fab19ae33429f", func := "agonic/agoniclaw01.PillarClash", spec := "pillarClash", unfollowed := true, recurses := true, apart := false, narrowed := true }
def PillarClashUptoSaid : Prop := pillarClashUptoRow.holds Try.pinned (OpenSpec.upto pillarClashSpec)

/-- 'agoniclaw01.PillarReversed', WHERE WHAT IT READS IS OF BULK AT MOST 1048576: true; the input reads as it did. -/
def pillarReversedUptoRow : OpenClaim := { program := "ytkkmgaigingmpaa", sum := "0e75f6b9ac66dc78a84e6a1998bd0f9f6307fd297b36fa579e9fab19ae33429f", func := "agonic/agoniclaw01.PillarReversed", spec := "pillarReversed", unfollowed := true, recurses := true, apart := false, narrowed := true }
def PillarReversedUptoSaid : Prop := pillarReversedUptoRow.holds Try.pinned (OpenSpec.upto pillarReversedSpec)

/-- 'agoniclaw01.PillarTurned', WHERE WHAT IT READS IS OF BULK AT MOST 1048576: true; the input reads as it did. -/
def pillarTurnedUptoRow : OpenClaim := { program := "ytkkmgaigingmpaa", sum := "0e75f6b9ac66dc78a84e6a1998bd0f9f6307fd297b36fa579e9fab19ae33429f", func := "agonic/agoniclaw01.PillarTurned", spec := "pillarTurned", unfollowed := true, recurses := true, apart := false, narrowed := true }
def PillarTurnedUptoSaid : Prop := pillarTurnedUptoRow.holds Try.pinned (OpenSpec.upto pillarTurnedSpec)

/-- 'agoniclaw01.PillarKnown', WHERE WHAT IT READS IS OF BULK AT MOST 1048576: true; the input reads as it did. -/
def pillarKnownUptoRow : OpenClaim := { program := "ytkkmgaigingmpaa", sum := "0e75f6b9ac66dc78a84e6a1998bd0f9f6307fd297b36fa579e9fab19ae33429f", func := "agonic/agoniclaw01.PillarKnown", spec := "pillarKnown", unfollowed := true, recurses := true, apart := false, narrowed := true }
def PillarKnownUptoSaid : Prop := pillarKnownUptoRow.holds Try.pinned (OpenSpec.upto pillarKnownSpec)

/-- 'agoniclaw02.BaselineSteps', WHERE WHAT IT READS IS OF BULK AT MOST 1048576: true; the input reads as it did. -/
def baselineStepsUptoRow : OpenClaim := { program := "ytkkmgaigingmpaa", sum := "0e75f6b9ac66dc78a84e6a1998bd0f9f6307fd297b36fa579e9fab19ae33429f", func := "agonic/agoniclaw02.BaselineSteps", spec := "baselineSteps", unfollowed := true, recurses := true, apart := false, narrowed := true }
def BaselineStepsUptoSaid : Prop := baselineStepsUptoRow.holds Try.pinned (OpenSpec.upto baselineStepsSpec)

end Rows
end Go.Proofs.Ytkkmgaigingmpaa
