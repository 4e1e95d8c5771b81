/-
  No cell of these rows narrows 'for every input' (looked for: loops, veiled, ifaces, maps, wideKeys, modest, calm, conditions, laid).
  DERIVED. THE GIVEN ROWS OF THIS SEAT. 12 by the template 'for every input the law returns true; each argument reads behind the call as it read before'; 0 by the template 'total and deterministic' (their statements: YtkkfnpcldogglaaTotals.lean).
  GIVEN WITH THE SEED: the statements are not yours to turn. If you find one false, say at which input.
  Laid BY PROGRAM, IN A SANDBOX (cutbox-rows.mjs): the forced cells as the released guide's own fill.sh prints them over the translation f526fd863415437b… (all of the seat's roots in one cut). By AI agents, Wed Nov 11 2026. No macro, syntax, notation, axiom, sorry.
-/
import Derived.Test.YtkkfnpcldogglaaChecked
import GoSem.Claim
import GoSem.ClaimJoined
import GoSem.ClaimMapViews
import Derived.JoinedTies
import Derived.KernelRfl
namespace Go.Proofs.Ytkkfnpcldogglaa
/- THE CELL 'sum', in the pinned program and in every row, IS THE sha256 OF THE DUMP (.gsa) THAT YtkkfnpcldogglaaProg.lean LOADS. Nothing in Lean hashes anything: it is a label: what it is worth is what the hold of that sum in a sandbox is worth. -/
noncomputable def Try.pinned : Pinned := { name := "ytkkfnpcldogglaa", sum := "f526fd863415437b05e723584d51feecab981d8b60d13d72187d2ff0e33a8717", checked := Try.checked }
namespace Rows
def none {H : Type} : Left H := { results := [], args := [] }

/-- 'laws.FnRecord': WHATEVER THE INPUT: true; the input reads as it did. -/
def fnRecordSpec : ChangeSpec := { name := "fnRecord", fn := fun _ => fun
  | [d] => { results := [.lit (.bool true)], args := [d] }
  | _ => none }
def fnRecordRow : OpenClaim := { program := "ytkkfnpcldogglaa", sum := "f526fd863415437b05e723584d51feecab981d8b60d13d72187d2ff0e33a8717", func := "loop.example/recordbatches/laws.FnRecord", spec := "fnRecord", apart := false }
def FnRecordSaid : Prop := fnRecordRow.holds Try.pinned (OpenSpec.ofChange fnRecordSpec)

/-- ITS FALSE NEIGHBOUR: 'it returns false'. Refute it at one input. -/
def fnRecordWrong : ChangeSpec := { name := "fnRecord", fn := fun _ => fun
  | [d] => { results := [.lit (.bool false)], args := [d] }
  | _ => none }
def FnRecordWrongFalsely : Prop := fnRecordRow.holds Try.pinned (OpenSpec.ofChange fnRecordWrong)

/-- 'laws.FnRecordShift': WHATEVER THE INPUT: true; the input reads as it did. -/
def fnRecordShiftSpec : ChangeSpec := { name := "fnRecordShift", fn := fun _ => fun
  | [d] => { results := [.lit (.bool true)], args := [d] }
  | _ => none }
def fnRecordShiftRow : OpenClaim := { program := "ytkkfnpcldogglaa", sum := "f526fd863415437b05e723584d51feecab981d8b60d13d72187d2ff0e33a8717", func := "loop.example/recordbatches/laws.FnRecordShift", spec := "fnRecordShift", apart := false }
def FnRecordShiftSaid : Prop := fnRecordShiftRow.holds Try.pinned (OpenSpec.ofChange fnRecordShiftSpec)

/-- ITS FALSE NEIGHBOUR: 'it returns false'. Refute it at one input. -/
def fnRecordShiftWrong : ChangeSpec := { name := "fnRecordShift", fn := fun _ => fun
  | [d] => { results := [.lit (.bool false)], args := [d] }
  | _ => none }
def FnRecordShiftWrongFalsely : Prop := fnRecordShiftRow.holds Try.pinned (OpenSpec.ofChange fnRecordShiftWrong)

/-- 'laws.FnRecordLength': WHATEVER THE INPUT: true; the input reads as it did. -/
def fnRecordLengthSpec : ChangeSpec := { name := "fnRecordLength", fn := fun _ => fun
  | [d] => { results := [.lit (.bool true)], args := [d] }
  | _ => none }
def fnRecordLengthRow : OpenClaim := { program := "ytkkfnpcldogglaa", sum := "f526fd863415437b05e723584d51feecab981d8b60d13d72187d2ff0e33a8717", func := "loop.example/recordbatches/laws.FnRecordLength", spec := "fnRecordLength", apart := false }
def FnRecordLengthSaid : Prop := fnRecordLengthRow.holds Try.pinned (OpenSpec.ofChange fnRecordLengthSpec)

/-- ITS FALSE NEIGHBOUR: 'it returns false'. Refute it at one input. -/
def fnRecordLengthWrong : ChangeSpec := { name := "fnRecordLength", fn := fun _ => fun
  | [d] => { results := [.lit (.bool false)], args := [d] }
  | _ => none }
def FnRecordLengthWrongFalsely : Prop := fnRecordLengthRow.holds Try.pinned (OpenSpec.ofChange fnRecordLengthWrong)

/-- 'laws.FnRecordFrom': WHATEVER THE INPUT: true; the input reads as it did. -/
def fnRecordFromSpec : ChangeSpec := { name := "fnRecordFrom", fn := fun _ => fun
  | [d] => { results := [.lit (.bool true)], args := [d] }
  | _ => none }
def fnRecordFromRow : OpenClaim := { program := "ytkkfnpcldogglaa", sum := "f526fd863415437b05e723584d51feecab981d8b60d13d72187d2ff0e33a8717", func := "loop.example/recordbatches/laws.FnRecordFrom", spec := "fnRecordFrom", apart := false }
def FnRecordFromSaid : Prop := fnRecordFromRow.holds Try.pinned (OpenSpec.ofChange fnRecordFromSpec)

/-- ITS FALSE NEIGHBOUR: 'it returns false'. Refute it at one input. -/
def fnRecordFromWrong : ChangeSpec := { name := "fnRecordFrom", fn := fun _ => fun
  | [d] => { results := [.lit (.bool false)], args := [d] }
  | _ => none }
def FnRecordFromWrongFalsely : Prop := fnRecordFromRow.holds Try.pinned (OpenSpec.ofChange fnRecordFromWrong)

/-- 'laws.FnRecordTorn': WHATEVER THE INPUT: true; the input reads as it did. -/
def fnRecordTornSpec : ChangeSpec := { name := "fnRecordTorn", fn := fun _ => fun
  | [d] => { results := [.lit (.bool true)], args := [d] }
  | _ => none }
def fnRecordTornRow : OpenClaim := { program := "ytkkfnpcldogglaa", sum := "f526fd863415437b05e723584d51feecab981d8b60d13d72187d2ff0e33a8717", func := "loop.example/recordbatches/laws.FnRecordTorn", spec := "fnRecordTorn", apart := false }
def FnRecordTornSaid : Prop := fnRecordTornRow.holds Try.pinned (OpenSpec.ofChange fnRecordTornSpec)

/-- ITS FALSE NEIGHBOUR: 'it returns false'. Refute it at one input. -/
def fnRecordTornWrong : ChangeSpec := { name := "fnRecordTorn", fn := fun _ => fun
  | [d] => { results := [.lit (.bool false)], args := [d] }
  | _ => none }
def FnRecordTornWrongFalsely : Prop := fnRecordTornRow.holds Try.pinned (OpenSpec.ofChange fnRecordTornWrong)

/-- 'laws.FnRecordSize': WHATEVER THE INPUT: true; the input reads as it did. -/
def fnRecordSizeSpec : ChangeSpec := { name := "fnRecordSize", fn := fun _ => fun
  | [d] => { results := [.lit (.bool true)], args := [d] }
  | _ => none }
def fnRecordSizeRow : OpenClaim := { program := "ytkkfnpcldogglaa", sum := "f526fd863415437b05e723584d51feecab981d8b60d13d72187d2ff0e33a8717", func := "loop.example/recordbatches/laws.FnRecordSize", spec := "fnRecordSize", apart := false }
def FnRecordSizeSaid : Prop := fnRecordSizeRow.holds Try.pinned (OpenSpec.ofChange fnRecordSizeSpec)

/-- ITS FALSE NEIGHBOUR: 'it returns false'. Refute it at one input. -/
def fnRecordSizeWrong : ChangeSpec := { name := "fnRecordSize", fn := fun _ => fun
  | [d] => { results := [.lit (.bool false)], args := [d] }
  | _ => none }
def FnRecordSizeWrongFalsely : Prop := fnRecordSizeRow.holds Try.pinned (OpenSpec.ofChange fnRecordSizeWrong)

/-- 'laws.FnRecordMissing': WHATEVER THE INPUT: true; the input reads as it did. -/
def fnRecordMissingSpec : ChangeSpec := { name := "fnRecordMissing", fn := fun _ => fun
  | [d] => { results := [.lit (.bool true)], args := [d] }
  | _ => none }
def fnRecordMissingRow : OpenClaim := { program := "ytkkfnpcldogglaa", sum := "f526fd863415437b05e723584d51feecab981d8b60d13d72187d2ff0e33a8717", func := "loop.example/recordbatches/laws.FnRecordMissing", spec := "fnRecordMissing", apart := false }
def FnRecordMissingSaid : Prop := fnRecordMissingRow.holds Try.pinned (OpenSpec.ofChange fnRecordMissingSpec)

/-- ITS FALSE NEIGHBOUR: 'it returns false'. Refute it at one input. -/
def fnRecordMissingWrong : ChangeSpec := { name := "fnRecordMissing", fn := fun _ => fun
  | [d] => { results := [.lit (.bool false)], args := [d] }
  | _ => none }
def FnRecordMissingWrongFalsely : Prop := fnRecordMissingRow.holds Try.pinned (OpenSpec.ofChange fnRecordMissingWrong)

/-- 'laws.FnRecordPart': WHATEVER THE INPUT: true; the input reads as it did. -/
def fnRecordPartSpec : ChangeSpec := { name := "fnRecordPart", fn := fun _ => fun
  | [d] => { results := [.lit (.bool true)], args := [d] }
  | _ => none }
def fnRecordPartRow : OpenClaim := { program := "ytkkfnpcldogglaa", sum := "f526fd863415437b05e723584d51feecab981d8b60d13d72187d2ff0e33a8717", func := "loop.example/recordbatches/laws.FnRecordPart", spec := "fnRecordPart", apart := false }
def FnRecordPartSaid : Prop := fnRecordPartRow.holds Try.pinned (OpenSpec.ofChange fnRecordPartSpec)

/-- ITS FALSE NEIGHBOUR: 'it returns false'. Refute it at one input. -/
def fnRecordPartWrong : ChangeSpec := { name := "fnRecordPart", fn := fun _ => fun
  | [d] => { results := [.lit (.bool false)], args := [d] }
  | _ => none }
def FnRecordPartWrongFalsely : Prop := fnRecordPartRow.holds Try.pinned (OpenSpec.ofChange fnRecordPartWrong)

/-- 'laws.FnExactRecordValid': WHATEVER THE INPUT: true; the input reads as it did. -/
def fnExactRecordValidSpec : ChangeSpec := { name := "fnExactRecordValid", fn := fun _ => fun
  | [d] => { results := [.lit (.bool true)], args := [d] }
  | _ => none }
def fnExactRecordValidRow : OpenClaim := { program := "ytkkfnpcldogglaa", sum := "f526fd863415437b05e723584d51feecab981d8b60d13d72187d2ff0e33a8717", func := "loop.example/recordbatches/laws.FnExactRecordValid", spec := "fnExactRecordValid", apart := false }
def FnExactRecordValidSaid : Prop := fnExactRecordValidRow.holds Try.pinned (OpenSpec.ofChange fnExactRecordValidSpec)

/-- ITS FALSE NEIGHBOUR: 'it returns false'. Refute it at one input. -/
def fnExactRecordValidWrong : ChangeSpec := { name := "fnExactRecordValid", fn := fun _ => fun
  | [d] => { results := [.lit (.bool false)], args := [d] }
  | _ => none }
def FnExactRecordValidWrongFalsely : Prop := fnExactRecordValidRow.holds Try.pinned (OpenSpec.ofChange fnExactRecordValidWrong)

/-- 'laws.FnExactRecordBytes': WHATEVER THE INPUT: true; the input reads as it did. -/
def fnExactRecordBytesSpec : ChangeSpec := { name := "fnExactRecordBytes", fn := fun _ => fun
  | [d1, d2, d3] => { results := [.lit (.bool true)], args := [d1, d2, d3] }
  | _ => none }
def fnExactRecordBytesRow : OpenClaim := { program := "ytkkfnpcldogglaa", sum := "f526fd863415437b05e723584d51feecab981d8b60d13d72187d2ff0e33a8717", func := "loop.example/recordbatches/laws.FnExactRecordBytes", spec := "fnExactRecordBytes", apart := false }
def FnExactRecordBytesSaid : Prop := fnExactRecordBytesRow.holds Try.pinned (OpenSpec.ofChange fnExactRecordBytesSpec)

/-- ITS FALSE NEIGHBOUR: 'it returns false'. Refute it at one input. -/
def fnExactRecordBytesWrong : ChangeSpec := { name := "fnExactRecordBytes", fn := fun _ => fun
  | [d1, d2, d3] => { results := [.lit (.bool false)], args := [d1, d2, d3] }
  | _ => none }
def FnExactRecordBytesWrongFalsely : Prop := fnExactRecordBytesRow.holds Try.pinned (OpenSpec.ofChange fnExactRecordBytesWrong)

/-- 'laws.FnExactRecordFrom': WHATEVER THE INPUT: true; the input reads as it did. -/
def fnExactRecordFromSpec : ChangeSpec := { name := "fnExactRecordFrom", fn := fun _ => fun
  | [d1, d2, d3, d4] => { results := [.lit (.bool true)], args := [d1, d2, d3, d4] }
  | _ => none }
def fnExactRecordFromRow : OpenClaim := { program := "ytkkfnpcldogglaa", sum := "f526fd863415437b05e723584d51feecab981d8b60d13d72187d2ff0e33a8717", func := "loop.example/recordbatches/laws.FnExactRecordFrom", spec := "fnExactRecordFrom", apart := false }
def FnExactRecordFromSaid : Prop := fnExactRecordFromRow.holds Try.pinned (OpenSpec.ofChange fnExactRecordFromSpec)

/-- ITS FALSE NEIGHBOUR: 'it returns false'. Refute it at one input. -/
def fnExactRecordFromWrong : ChangeSpec := { name := "fnExactRecordFrom", fn := fun _ => fun
  | [d1, d2, d3, d4] => { results := [.lit (.bool false)], args := [d1, d2, d3, d4] }
  | _ => none }
def FnExactRecordFromWrongFalsely : Prop := fnExactRecordFromRow.holds Try.pinned (OpenSpec.ofChange fnExactRecordFromWrong)

/-- 'laws.FnExactRecordSize': WHATEVER THE INPUT: true; the input reads as it did. -/
def fnExactRecordSizeSpec : ChangeSpec := { name := "fnExactRecordSize", fn := fun _ => fun
  | [d1, d2, d3] => { results := [.lit (.bool true)], args := [d1, d2, d3] }
  | _ => none }
def fnExactRecordSizeRow : OpenClaim := { program := "ytkkfnpcldogglaa", sum := "f526fd863415437b05e723584d51feecab981d8b60d13d72187d2ff0e33a8717", func := "loop.example/recordbatches/laws.FnExactRecordSize", spec := "fnExactRecordSize", apart := false }
def FnExactRecordSizeSaid : Prop := fnExactRecordSizeRow.holds Try.pinned (OpenSpec.ofChange fnExactRecordSizeSpec)

/-- ITS FALSE NEIGHBOUR: 'it returns false'. Refute it at one input. -/
def fnExactRecordSizeWrong : ChangeSpec := { name := "fnExactRecordSize", fn := fun _ => fun
  | [d1, d2, d3] => { results := [.lit (.bool false)], args := [d1, d2, d3] }
  | _ => none }
def FnExactRecordSizeWrongFalsely : Prop := fnExactRecordSizeRow.holds Try.pinned (OpenSpec.ofChange fnExactRecordSizeWrong)

/- THE SECOND FORM. 'bulk': how many values and letters a reading holds, each counted each time it is reached (what is shared counts as often as it is met; a slice's spare places count too). A statement '..UptoSaid' is the law's where the arguments, and the package variables that the reading takes, are together of bulk at most 1048576: NARROWER than '..Said'. Prove '..Said' where nothing that the law and all that it calls make is longer than what came in: it says more and counts as full. Else prove '..UptoSaid'. A law counts once. -/
mutual
def uptoBulk {H : Type} : DataW H → Nat
  | .lit (.string bytes) => bytes.length + 1
  | .lit _ => 1
  | .nil => 1
  | .ptr d => uptoBulk d + 1
  | .slice elems spare => uptoBulkAll elems + uptoBulkAll spare + 1
  | .agg parts => uptoBulkAll parts + 1
  | .iface _ d => uptoBulk d + 1
  | .map entries => uptoBulkEntries entries + 1
  | .held _ => 1
def uptoBulkAll {H : Type} : List (DataW H) → Nat
  | [] => 0
  | d :: r => uptoBulk d + uptoBulkAll r
def uptoBulkEntries {H : Type} : List (Lit × DataW H) → Nat
  | [] => 0
  | x :: r => uptoBulkEntry x + uptoBulkEntries r
def uptoBulkEntry {H : Type} : Lit × DataW H → Nat
  | (.string bytes, d) => bytes.length + uptoBulk d + 1
  | (_, d) => uptoBulk d + 1
 end
def uptoSmall : (H : Type) → List (DataW H) → Bool := fun _ ds => decide (uptoBulkAll ds ≤ 1048576)
def OpenSpec.upto (s : _root_.Go.ChangeSpec) : _root_.Go.OpenSpec := { _root_.Go.OpenSpec.ofChange s with cond := some uptoSmall }

/-- 'laws.FnRecord', WHERE WHAT IT READS IS OF BULK AT MOST 1048576: true; the input reads as it did. -/
def fnRecordUptoRow : OpenClaim := { program := "ytkkfnpcldogglaa", sum := "f526fd863415437b05e723584d51feecab981d8b60d13d72187d2ff0e33a8717", func := "loop.example/recordbatches/laws.FnRecord", spec := "fnRecord", apart := false, narrowed := true }
def FnRecordUptoSaid : Prop := fnRecordUptoRow.holds Try.pinned (OpenSpec.upto fnRecordSpec)

/-- 'laws.FnRecordShift', WHERE WHAT IT READS IS OF BULK AT MOST 1048576: true; the input reads as it did. -/
def fnRecordShiftUptoRow : OpenClaim := { program := "ytkkfnpcldogglaa", sum := "f526fd863415437b05e723584d51feecab981d8b60d13d72187d2ff0e33a8717", func := "loop.example/recordbatches/laws.FnRecordShift", spec := "fnRecordShift", apart := false, narrowed := true }
def FnRecordShiftUptoSaid : Prop := fnRecordShiftUptoRow.holds Try.pinned (OpenSpec.upto fnRecordShiftSpec)

/-- 'laws.FnRecordLength', WHERE WHAT IT READS IS OF BULK AT MOST 1048576: true; the input reads as it did. -/
def fnRecordLengthUptoRow : OpenClaim := { program := "ytkkfnpcldogglaa", sum := "f526fd863415437b05e723584d51feecab981d8b60d13d72187d2ff0e33a8717", func := "loop.example/recordbatches/laws.FnRecordLength", spec := "fnRecordLength", apart := false, narrowed := true }
def FnRecordLengthUptoSaid : Prop := fnRecordLengthUptoRow.holds Try.pinned (OpenSpec.upto fnRecordLengthSpec)

/-- 'laws.FnRecordFrom', WHERE WHAT IT READS IS OF BULK AT MOST 1048576: true; the input reads as it did. -/
def fnRecordFromUptoRow : OpenClaim := { program := "ytkkfnpcldogglaa", sum := "f526fd863415437b05e723584d51feecab981d8b60d13d72187d2ff0e33a8717", func := "loop.example/recordbatches/laws.FnRecordFrom", spec := "fnRecordFrom", apart := false, narrowed := true }
def FnRecordFromUptoSaid : Prop := fnRecordFromUptoRow.holds Try.pinned (OpenSpec.upto fnRecordFromSpec)

/-- 'laws.FnRecordTorn', WHERE WHAT IT READS IS OF BULK AT MOST 1048576: true; the input reads as it did. -/
def fnRecordTornUptoRow : OpenClaim := { program := "ytkkfnpcldogglaa", sum := "f526fd863415437b05e723584d51feecab981d8b60d13d72187d2ff0e33a8717", func := "loop.example/recordbatches/laws.FnRecordTorn", spec := "fnRecordTorn", apart := false, narrowed := true }
def FnRecordTornUptoSaid : Prop := fnRecordTornUptoRow.holds Try.pinned (OpenSpec.upto fnRecordTornSpec)

/-- 'laws.FnRecordSize', WHERE WHAT IT READS IS OF BULK AT MOST 1048576: true; the input reads as it did. -/
def fnRecordSizeUptoRow : OpenClaim := { program := "ytkkfnpcldogglaa", sum := "f526fd863415437b05e723584d51feecab981d8b60d13d72187d2ff0e33a8717", func := "loop.example/recordbatches/laws.FnRecordSize", spec := "fnRecordSize", apart := false, narrowed := true }
def FnRecordSizeUptoSaid : Prop := fnRecordSizeUptoRow.holds Try.pinned (OpenSpec.upto fnRecordSizeSpec)

/-- 'laws.FnRecordMissing', WHERE WHAT IT READS IS OF BULK AT MOST 1048576: true; the input reads as it did. -/
def fnRecordMissingUptoRow : OpenClaim := { program := "ytkkfnpcldogglaa", sum := "f526fd863415437b05e723584d51feecab981d8b60d13d72187d2ff0e33a8717", func := "loop.example/recordbatches/laws.FnRecordMissing", spec := "fnRecordMissing", apart := false, narrowed := true }
def FnRecordMissingUptoSaid : Prop := fnRecordMissingUptoRow.holds Try.pinned (OpenSpec.upto fnRecordMissingSpec)

/-- 'laws.FnRecordPart', WHERE WHAT IT READS IS OF BULK AT MOST 1048576: true; the input reads as it did. -/
def fnRecordPartUptoRow : OpenClaim := { program := "ytkkfnpcldogglaa", sum := "f526fd863415437b05e723584d51feecab981d8b60d13d72187d2ff0e33a8717", func := "loop.example/recordbatches/laws.FnRecordPart", spec := "fnRecordPart", apart := false, narrowed := true }
def FnRecordPartUptoSaid : Prop := fnRecordPartUptoRow.holds Try.pinned (OpenSpec.upto fnRecordPartSpec)

/-- 'laws.FnExactRecordValid', WHERE WHAT IT READS IS OF BULK AT MOST 1048576: true; the input reads as it did. -/
def fnExactRecordValidUptoRow : OpenClaim := { program := "ytkkfnpcldogglaa", sum := "f526fd863415437b05e723584d51feecab981d8b60d13d72187d2ff0e33a8717", func := "loop.example/recordbatches/laws.FnExactRecordValid", spec := "fnExactRecordValid", apart := false, narrowed := true }
def FnExactRecordValidUptoSaid : Prop := fnExactRecordValidUptoRow.holds Try.pinned (OpenSpec.upto fnExactRecordValidSpec)

/-- 'laws.FnExactRecordBytes', WHERE WHAT IT READS IS OF BULK AT MOST 1048576: true; the input reads as it did. -/
def fnExactRecordBytesUptoRow : OpenClaim := { program := "ytkkfnpcldogglaa", sum := "f526fd863415437b05e723584d51feecab981d8b60d13d72187d2ff0e33a8717", func := "loop.example/recordbatches/laws.FnExactRecordBytes", spec := "fnExactRecordBytes", apart := false, narrowed := true }
def FnExactRecordBytesUptoSaid : Prop := fnExactRecordBytesUptoRow.holds Try.pinned (OpenSpec.upto fnExactRecordBytesSpec)

/-- 'laws.FnExactRecordFrom', WHERE WHAT IT READS IS OF BULK AT MOST 1048576: true; the input reads as it did. -/
def fnExactRecordFromUptoRow : OpenClaim := { program := "ytkkfnpcldogglaa", sum := "f526fd863415437b05e723584d51feecab981d8b60d13d72187d2ff0e33a8717", func := "loop.example/recordbatches/laws.FnExactRecordFrom", spec := "fnExactRecordFrom", apart := false, narrowed := true }
def FnExactRecordFromUptoSaid : Prop := fnExactRecordFromUptoRow.holds Try.pinned (OpenSpec.upto fnExactRecordFromSpec)

/-- 'laws.FnExactRecordSize', WHERE WHAT IT READS IS OF BULK AT MOST 1048576: true; the input reads as it did. -/
def fnExactRecordSizeUptoRow : OpenClaim := { program := "ytkkfnpcldogglaa", sum := "f526fd863415437b05e723584d51feecab981d8b60d13d72187d2ff0e33a8717", func := "loop.example/recordbatches/laws.FnExactRecordSize", spec := "fnExactRecordSize", apart := false, narrowed := true }
def FnExactRecordSizeUptoSaid : Prop := fnExactRecordSizeUptoRow.holds Try.pinned (OpenSpec.upto fnExactRecordSizeSpec)

end Rows
end Go.Proofs.Ytkkfnpcldogglaa
