/-
  No cell of these rows narrows 'for every input' (looked for: loops, veiled, ifaces, maps, wideKeys, modest, calm, conditions, laid).
  DERIVED. THE GIVEN ROWS OF THIS SEAT. 9 by the template 'for every input the law returns true; each argument reads behind the call as it read before'; 0 by the template 'total and deterministic' (their statements: YthlboonobepdaaaTotals.lean).
  GIVEN WITH THE SEED: the statements are not yours to turn. If you find one false, say at which input.
  Laid BY PROGRAM, IN A SANDBOX (cutbox-rows.mjs): the forced cells as the released guide's own fill.sh prints them over the translation 4d875f06d177cf68… (all of the seat's roots in one cut). By AI agents, Wed Nov 11 2026. No macro, syntax, notation, axiom, sorry.
-/
import Derived.Test.YthlboonobepdaaaChecked
import GoSem.Claim
import GoSem.ClaimJoined
import GoSem.ClaimMapViews
import Derived.JoinedTies
import Derived.KernelRfl
namespace Go.Proofs.Ythlboonobepdaaa
/- THE CELL 'sum', in the pinned program and in every row, IS THE sha256 OF THE DUMP (.gsa) THAT YthlboonobepdaaaProg.lean LOADS. Nothing in Lean hashes anything: it is a label: what it is worth is what the hold of that sum in a sandbox is worth. -/
noncomputable def Try.pinned : Pinned := { name := "ythlboonobepdaaa", sum := "4d875f06d177cf68cb0286e3ff00380cede24f58903098e243c53d6bacc1e694", checked := Try.checked }
namespace Rows
def none {H : Type} : Left H := { results := [], args := [] }

/-- 'laws.FnOld': WHATEVER THE INPUT: true; the input reads as it did. -/
def fnOldSpec : ChangeSpec := { name := "fnOld", fn := fun _ => fun
  | [d] => { results := [.lit (.bool true)], args := [d] }
  | _ => none }
def fnOldRow : OpenClaim := { program := "ythlboonobepdaaa", sum := "4d875f06d177cf68cb0286e3ff00380cede24f58903098e243c53d6bacc1e694", func := "loop.example/recordbatches/laws.FnOld", spec := "fnOld", recurses := true, apart := false }
def FnOldSaid : Prop := fnOldRow.holds Try.pinned (OpenSpec.ofChange fnOldSpec)

/-- ITS FALSE NEIGHBOUR: 'it returns false'. Refute it at one input. -/
def fnOldWrong : ChangeSpec := { name := "fnOld", fn := fun _ => fun
  | [d] => { results := [.lit (.bool false)], args := [d] }
  | _ => none }
def FnOldWrongFalsely : Prop := fnOldRow.holds Try.pinned (OpenSpec.ofChange fnOldWrong)

/-- 'laws.FnOldLength': WHATEVER THE INPUT: true; the input reads as it did. -/
def fnOldLengthSpec : ChangeSpec := { name := "fnOldLength", fn := fun _ => fun
  | [d] => { results := [.lit (.bool true)], args := [d] }
  | _ => none }
def fnOldLengthRow : OpenClaim := { program := "ythlboonobepdaaa", sum := "4d875f06d177cf68cb0286e3ff00380cede24f58903098e243c53d6bacc1e694", func := "loop.example/recordbatches/laws.FnOldLength", spec := "fnOldLength", recurses := true, apart := false }
def FnOldLengthSaid : Prop := fnOldLengthRow.holds Try.pinned (OpenSpec.ofChange fnOldLengthSpec)

/-- ITS FALSE NEIGHBOUR: 'it returns false'. Refute it at one input. -/
def fnOldLengthWrong : ChangeSpec := { name := "fnOldLength", fn := fun _ => fun
  | [d] => { results := [.lit (.bool false)], args := [d] }
  | _ => none }
def FnOldLengthWrongFalsely : Prop := fnOldLengthRow.holds Try.pinned (OpenSpec.ofChange fnOldLengthWrong)

/-- 'laws.FnOldDamage': WHATEVER THE INPUT: true; the input reads as it did. -/
def fnOldDamageSpec : ChangeSpec := { name := "fnOldDamage", fn := fun _ => fun
  | [d1, d2] => { results := [.lit (.bool true)], args := [d1, d2] }
  | _ => none }
def fnOldDamageRow : OpenClaim := { program := "ythlboonobepdaaa", sum := "4d875f06d177cf68cb0286e3ff00380cede24f58903098e243c53d6bacc1e694", func := "loop.example/recordbatches/laws.FnOldDamage", spec := "fnOldDamage", recurses := true, apart := false }
def FnOldDamageSaid : Prop := fnOldDamageRow.holds Try.pinned (OpenSpec.ofChange fnOldDamageSpec)

/-- ITS FALSE NEIGHBOUR: 'it returns false'. Refute it at one input. -/
def fnOldDamageWrong : ChangeSpec := { name := "fnOldDamage", fn := fun _ => fun
  | [d1, d2] => { results := [.lit (.bool false)], args := [d1, d2] }
  | _ => none }
def FnOldDamageWrongFalsely : Prop := fnOldDamageRow.holds Try.pinned (OpenSpec.ofChange fnOldDamageWrong)

/-- 'laws.FnOldFrom': WHATEVER THE INPUT: true; the input reads as it did. -/
def fnOldFromSpec : ChangeSpec := { name := "fnOldFrom", fn := fun _ => fun
  | [d] => { results := [.lit (.bool true)], args := [d] }
  | _ => none }
def fnOldFromRow : OpenClaim := { program := "ythlboonobepdaaa", sum := "4d875f06d177cf68cb0286e3ff00380cede24f58903098e243c53d6bacc1e694", func := "loop.example/recordbatches/laws.FnOldFrom", spec := "fnOldFrom", recurses := true, apart := false }
def FnOldFromSaid : Prop := fnOldFromRow.holds Try.pinned (OpenSpec.ofChange fnOldFromSpec)

/-- ITS FALSE NEIGHBOUR: 'it returns false'. Refute it at one input. -/
def fnOldFromWrong : ChangeSpec := { name := "fnOldFrom", fn := fun _ => fun
  | [d] => { results := [.lit (.bool false)], args := [d] }
  | _ => none }
def FnOldFromWrongFalsely : Prop := fnOldFromRow.holds Try.pinned (OpenSpec.ofChange fnOldFromWrong)

/-- 'laws.FnOldTorn': WHATEVER THE INPUT: true; the input reads as it did. -/
def fnOldTornSpec : ChangeSpec := { name := "fnOldTorn", fn := fun _ => fun
  | [d] => { results := [.lit (.bool true)], args := [d] }
  | _ => none }
def fnOldTornRow : OpenClaim := { program := "ythlboonobepdaaa", sum := "4d875f06d177cf68cb0286e3ff00380cede24f58903098e243c53d6bacc1e694", func := "loop.example/recordbatches/laws.FnOldTorn", spec := "fnOldTorn", recurses := true, apart := false }
def FnOldTornSaid : Prop := fnOldTornRow.holds Try.pinned (OpenSpec.ofChange fnOldTornSpec)

/-- ITS FALSE NEIGHBOUR: 'it returns false'. Refute it at one input. -/
def fnOldTornWrong : ChangeSpec := { name := "fnOldTorn", fn := fun _ => fun
  | [d] => { results := [.lit (.bool false)], args := [d] }
  | _ => none }
def FnOldTornWrongFalsely : Prop := fnOldTornRow.holds Try.pinned (OpenSpec.ofChange fnOldTornWrong)

/-- 'laws.FnOldPart': WHATEVER THE INPUT: true; the input reads as it did. -/
def fnOldPartSpec : ChangeSpec := { name := "fnOldPart", fn := fun _ => fun
  | [d] => { results := [.lit (.bool true)], args := [d] }
  | _ => none }
def fnOldPartRow : OpenClaim := { program := "ythlboonobepdaaa", sum := "4d875f06d177cf68cb0286e3ff00380cede24f58903098e243c53d6bacc1e694", func := "loop.example/recordbatches/laws.FnOldPart", spec := "fnOldPart", recurses := true, apart := false }
def FnOldPartSaid : Prop := fnOldPartRow.holds Try.pinned (OpenSpec.ofChange fnOldPartSpec)

/-- ITS FALSE NEIGHBOUR: 'it returns false'. Refute it at one input. -/
def fnOldPartWrong : ChangeSpec := { name := "fnOldPart", fn := fun _ => fun
  | [d] => { results := [.lit (.bool false)], args := [d] }
  | _ => none }
def FnOldPartWrongFalsely : Prop := fnOldPartRow.holds Try.pinned (OpenSpec.ofChange fnOldPartWrong)

/-- 'laws.FnExactOldValid': WHATEVER THE INPUT: true; the input reads as it did. -/
def fnExactOldValidSpec : ChangeSpec := { name := "fnExactOldValid", fn := fun _ => fun
  | [d] => { results := [.lit (.bool true)], args := [d] }
  | _ => none }
def fnExactOldValidRow : OpenClaim := { program := "ythlboonobepdaaa", sum := "4d875f06d177cf68cb0286e3ff00380cede24f58903098e243c53d6bacc1e694", func := "loop.example/recordbatches/laws.FnExactOldValid", spec := "fnExactOldValid", recurses := true, apart := false }
def FnExactOldValidSaid : Prop := fnExactOldValidRow.holds Try.pinned (OpenSpec.ofChange fnExactOldValidSpec)

/-- ITS FALSE NEIGHBOUR: 'it returns false'. Refute it at one input. -/
def fnExactOldValidWrong : ChangeSpec := { name := "fnExactOldValid", fn := fun _ => fun
  | [d] => { results := [.lit (.bool false)], args := [d] }
  | _ => none }
def FnExactOldValidWrongFalsely : Prop := fnExactOldValidRow.holds Try.pinned (OpenSpec.ofChange fnExactOldValidWrong)

/-- 'laws.FnExactOldBytes': WHATEVER THE INPUT: true; the input reads as it did. -/
def fnExactOldBytesSpec : ChangeSpec := { name := "fnExactOldBytes", fn := fun _ => fun
  | [d] => { results := [.lit (.bool true)], args := [d] }
  | _ => none }
def fnExactOldBytesRow : OpenClaim := { program := "ythlboonobepdaaa", sum := "4d875f06d177cf68cb0286e3ff00380cede24f58903098e243c53d6bacc1e694", func := "loop.example/recordbatches/laws.FnExactOldBytes", spec := "fnExactOldBytes", recurses := true, apart := false }
def FnExactOldBytesSaid : Prop := fnExactOldBytesRow.holds Try.pinned (OpenSpec.ofChange fnExactOldBytesSpec)

/-- ITS FALSE NEIGHBOUR: 'it returns false'. Refute it at one input. -/
def fnExactOldBytesWrong : ChangeSpec := { name := "fnExactOldBytes", fn := fun _ => fun
  | [d] => { results := [.lit (.bool false)], args := [d] }
  | _ => none }
def FnExactOldBytesWrongFalsely : Prop := fnExactOldBytesRow.holds Try.pinned (OpenSpec.ofChange fnExactOldBytesWrong)

/-- 'laws.FnExactOldFrom': WHATEVER THE INPUT: true; the input reads as it did. -/
def fnExactOldFromSpec : ChangeSpec := { name := "fnExactOldFrom", fn := fun _ => fun
  | [d] => { results := [.lit (.bool true)], args := [d] }
  | _ => none }
def fnExactOldFromRow : OpenClaim := { program := "ythlboonobepdaaa", sum := "4d875f06d177cf68cb0286e3ff00380cede24f58903098e243c53d6bacc1e694", func := "loop.example/recordbatches/laws.FnExactOldFrom", spec := "fnExactOldFrom", recurses := true, apart := false }
def FnExactOldFromSaid : Prop := fnExactOldFromRow.holds Try.pinned (OpenSpec.ofChange fnExactOldFromSpec)

/-- ITS FALSE NEIGHBOUR: 'it returns false'. Refute it at one input. -/
def fnExactOldFromWrong : ChangeSpec := { name := "fnExactOldFrom", fn := fun _ => fun
  | [d] => { results := [.lit (.bool false)], args := [d] }
  | _ => none }
def FnExactOldFromWrongFalsely : Prop := fnExactOldFromRow.holds Try.pinned (OpenSpec.ofChange fnExactOldFromWrong)

/- THE SECOND FORM. 'bulk': how many values and letters a reading holds, each counted each time it is reached (what is shared counts as often as it is met; a slice's spare places count too). A statement '..UptoSaid' is the law's where the arguments, and the package variables that the reading takes, are together of bulk at most 1048576: NARROWER than '..Said'. Prove '..Said' where nothing that the law and all that it calls make is longer than what came in: it says more and counts as full. Else prove '..UptoSaid'. A law counts once. -/
mutual
def uptoBulk {H : Type} : DataW H → Nat
  | .lit (.string bytes) => bytes.length + 1
  | .lit _ => 1
  | .nil => 1
  | .ptr d => uptoBulk d + 1
  | .slice elems spare => uptoBulkAll elems + uptoBulkAll spare + 1
  | .agg parts => uptoBulkAll parts + 1
  | .iface _ d => uptoBulk d + 1
  | .map entries => uptoBulkEntries entries + 1
  | .held _ => 1
def uptoBulkAll {H : Type} : List (DataW H) → Nat
  | [] => 0
  | d :: r => uptoBulk d + uptoBulkAll r
def uptoBulkEntries {H : Type} : List (Lit × DataW H) → Nat
  | [] => 0
  | x :: r => uptoBulkEntry x + uptoBulkEntries r
def uptoBulkEntry {H : Type} : Lit × DataW H → Nat
  | (.string bytes, d) => bytes.length + uptoBulk d + 1
  | (_, d) => uptoBulk d + 1
 end
def uptoSmall : (H : Type) → List (DataW H) → Bool := fun _ ds => decide (uptoBulkAll ds ≤ 1048576)
def OpenSpec.upto (s : _root_.Go.ChangeSpec) : _root_.Go.OpenSpec := { _root_.Go.OpenSpec.ofChange s with cond := some uptoSmall }

/-- 'laws.FnOld', WHERE WHAT IT READS IS OF BULK AT MOST 1048576: true; the input reads as it did. -/
def fnOldUptoRow : OpenClaim := { program := "ythlboonobepdaaa", sum := "4d875f06d177cf68cb0286e3ff00380cede24f58903098e243c53d6bacc1e694", func := "loop.example/recordbatches/laws.FnOld", spec := "fnOld", recurses := true, apart := false, narrowed := true }
def FnOldUptoSaid : Prop := fnOldUptoRow.holds Try.pinned (OpenSpec.upto fnOldSpec)

/-- 'laws.FnOldLength', WHERE WHAT IT READS IS OF BULK AT MOST 1048576: true; the input reads as it did. -/
def fnOldLengthUptoRow : OpenClaim := { program := "ythlboonobepdaaa", sum := "4d875f06d177cf68cb0286e3ff00380cede24f58903098e243c53d6bacc1e694", func := "loop.example/recordbatches/laws.FnOldLength", spec := "fnOldLength", recurses := true, apart := false, narrowed := true }
def FnOldLengthUptoSaid : Prop := fnOldLengthUptoRow.holds Try.pinned (OpenSpec.upto fnOldLengthSpec)

/-- 'laws.FnOldDamage', WHERE WHAT IT READS IS OF BULK AT MOST 1048576: true; the input reads as it did. -/
def fnOldDamageUptoRow : OpenClaim := { program := "ythlboonobepdaaa", sum := "4d875f06d177cf68cb0286e3ff00380cede24f58903098e243c53d6bacc1e694", func := "loop.example/recordbatches/laws.FnOldDamage", spec := "fnOldDamage", recurses := true, apart := false, narrowed := true }
def FnOldDamageUptoSaid : Prop := fnOldDamageUptoRow.holds Try.pinned (OpenSpec.upto fnOldDamageSpec)

/-- 'laws.FnOldFrom', WHERE WHAT IT READS IS OF BULK AT MOST 1048576: true; the input reads as it did. -/
def fnOldFromUptoRow : OpenClaim := { program := "ythlboonobepdaaa", sum := "4d875f06d177cf68cb0286e3ff00380cede24f58903098e243c53d6bacc1e694", func := "loop.example/recordbatches/laws.FnOldFrom", spec := "fnOldFrom", recurses := true, apart := false, narrowed := true }
def FnOldFromUptoSaid : Prop := fnOldFromUptoRow.holds Try.pinned (OpenSpec.upto fnOldFromSpec)

/-- 'laws.FnOldTorn', WHERE WHAT IT READS IS OF BULK AT MOST 1048576: true; the input reads as it did. -/
def fnOldTornUptoRow : OpenClaim := { program := "ythlboonobepdaaa", sum := "4d875f06d177cf68cb0286e3ff00380cede24f58903098e243c53d6bacc1e694", func := "loop.example/recordbatches/laws.FnOldTorn", spec := "fnOldTorn", recurses := true, apart := false, narrowed := true }
def FnOldTornUptoSaid : Prop := fnOldTornUptoRow.holds Try.pinned (OpenSpec.upto fnOldTornSpec)

/-- 'laws.FnOldPart', WHERE WHAT IT READS IS OF BULK AT MOST 1048576: true; the input reads as it did. -/
def fnOldPartUptoRow : OpenClaim := { program := "ythlboonobepdaaa", sum := "4d875f06d177cf68cb0286e3ff00380cede24f58903098e243c53d6bacc1e694", func := "loop.example/recordbatches/laws.FnOldPart", spec := "fnOldPart", recurses := true, apart := false, narrowed := true }
def FnOldPartUptoSaid : Prop := fnOldPartUptoRow.holds Try.pinned (OpenSpec.upto fnOldPartSpec)

/-- 'laws.FnExactOldValid', WHERE WHAT IT READS IS OF BULK AT MOST 1048576: true; the input reads as it did. -/
def fnExactOldValidUptoRow : OpenClaim := { program := "ythlboonobepdaaa", sum := "4d875f06d177cf68cb0286e3ff00380cede24f58903098e243c53d6bacc1e694", func := "loop.example/recordbatches/laws.FnExactOldValid", spec := "fnExactOldValid", recurses := true, apart := false, narrowed := true }
def FnExactOldValidUptoSaid : Prop := fnExactOldValidUptoRow.holds Try.pinned (OpenSpec.upto fnExactOldValidSpec)

/-- 'laws.FnExactOldBytes', WHERE WHAT IT READS IS OF BULK AT MOST 1048576: true; the input reads as it did. -/
def fnExactOldBytesUptoRow : OpenClaim := { program := "ythlboonobepdaaa", sum := "4d875f06d177cf68cb0286e3ff00380cede24f58903098e243c53d6bacc1e694", func := "loop.example/recordbatches/laws.FnExactOldBytes", spec := "fnExactOldBytes", recurses := true, apart := false, narrowed := true }
def FnExactOldBytesUptoSaid : Prop := fnExactOldBytesUptoRow.holds Try.pinned (OpenSpec.upto fnExactOldBytesSpec)

/-- 'laws.FnExactOldFrom', WHERE WHAT IT READS IS OF BULK AT MOST 1048576: true; the input reads as it did. -/
def fnExactOldFromUptoRow : OpenClaim := { program := "ythlboonobepdaaa", sum := "4d875f06d177cf68cb0286e3ff00380cede24f58903098e243c53d6bacc1e694", func := "loop.example/recordbatches/laws.FnExactOldFrom", spec := "fnExactOldFrom", recurses := true, apart := false, narrowed := true }
def FnExactOldFromUptoSaid : Prop := fnExactOldFromUptoRow.holds Try.pinned (OpenSpec.upto fnExactOldFromSpec)

end Rows
end Go.Proofs.Ythlboonobepdaaa
