/-
  No cell of these rows narrows 'for every input' (looked for: loops, veiled, ifaces, maps, wideKeys, modest, calm, conditions, laid).
  DERIVED. THE GIVEN ROWS OF THIS SEAT. 14 by the template 'for every input the law returns true; each argument reads behind the call as it read before'; 0 by the template 'total and deterministic' (their statements: YtjpkonbanejnkaaTotals.lean).
  GIVEN WITH THE SEED: the statements are not yours to turn. If you find one false, say at which input.
  Laid BY PROGRAM, IN A SANDBOX (cutbox-rows.mjs): the forced cells as the released guide's own fill.sh prints them over the translation dce1c38b58b3ba3c… (all of the seat's roots in one cut). By AI agents, Wed Nov 11 2026. No macro, syntax, notation, axiom, sorry.
-/
import Derived.Test.YtjpkonbanejnkaaChecked
import GoSem.Claim
import GoSem.ClaimJoined
import GoSem.ClaimMapViews
import Derived.JoinedTies
import Derived.KernelRfl
namespace Go.Proofs.Ytjpkonbanejnkaa
/- THE CELL 'sum', in the pinned program and in every row, IS THE sha256 OF THE DUMP (.gsa) THAT YtjpkonbanejnkaaProg.lean LOADS. Nothing in Lean hashes anything: it is a label: what it is worth is what the hold of that sum in a sandbox is worth. -/
noncomputable def Try.pinned : Pinned := { name := "ytjpkonbanejnkaa", sum := "dce1c38b58b3ba3c8338df8a969ab4c593ca7c9ee3ee391d8597612d5ef8e7fd", checked := Try.checked }
namespace Rows
def none {H : Type} : Left H := { results := [], args := [] }

/-- 'laws.FnFold': WHATEVER THE INPUT: true; the input reads as it did. -/
def fnFoldSpec : ChangeSpec := { name := "fnFold", fn := fun _ => fun
  | [d] => { results := [.lit (.bool true)], args := [d] }
  | _ => none }
def fnFoldRow : OpenClaim := { program := "ytjpkonbanejnkaa", sum := "dce1c38b58b3ba3c8338df8a969ab4c593ca7c9ee3ee391d8597612d5ef8e7fd", func := "loop.example/recordbatches/laws.FnFold", spec := "fnFold", apart := false }
def FnFoldSaid : Prop := fnFoldRow.holds Try.pinned (OpenSpec.ofChange fnFoldSpec)

/-- ITS FALSE NEIGHBOUR: 'it returns false'. Refute it at one input. -/
def fnFoldWrong : ChangeSpec := { name := "fnFold", fn := fun _ => fun
  | [d] => { results := [.lit (.bool false)], args := [d] }
  | _ => none }
def FnFoldWrongFalsely : Prop := fnFoldRow.holds Try.pinned (OpenSpec.ofChange fnFoldWrong)

/-- 'laws.FnFoldSmall': WHATEVER THE INPUT: true; the input reads as it did. -/
def fnFoldSmallSpec : ChangeSpec := { name := "fnFoldSmall", fn := fun _ => fun
  | [d] => { results := [.lit (.bool true)], args := [d] }
  | _ => none }
def fnFoldSmallRow : OpenClaim := { program := "ytjpkonbanejnkaa", sum := "dce1c38b58b3ba3c8338df8a969ab4c593ca7c9ee3ee391d8597612d5ef8e7fd", func := "loop.example/recordbatches/laws.FnFoldSmall", spec := "fnFoldSmall", apart := false }
def FnFoldSmallSaid : Prop := fnFoldSmallRow.holds Try.pinned (OpenSpec.ofChange fnFoldSmallSpec)

/-- ITS FALSE NEIGHBOUR: 'it returns false'. Refute it at one input. -/
def fnFoldSmallWrong : ChangeSpec := { name := "fnFoldSmall", fn := fun _ => fun
  | [d] => { results := [.lit (.bool false)], args := [d] }
  | _ => none }
def FnFoldSmallWrongFalsely : Prop := fnFoldSmallRow.holds Try.pinned (OpenSpec.ofChange fnFoldSmallWrong)

/-- 'laws.FnUnfold': WHATEVER THE INPUT: true; the input reads as it did. -/
def fnUnfoldSpec : ChangeSpec := { name := "fnUnfold", fn := fun _ => fun
  | [d] => { results := [.lit (.bool true)], args := [d] }
  | _ => none }
def fnUnfoldRow : OpenClaim := { program := "ytjpkonbanejnkaa", sum := "dce1c38b58b3ba3c8338df8a969ab4c593ca7c9ee3ee391d8597612d5ef8e7fd", func := "loop.example/recordbatches/laws.FnUnfold", spec := "fnUnfold", apart := false }
def FnUnfoldSaid : Prop := fnUnfoldRow.holds Try.pinned (OpenSpec.ofChange fnUnfoldSpec)

/-- ITS FALSE NEIGHBOUR: 'it returns false'. Refute it at one input. -/
def fnUnfoldWrong : ChangeSpec := { name := "fnUnfold", fn := fun _ => fun
  | [d] => { results := [.lit (.bool false)], args := [d] }
  | _ => none }
def FnUnfoldWrongFalsely : Prop := fnUnfoldRow.holds Try.pinned (OpenSpec.ofChange fnUnfoldWrong)

/-- 'laws.FnVar': WHATEVER THE INPUT: true; the input reads as it did. -/
def fnVarSpec : ChangeSpec := { name := "fnVar", fn := fun _ => fun
  | [d] => { results := [.lit (.bool true)], args := [d] }
  | _ => none }
def fnVarRow : OpenClaim := { program := "ytjpkonbanejnkaa", sum := "dce1c38b58b3ba3c8338df8a969ab4c593ca7c9ee3ee391d8597612d5ef8e7fd", func := "loop.example/recordbatches/laws.FnVar", spec := "fnVar", apart := false }
def FnVarSaid : Prop := fnVarRow.holds Try.pinned (OpenSpec.ofChange fnVarSpec)

/-- ITS FALSE NEIGHBOUR: 'it returns false'. Refute it at one input. -/
def fnVarWrong : ChangeSpec := { name := "fnVar", fn := fun _ => fun
  | [d] => { results := [.lit (.bool false)], args := [d] }
  | _ => none }
def FnVarWrongFalsely : Prop := fnVarRow.holds Try.pinned (OpenSpec.ofChange fnVarWrong)

/-- 'laws.FnVarShape': WHATEVER THE INPUT: true; the input reads as it did. -/
def fnVarShapeSpec : ChangeSpec := { name := "fnVarShape", fn := fun _ => fun
  | [d] => { results := [.lit (.bool true)], args := [d] }
  | _ => none }
def fnVarShapeRow : OpenClaim := { program := "ytjpkonbanejnkaa", sum := "dce1c38b58b3ba3c8338df8a969ab4c593ca7c9ee3ee391d8597612d5ef8e7fd", func := "loop.example/recordbatches/laws.FnVarShape", spec := "fnVarShape", apart := false }
def FnVarShapeSaid : Prop := fnVarShapeRow.holds Try.pinned (OpenSpec.ofChange fnVarShapeSpec)

/-- ITS FALSE NEIGHBOUR: 'it returns false'. Refute it at one input. -/
def fnVarShapeWrong : ChangeSpec := { name := "fnVarShape", fn := fun _ => fun
  | [d] => { results := [.lit (.bool false)], args := [d] }
  | _ => none }
def FnVarShapeWrongFalsely : Prop := fnVarShapeRow.holds Try.pinned (OpenSpec.ofChange fnVarShapeWrong)

/-- 'laws.FnVarFrom': WHATEVER THE INPUT: true; the input reads as it did. -/
def fnVarFromSpec : ChangeSpec := { name := "fnVarFrom", fn := fun _ => fun
  | [d] => { results := [.lit (.bool true)], args := [d] }
  | _ => none }
def fnVarFromRow : OpenClaim := { program := "ytjpkonbanejnkaa", sum := "dce1c38b58b3ba3c8338df8a969ab4c593ca7c9ee3ee391d8597612d5ef8e7fd", func := "loop.example/recordbatches/laws.FnVarFrom", spec := "fnVarFrom", apart := false }
def FnVarFromSaid : Prop := fnVarFromRow.holds Try.pinned (OpenSpec.ofChange fnVarFromSpec)

/-- ITS FALSE NEIGHBOUR: 'it returns false'. Refute it at one input. -/
def fnVarFromWrong : ChangeSpec := { name := "fnVarFrom", fn := fun _ => fun
  | [d] => { results := [.lit (.bool false)], args := [d] }
  | _ => none }
def FnVarFromWrongFalsely : Prop := fnVarFromRow.holds Try.pinned (OpenSpec.ofChange fnVarFromWrong)

/-- 'laws.FnVarTorn': WHATEVER THE INPUT: true; the input reads as it did. -/
def fnVarTornSpec : ChangeSpec := { name := "fnVarTorn", fn := fun _ => fun
  | [d] => { results := [.lit (.bool true)], args := [d] }
  | _ => none }
def fnVarTornRow : OpenClaim := { program := "ytjpkonbanejnkaa", sum := "dce1c38b58b3ba3c8338df8a969ab4c593ca7c9ee3ee391d8597612d5ef8e7fd", func := "loop.example/recordbatches/laws.FnVarTorn", spec := "fnVarTorn", apart := false }
def FnVarTornSaid : Prop := fnVarTornRow.holds Try.pinned (OpenSpec.ofChange fnVarTornSpec)

/-- ITS FALSE NEIGHBOUR: 'it returns false'. Refute it at one input. -/
def fnVarTornWrong : ChangeSpec := { name := "fnVarTorn", fn := fun _ => fun
  | [d] => { results := [.lit (.bool false)], args := [d] }
  | _ => none }
def FnVarTornWrongFalsely : Prop := fnVarTornRow.holds Try.pinned (OpenSpec.ofChange fnVarTornWrong)

/-- 'laws.FnVarSize': WHATEVER THE INPUT: true; the input reads as it did. -/
def fnVarSizeSpec : ChangeSpec := { name := "fnVarSize", fn := fun _ => fun
  | [d] => { results := [.lit (.bool true)], args := [d] }
  | _ => none }
def fnVarSizeRow : OpenClaim := { program := "ytjpkonbanejnkaa", sum := "dce1c38b58b3ba3c8338df8a969ab4c593ca7c9ee3ee391d8597612d5ef8e7fd", func := "loop.example/recordbatches/laws.FnVarSize", spec := "fnVarSize", apart := false }
def FnVarSizeSaid : Prop := fnVarSizeRow.holds Try.pinned (OpenSpec.ofChange fnVarSizeSpec)

/-- ITS FALSE NEIGHBOUR: 'it returns false'. Refute it at one input. -/
def fnVarSizeWrong : ChangeSpec := { name := "fnVarSize", fn := fun _ => fun
  | [d] => { results := [.lit (.bool false)], args := [d] }
  | _ => none }
def FnVarSizeWrongFalsely : Prop := fnVarSizeRow.holds Try.pinned (OpenSpec.ofChange fnVarSizeWrong)

/-- 'laws.FnVarSign': WHATEVER THE INPUT: true; the input reads as it did. -/
def fnVarSignSpec : ChangeSpec := { name := "fnVarSign", fn := fun _ => fun
  | [d] => { results := [.lit (.bool true)], args := [d] }
  | _ => none }
def fnVarSignRow : OpenClaim := { program := "ytjpkonbanejnkaa", sum := "dce1c38b58b3ba3c8338df8a969ab4c593ca7c9ee3ee391d8597612d5ef8e7fd", func := "loop.example/recordbatches/laws.FnVarSign", spec := "fnVarSign", apart := false }
def FnVarSignSaid : Prop := fnVarSignRow.holds Try.pinned (OpenSpec.ofChange fnVarSignSpec)

/-- ITS FALSE NEIGHBOUR: 'it returns false'. Refute it at one input. -/
def fnVarSignWrong : ChangeSpec := { name := "fnVarSign", fn := fun _ => fun
  | [d] => { results := [.lit (.bool false)], args := [d] }
  | _ => none }
def FnVarSignWrongFalsely : Prop := fnVarSignRow.holds Try.pinned (OpenSpec.ofChange fnVarSignWrong)

/-- 'laws.FnExactFoldNumber': WHATEVER THE INPUT: true; the input reads as it did. -/
def fnExactFoldNumberSpec : ChangeSpec := { name := "fnExactFoldNumber", fn := fun _ => fun
  | [d] => { results := [.lit (.bool true)], args := [d] }
  | _ => none }
def fnExactFoldNumberRow : OpenClaim := { program := "ytjpkonbanejnkaa", sum := "dce1c38b58b3ba3c8338df8a969ab4c593ca7c9ee3ee391d8597612d5ef8e7fd", func := "loop.example/recordbatches/laws.FnExactFoldNumber", spec := "fnExactFoldNumber", apart := false }
def FnExactFoldNumberSaid : Prop := fnExactFoldNumberRow.holds Try.pinned (OpenSpec.ofChange fnExactFoldNumberSpec)

/-- ITS FALSE NEIGHBOUR: 'it returns false'. Refute it at one input. -/
def fnExactFoldNumberWrong : ChangeSpec := { name := "fnExactFoldNumber", fn := fun _ => fun
  | [d] => { results := [.lit (.bool false)], args := [d] }
  | _ => none }
def FnExactFoldNumberWrongFalsely : Prop := fnExactFoldNumberRow.holds Try.pinned (OpenSpec.ofChange fnExactFoldNumberWrong)

/-- 'laws.FnExactUnfoldNumber': WHATEVER THE INPUT: true; the input reads as it did. -/
def fnExactUnfoldNumberSpec : ChangeSpec := { name := "fnExactUnfoldNumber", fn := fun _ => fun
  | [d] => { results := [.lit (.bool true)], args := [d] }
  | _ => none }
def fnExactUnfoldNumberRow : OpenClaim := { program := "ytjpkonbanejnkaa", sum := "dce1c38b58b3ba3c8338df8a969ab4c593ca7c9ee3ee391d8597612d5ef8e7fd", func := "loop.example/recordbatches/laws.FnExactUnfoldNumber", spec := "fnExactUnfoldNumber", apart := false }
def FnExactUnfoldNumberSaid : Prop := fnExactUnfoldNumberRow.holds Try.pinned (OpenSpec.ofChange fnExactUnfoldNumberSpec)

/-- ITS FALSE NEIGHBOUR: 'it returns false'. Refute it at one input. -/
def fnExactUnfoldNumberWrong : ChangeSpec := { name := "fnExactUnfoldNumber", fn := fun _ => fun
  | [d] => { results := [.lit (.bool false)], args := [d] }
  | _ => none }
def FnExactUnfoldNumberWrongFalsely : Prop := fnExactUnfoldNumberRow.holds Try.pinned (OpenSpec.ofChange fnExactUnfoldNumberWrong)

/-- 'laws.FnExactVarBytes': WHATEVER THE INPUT: true; the input reads as it did. -/
def fnExactVarBytesSpec : ChangeSpec := { name := "fnExactVarBytes", fn := fun _ => fun
  | [d] => { results := [.lit (.bool true)], args := [d] }
  | _ => none }
def fnExactVarBytesRow : OpenClaim := { program := "ytjpkonbanejnkaa", sum := "dce1c38b58b3ba3c8338df8a969ab4c593ca7c9ee3ee391d8597612d5ef8e7fd", func := "loop.example/recordbatches/laws.FnExactVarBytes", spec := "fnExactVarBytes", apart := false }
def FnExactVarBytesSaid : Prop := fnExactVarBytesRow.holds Try.pinned (OpenSpec.ofChange fnExactVarBytesSpec)

/-- ITS FALSE NEIGHBOUR: 'it returns false'. Refute it at one input. -/
def fnExactVarBytesWrong : ChangeSpec := { name := "fnExactVarBytes", fn := fun _ => fun
  | [d] => { results := [.lit (.bool false)], args := [d] }
  | _ => none }
def FnExactVarBytesWrongFalsely : Prop := fnExactVarBytesRow.holds Try.pinned (OpenSpec.ofChange fnExactVarBytesWrong)

/-- 'laws.FnExactVarFrom': WHATEVER THE INPUT: true; the input reads as it did. -/
def fnExactVarFromSpec : ChangeSpec := { name := "fnExactVarFrom", fn := fun _ => fun
  | [d1, d2] => { results := [.lit (.bool true)], args := [d1, d2] }
  | _ => none }
def fnExactVarFromRow : OpenClaim := { program := "ytjpkonbanejnkaa", sum := "dce1c38b58b3ba3c8338df8a969ab4c593ca7c9ee3ee391d8597612d5ef8e7fd", func := "loop.example/recordbatches/laws.FnExactVarFrom", spec := "fnExactVarFrom", apart := false }
def FnExactVarFromSaid : Prop := fnExactVarFromRow.holds Try.pinned (OpenSpec.ofChange fnExactVarFromSpec)

/-- ITS FALSE NEIGHBOUR: 'it returns false'. Refute it at one input. -/
def fnExactVarFromWrong : ChangeSpec := { name := "fnExactVarFrom", fn := fun _ => fun
  | [d1, d2] => { results := [.lit (.bool false)], args := [d1, d2] }
  | _ => none }
def FnExactVarFromWrongFalsely : Prop := fnExactVarFromRow.holds Try.pinned (OpenSpec.ofChange fnExactVarFromWrong)

/-- 'laws.FnExactVarSize': WHATEVER THE INPUT: true; the input reads as it did. -/
def fnExactVarSizeSpec : ChangeSpec := { name := "fnExactVarSize", fn := fun _ => fun
  | [d] => { results := [.lit (.bool true)], args := [d] }
  | _ => none }
def fnExactVarSizeRow : OpenClaim := { program := "ytjpkonbanejnkaa", sum := "dce1c38b58b3ba3c8338df8a969ab4c593ca7c9ee3ee391d8597612d5ef8e7fd", func := "loop.example/recordbatches/laws.FnExactVarSize", spec := "fnExactVarSize", apart := false }
def FnExactVarSizeSaid : Prop := fnExactVarSizeRow.holds Try.pinned (OpenSpec.ofChange fnExactVarSizeSpec)

/-- ITS FALSE NEIGHBOUR: 'it returns false'. Refute it at one input. -/
def fnExactVarSizeWrong : ChangeSpec := { name := "fnExactVarSize", fn := fun _ => fun
  | [d] => { results := [.lit (.bool false)], args := [d] }
  | _ => none }
def FnExactVarSizeWrongFalsely : Prop := fnExactVarSizeRow.holds Try.pinned (OpenSpec.ofChange fnExactVarSizeWrong)

/- THE SECOND FORM. 'bulk': how many values and letters a reading holds, each counted each time it is reached (what is shared counts as often as it is met; a slice's spare places count too). A statement '..UptoSaid' is the law's where the arguments, and the package variables that the reading takes, are together of bulk at most 1048576: NARROWER than '..Said'. Prove '..Said' where nothing that the law and all that it calls make is longer than what came in: it says more and counts as full. Else prove '..UptoSaid'. A law counts once. -/
mutual
def uptoBulk {H : Type} : DataW H → Nat
  | .lit (.string bytes) => bytes.length + 1
  | .lit _ => 1
  | .nil => 1
  | .ptr d => uptoBulk d + 1
  | .slice elems spare => uptoBulkAll elems + uptoBulkAll spare + 1
  | .agg parts => uptoBulkAll parts + 1
  | .iface _ d => uptoBulk d + 1
  | .map entries => uptoBulkEntries entries + 1
  | .held _ => 1
def uptoBulkAll {H : Type} : List (DataW H) → Nat
  | [] => 0
  | d :: r => uptoBulk d + uptoBulkAll r
def uptoBulkEntries {H : Type} : List (Lit × DataW H) → Nat
  | [] => 0
  | x :: r => uptoBulkEntry x + uptoBulkEntries r
def uptoBulkEntry {H : Type} : Lit × DataW H → Nat
  | (.string bytes, d) => bytes.length + uptoBulk d + 1
  | (_, d) => uptoBulk d + 1
 end
def uptoSmall : (H : Type) → List (DataW H) → Bool := fun _ ds => decide (uptoBulkAll ds ≤ 1048576)
def OpenSpec.upto (s : _root_.Go.ChangeSpec) : _root_.Go.OpenSpec := { _root_.Go.OpenSpec.ofChange s with cond := some uptoSmall }

/-- 'laws.FnFold', WHERE WHAT IT READS IS OF BULK AT MOST 1048576: true; the input reads as it did. -/
def fnFoldUptoRow : OpenClaim := { program := "ytjpkonbanejnkaa", sum := "dce1c38b58b3ba3c8338df8a969ab4c593ca7c9ee3ee391d8597612d5ef8e7fd", func := "loop.example/recordbatches/laws.FnFold", spec := "fnFold", apart := false, narrowed := true }
def FnFoldUptoSaid : Prop := fnFoldUptoRow.holds Try.pinned (OpenSpec.upto fnFoldSpec)

/-- 'laws.FnFoldSmall', WHERE WHAT IT READS IS OF BULK AT MOST 1048576: true; the input reads as it did. -/
def fnFoldSmallUptoRow : OpenClaim := { program := "ytjpkonbanejnkaa", sum := "dce1c38b58b3ba3c8338df8a969ab4c593ca7c9ee3ee391d8597612d5ef8e7fd", func := "loop.example/recordbatches/laws.FnFoldSmall", spec := "fnFoldSmall", apart := false, narrowed := true }
def FnFoldSmallUptoSaid : Prop := fnFoldSmallUptoRow.holds Try.pinned (OpenSpec.upto fnFoldSmallSpec)

/-- 'laws.FnUnfold', WHERE WHAT IT READS IS OF BULK AT MOST 1048576: true; the input reads as it did. -/
def fnUnfoldUptoRow : OpenClaim := { program := "ytjpkonbanejnkaa", sum := "dce1c38b58b3ba3c8338df8a969ab4c593ca7c9ee3ee391d8597612d5ef8e7fd", func := "loop.example/recordbatches/laws.FnUnfold", spec := "fnUnfold", apart := false, narrowed := true }
def FnUnfoldUptoSaid : Prop := fnUnfoldUptoRow.holds Try.pinned (OpenSpec.upto fnUnfoldSpec)

/-- 'laws.FnVar', WHERE WHAT IT READS IS OF BULK AT MOST 1048576: true; the input reads as it did. -/
def fnVarUptoRow : OpenClaim := { program := "ytjpkonbanejnkaa", sum := "dce1c38b58b3ba3c8338df8a969ab4c593ca7c9ee3ee391d8597612d5ef8e7fd", func := "loop.example/recordbatches/laws.FnVar", spec := "fnVar", apart := false, narrowed := true }
def FnVarUptoSaid : Prop := fnVarUptoRow.holds Try.pinned (OpenSpec.upto fnVarSpec)

/-- 'laws.FnVarShape', WHERE WHAT IT READS IS OF BULK AT MOST 1048576: true; the input reads as it did. -/
def fnVarShapeUptoRow : OpenClaim := { program := "ytjpkonbanejnkaa", sum := "dce1c38b58b3ba3c8338df8a969ab4c593ca7c9ee3ee391d8597612d5ef8e7fd", func := "loop.example/recordbatches/laws.FnVarShape", spec := "fnVarShape", apart := false, narrowed := true }
def FnVarShapeUptoSaid : Prop := fnVarShapeUptoRow.holds Try.pinned (OpenSpec.upto fnVarShapeSpec)

/-- 'laws.FnVarFrom', WHERE WHAT IT READS IS OF BULK AT MOST 1048576: true; the input reads as it did. -/
def fnVarFromUptoRow : OpenClaim := { program := "ytjpkonbanejnkaa", sum := "dce1c38b58b3ba3c8338df8a969ab4c593ca7c9ee3ee391d8597612d5ef8e7fd", func := "loop.example/recordbatches/laws.FnVarFrom", spec := "fnVarFrom", apart := false, narrowed := true }
def FnVarFromUptoSaid : Prop := fnVarFromUptoRow.holds Try.pinned (OpenSpec.upto fnVarFromSpec)

/-- 'laws.FnVarTorn', WHERE WHAT IT READS IS OF BULK AT MOST 1048576: true; the input reads as it did. -/
def fnVarTornUptoRow : OpenClaim := { program := "ytjpkonbanejnkaa", sum := "dce1c38b58b3ba3c8338df8a969ab4c593ca7c9ee3ee391d8597612d5ef8e7fd", func := "loop.example/recordbatches/laws.FnVarTorn", spec := "fnVarTorn", apart := false, narrowed := true }
def FnVarTornUptoSaid : Prop := fnVarTornUptoRow.holds Try.pinned (OpenSpec.upto fnVarTornSpec)

/-- 'laws.FnVarSize', WHERE WHAT IT READS IS OF BULK AT MOST 1048576: true; the input reads as it did. -/
def fnVarSizeUptoRow : OpenClaim := { program := "ytjpkonbanejnkaa", sum := "dce1c38b58b3ba3c8338df8a969ab4c593ca7c9ee3ee391d8597612d5ef8e7fd", func := "loop.example/recordbatches/laws.FnVarSize", spec := "fnVarSize", apart := false, narrowed := true }
def FnVarSizeUptoSaid : Prop := fnVarSizeUptoRow.holds Try.pinned (OpenSpec.upto fnVarSizeSpec)

/-- 'laws.FnVarSign', WHERE WHAT IT READS IS OF BULK AT MOST 1048576: true; the input reads as it did. -/
def fnVarSignUptoRow : OpenClaim := { program := "ytjpkonbanejnkaa", sum := "dce1c38b58b3ba3c8338df8a969ab4c593ca7c9ee3ee391d8597612d5ef8e7fd", func := "loop.example/recordbatches/laws.FnVarSign", spec := "fnVarSign", apart := false, narrowed := true }
def FnVarSignUptoSaid : Prop := fnVarSignUptoRow.holds Try.pinned (OpenSpec.upto fnVarSignSpec)

/-- 'laws.FnExactFoldNumber', WHERE WHAT IT READS IS OF BULK AT MOST 1048576: true; the input reads as it did. -/
def fnExactFoldNumberUptoRow : OpenClaim := { program := "ytjpkonbanejnkaa", sum := "dce1c38b58b3ba3c8338df8a969ab4c593ca7c9ee3ee391d8597612d5ef8e7fd", func := "loop.example/recordbatches/laws.FnExactFoldNumber", spec := "fnExactFoldNumber", apart := false, narrowed := true }
def FnExactFoldNumberUptoSaid : Prop := fnExactFoldNumberUptoRow.holds Try.pinned (OpenSpec.upto fnExactFoldNumberSpec)

/-- 'laws.FnExactUnfoldNumber', WHERE WHAT IT READS IS OF BULK AT MOST 1048576: true; the input reads as it did. -/
def fnExactUnfoldNumberUptoRow : OpenClaim := { program := "ytjpkonbanejnkaa", sum := "dce1c38b58b3ba3c8338df8a969ab4c593ca7c9ee3ee391d8597612d5ef8e7fd", func := "loop.example/recordbatches/laws.FnExactUnfoldNumber", spec := "fnExactUnfoldNumber", apart := false, narrowed := true }
def FnExactUnfoldNumberUptoSaid : Prop := fnExactUnfoldNumberUptoRow.holds Try.pinned (OpenSpec.upto fnExactUnfoldNumberSpec)

/-- 'laws.FnExactVarBytes', WHERE WHAT IT READS IS OF BULK AT MOST 1048576: true; the input reads as it did. -/
def fnExactVarBytesUptoRow : OpenClaim := { program := "ytjpkonbanejnkaa", sum := "dce1c38b58b3ba3c8338df8a969ab4c593ca7c9ee3ee391d8597612d5ef8e7fd", func := "loop.example/recordbatches/laws.FnExactVarBytes", spec := "fnExactVarBytes", apart := false, narrowed := true }
def FnExactVarBytesUptoSaid : Prop := fnExactVarBytesUptoRow.holds Try.pinned (OpenSpec.upto fnExactVarBytesSpec)

/-- 'laws.FnExactVarFrom', WHERE WHAT IT READS IS OF BULK AT MOST 1048576: true; the input reads as it did. -/
def fnExactVarFromUptoRow : OpenClaim := { program := "ytjpkonbanejnkaa", sum := "dce1c38b58b3ba3c8338df8a969ab4c593ca7c9ee3ee391d8597612d5ef8e7fd", func := "loop.example/recordbatches/laws.FnExactVarFrom", spec := "fnExactVarFrom", apart := false, narrowed := true }
def FnExactVarFromUptoSaid : Prop := fnExactVarFromUptoRow.holds Try.pinned (OpenSpec.upto fnExactVarFromSpec)

/-- 'laws.FnExactVarSize', WHERE WHAT IT READS IS OF BULK AT MOST 1048576: true; the input reads as it did. -/
def fnExactVarSizeUptoRow : OpenClaim := { program := "ytjpkonbanejnkaa", sum := "dce1c38b58b3ba3c8338df8a969ab4c593ca7c9ee3ee391d8597612d5ef8e7fd", func := "loop.example/recordbatches/laws.FnExactVarSize", spec := "fnExactVarSize", apart := false, narrowed := true }
def FnExactVarSizeUptoSaid : Prop := fnExactVarSizeUptoRow.holds Try.pinned (OpenSpec.upto fnExactVarSizeSpec)

end Rows
end Go.Proofs.Ytjpkonbanejnkaa
