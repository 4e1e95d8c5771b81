/-
  No cell of these rows narrows 'for every input' (looked for: loops, veiled, ifaces, maps, wideKeys, modest, calm, conditions, laid).
  DERIVED. THE GIVEN ROWS OF THIS SEAT. 7 by the template 'for every input the law returns true; each argument reads behind the call as it read before'; 0 by the template 'total and deterministic' (their statements: YtaakcikjdphocaaTotals.lean).
  GIVEN WITH THE SEED: the statements are not yours to turn. If you find one false, say at which input.
  Laid BY PROGRAM, IN A SANDBOX (cutbox-rows.mjs): the forced cells as the released guide's own fill.sh prints them over the translation 745820e1126884d8… (all of the seat's roots in one cut). By AI agents, Wed Nov 11 2026. No macro, syntax, notation, axiom, sorry.
-/
import Derived.Test.YtaakcikjdphocaaChecked
import GoSem.Claim
import GoSem.ClaimJoined
import GoSem.ClaimMapViews
import Derived.JoinedTies
import Derived.KernelRfl
namespace Go.Proofs.Ytaakcikjdphocaa
/- THE CELL 'sum', in the pinned program and in every row, IS THE sha256 OF THE DUMP (.gsa) THAT YtaakcikjdphocaaProg.lean LOADS. Nothing in Lean hashes anything: it is a label: what it is worth is what the hold of that sum in a sandbox is worth. -/
noncomputable def Try.pinned : Pinned := { name := "ytaakcikjdphocaa", sum := "745820e1126884d8fe4adc27fecb49a86122ba74b1a1797601a9ebde3d44b346", checked := Try.checked }
namespace Rows
def none {H : Type} : Left H := { results := [], args := [] }

/-- 'laws.FnBatchHead': WHATEVER THE INPUT: true; the input reads as it did. -/
def fnBatchHeadSpec : ChangeSpec := { name := "fnBatchHead", fn := fun _ => fun
  | [d] => { results := [.lit (.bool true)], args := [d] }
  | _ => none }
def fnBatchHeadRow : OpenClaim := { program := "ytaakcikjdphocaa", sum := "745820e1126884d8fe4adc27fecb49a86122ba74b1a1797601a9ebde3d44b346", func := "loop.example/recordbatches/laws.FnBatchHead", spec := "fnBatchHead", plainKeys := false, apart := false }
def FnBatchHeadSaid : Prop := fnBatchHeadRow.holds Try.pinned (OpenSpec.ofChange fnBatchHeadSpec)

/-- ITS FALSE NEIGHBOUR: 'it returns false'. Refute it at one input. -/
def fnBatchHeadWrong : ChangeSpec := { name := "fnBatchHead", fn := fun _ => fun
  | [d] => { results := [.lit (.bool false)], args := [d] }
  | _ => none }
def FnBatchHeadWrongFalsely : Prop := fnBatchHeadRow.holds Try.pinned (OpenSpec.ofChange fnBatchHeadWrong)

/-- 'laws.FnBatchSpan': WHATEVER THE INPUT: true; the input reads as it did. -/
def fnBatchSpanSpec : ChangeSpec := { name := "fnBatchSpan", fn := fun _ => fun
  | [d] => { results := [.lit (.bool true)], args := [d] }
  | _ => none }
def fnBatchSpanRow : OpenClaim := { program := "ytaakcikjdphocaa", sum := "745820e1126884d8fe4adc27fecb49a86122ba74b1a1797601a9ebde3d44b346", func := "loop.example/recordbatches/laws.FnBatchSpan", spec := "fnBatchSpan", plainKeys := false, apart := false }
def FnBatchSpanSaid : Prop := fnBatchSpanRow.holds Try.pinned (OpenSpec.ofChange fnBatchSpanSpec)

/-- ITS FALSE NEIGHBOUR: 'it returns false'. Refute it at one input. -/
def fnBatchSpanWrong : ChangeSpec := { name := "fnBatchSpan", fn := fun _ => fun
  | [d] => { results := [.lit (.bool false)], args := [d] }
  | _ => none }
def FnBatchSpanWrongFalsely : Prop := fnBatchSpanRow.holds Try.pinned (OpenSpec.ofChange fnBatchSpanWrong)

/-- 'laws.FnBatchPart': WHATEVER THE INPUT: true; the input reads as it did. -/
def fnBatchPartSpec : ChangeSpec := { name := "fnBatchPart", fn := fun _ => fun
  | [d] => { results := [.lit (.bool true)], args := [d] }
  | _ => none }
def fnBatchPartRow : OpenClaim := { program := "ytaakcikjdphocaa", sum := "745820e1126884d8fe4adc27fecb49a86122ba74b1a1797601a9ebde3d44b346", func := "loop.example/recordbatches/laws.FnBatchPart", spec := "fnBatchPart", plainKeys := false, apart := false }
def FnBatchPartSaid : Prop := fnBatchPartRow.holds Try.pinned (OpenSpec.ofChange fnBatchPartSpec)

/-- ITS FALSE NEIGHBOUR: 'it returns false'. Refute it at one input. -/
def fnBatchPartWrong : ChangeSpec := { name := "fnBatchPart", fn := fun _ => fun
  | [d] => { results := [.lit (.bool false)], args := [d] }
  | _ => none }
def FnBatchPartWrongFalsely : Prop := fnBatchPartRow.holds Try.pinned (OpenSpec.ofChange fnBatchPartWrong)

/-- 'laws.FnBatchNumber': WHATEVER THE INPUT: true; the input reads as it did. -/
def fnBatchNumberSpec : ChangeSpec := { name := "fnBatchNumber", fn := fun _ => fun
  | [d] => { results := [.lit (.bool true)], args := [d] }
  | _ => none }
def fnBatchNumberRow : OpenClaim := { program := "ytaakcikjdphocaa", sum := "745820e1126884d8fe4adc27fecb49a86122ba74b1a1797601a9ebde3d44b346", func := "loop.example/recordbatches/laws.FnBatchNumber", spec := "fnBatchNumber", plainKeys := false, apart := false }
def FnBatchNumberSaid : Prop := fnBatchNumberRow.holds Try.pinned (OpenSpec.ofChange fnBatchNumberSpec)

/-- ITS FALSE NEIGHBOUR: 'it returns false'. Refute it at one input. -/
def fnBatchNumberWrong : ChangeSpec := { name := "fnBatchNumber", fn := fun _ => fun
  | [d] => { results := [.lit (.bool false)], args := [d] }
  | _ => none }
def FnBatchNumberWrongFalsely : Prop := fnBatchNumberRow.holds Try.pinned (OpenSpec.ofChange fnBatchNumberWrong)

/-- 'laws.FnExactBatchValid': WHATEVER THE INPUT: true; the input reads as it did. -/
def fnExactBatchValidSpec : ChangeSpec := { name := "fnExactBatchValid", fn := fun _ => fun
  | [d] => { results := [.lit (.bool true)], args := [d] }
  | _ => none }
def fnExactBatchValidRow : OpenClaim := { program := "ytaakcikjdphocaa", sum := "745820e1126884d8fe4adc27fecb49a86122ba74b1a1797601a9ebde3d44b346", func := "loop.example/recordbatches/laws.FnExactBatchValid", spec := "fnExactBatchValid", plainKeys := false, apart := false }
def FnExactBatchValidSaid : Prop := fnExactBatchValidRow.holds Try.pinned (OpenSpec.ofChange fnExactBatchValidSpec)

/-- ITS FALSE NEIGHBOUR: 'it returns false'. Refute it at one input. -/
def fnExactBatchValidWrong : ChangeSpec := { name := "fnExactBatchValid", fn := fun _ => fun
  | [d] => { results := [.lit (.bool false)], args := [d] }
  | _ => none }
def FnExactBatchValidWrongFalsely : Prop := fnExactBatchValidRow.holds Try.pinned (OpenSpec.ofChange fnExactBatchValidWrong)

/-- 'laws.FnExactBatchBytes': WHATEVER THE INPUT: true; the input reads as it did. -/
def fnExactBatchBytesSpec : ChangeSpec := { name := "fnExactBatchBytes", fn := fun _ => fun
  | [d] => { results := [.lit (.bool true)], args := [d] }
  | _ => none }
def fnExactBatchBytesRow : OpenClaim := { program := "ytaakcikjdphocaa", sum := "745820e1126884d8fe4adc27fecb49a86122ba74b1a1797601a9ebde3d44b346", func := "loop.example/recordbatches/laws.FnExactBatchBytes", spec := "fnExactBatchBytes", plainKeys := false, apart := false }
def FnExactBatchBytesSaid : Prop := fnExactBatchBytesRow.holds Try.pinned (OpenSpec.ofChange fnExactBatchBytesSpec)

/-- ITS FALSE NEIGHBOUR: 'it returns false'. Refute it at one input. -/
def fnExactBatchBytesWrong : ChangeSpec := { name := "fnExactBatchBytes", fn := fun _ => fun
  | [d] => { results := [.lit (.bool false)], args := [d] }
  | _ => none }
def FnExactBatchBytesWrongFalsely : Prop := fnExactBatchBytesRow.holds Try.pinned (OpenSpec.ofChange fnExactBatchBytesWrong)

/-- 'laws.FnExactBatchSpan': WHATEVER THE INPUT: true; the input reads as it did. -/
def fnExactBatchSpanSpec : ChangeSpec := { name := "fnExactBatchSpan", fn := fun _ => fun
  | [d] => { results := [.lit (.bool true)], args := [d] }
  | _ => none }
def fnExactBatchSpanRow : OpenClaim := { program := "ytaakcikjdphocaa", sum := "745820e1126884d8fe4adc27fecb49a86122ba74b1a1797601a9ebde3d44b346", func := "loop.example/recordbatches/laws.FnExactBatchSpan", spec := "fnExactBatchSpan", plainKeys := false, apart := false }
def FnExactBatchSpanSaid : Prop := fnExactBatchSpanRow.holds Try.pinned (OpenSpec.ofChange fnExactBatchSpanSpec)

/-- ITS FALSE NEIGHBOUR: 'it returns false'. Refute it at one input. -/
def fnExactBatchSpanWrong : ChangeSpec := { name := "fnExactBatchSpan", fn := fun _ => fun
  | [d] => { results := [.lit (.bool false)], args := [d] }
  | _ => none }
def FnExactBatchSpanWrongFalsely : Prop := fnExactBatchSpanRow.holds Try.pinned (OpenSpec.ofChange fnExactBatchSpanWrong)

/- THE SECOND FORM. 'bulk': how many values and letters a reading holds, each counted each time it is reached (what is shared counts as often as it is met; a slice's spare places count too). A statement '..UptoSaid' is the law's where the arguments, and the package variables that the reading takes, are together of bulk at most 1048576: NARROWER than '..Said'. Prove '..Said' where nothing that the law and all that it calls make is longer than what came in: it says more and counts as full. Else prove '..UptoSaid'. A law counts once. -/
mutual
def uptoBulk {H : Type} : DataW H → Nat
  | .lit (.string bytes) => bytes.length + 1
  | .lit _ => 1
  | .nil => 1
  | .ptr d => uptoBulk d + 1
  | .slice elems spare => uptoBulkAll elems + uptoBulkAll spare + 1
  | .agg parts => uptoBulkAll parts + 1
  | .iface _ d => uptoBulk d + 1
  | .map entries => uptoBulkEntries entries + 1
  | .held _ => 1
def uptoBulkAll {H : Type} : List (DataW H) → Nat
  | [] => 0
  | d :: r => uptoBulk d + uptoBulkAll r
def uptoBulkEntries {H : Type} : List (Lit × DataW H) → Nat
  | [] => 0
  | x :: r => uptoBulkEntry x + uptoBulkEntries r
def uptoBulkEntry {H : Type} : Lit × DataW H → Nat
  | (.string bytes, d) => bytes.length + uptoBulk d + 1
  | (_, d) => uptoBulk d + 1
 end
def uptoSmall : (H : Type) → List (DataW H) → Bool := fun _ ds => decide (uptoBulkAll ds ≤ 1048576)
def OpenSpec.upto (s : _root_.Go.ChangeSpec) : _root_.Go.OpenSpec := { _root_.Go.OpenSpec.ofChange s with cond := some uptoSmall }

/-- 'laws.FnBatchHead', WHERE WHAT IT READS IS OF BULK AT MOST 1048576: true; the input reads as it did. -/
def fnBatchHeadUptoRow : OpenClaim := { program := "ytaakcikjdphocaa", sum := "745820e1126884d8fe4adc27fecb49a86122ba74b1a1797601a9ebde3d44b346", func := "loop.example/recordbatches/laws.FnBatchHead", spec := "fnBatchHead", plainKeys := false, apart := false, narrowed := true }
def FnBatchHeadUptoSaid : Prop := fnBatchHeadUptoRow.holds Try.pinned (OpenSpec.upto fnBatchHeadSpec)

/-- 'laws.FnBatchSpan', WHERE WHAT IT READS IS OF BULK AT MOST 1048576: true; the input reads as it did. -/
def fnBatchSpanUptoRow : OpenClaim := { program := "ytaakcikjdphocaa", sum := "745820e1126884d8fe4adc27fecb49a86122ba74b1a1797601a9ebde3d44b346", func := "loop.example/recordbatches/laws.FnBatchSpan", spec := "fnBatchSpan", plainKeys := false, apart := false, narrowed := true }
def FnBatchSpanUptoSaid : Prop := fnBatchSpanUptoRow.holds Try.pinned (OpenSpec.upto fnBatchSpanSpec)

/-- 'laws.FnBatchPart', WHERE WHAT IT READS IS OF BULK AT MOST 1048576: true; the input reads as it did. -/
def fnBatchPartUptoRow : OpenClaim := { program := "ytaakcikjdphocaa", sum := "745820e1126884d8fe4adc27fecb49a86122ba74b1a1797601a9ebde3d44b346", func := "loop.example/recordbatches/laws.FnBatchPart", spec := "fnBatchPart", plainKeys := false, apart := false, narrowed := true }
def FnBatchPartUptoSaid : Prop := fnBatchPartUptoRow.holds Try.pinned (OpenSpec.upto fnBatchPartSpec)

/-- 'laws.FnBatchNumber', WHERE WHAT IT READS IS OF BULK AT MOST 1048576: true; the input reads as it did. -/
def fnBatchNumberUptoRow : OpenClaim := { program := "ytaakcikjdphocaa", sum := "745820e1126884d8fe4adc27fecb49a86122ba74b1a1797601a9ebde3d44b346", func := "loop.example/recordbatches/laws.FnBatchNumber", spec := "fnBatchNumber", plainKeys := false, apart := false, narrowed := true }
def FnBatchNumberUptoSaid : Prop := fnBatchNumberUptoRow.holds Try.pinned (OpenSpec.upto fnBatchNumberSpec)

/-- 'laws.FnExactBatchValid', WHERE WHAT IT READS IS OF BULK AT MOST 1048576: true; the input reads as it did. -/
def fnExactBatchValidUptoRow : OpenClaim := { program := "ytaakcikjdphocaa", sum := "745820e1126884d8fe4adc27fecb49a86122ba74b1a1797601a9ebde3d44b346", func := "loop.example/recordbatches/laws.FnExactBatchValid", spec := "fnExactBatchValid", plainKeys := false, apart := false, narrowed := true }
def FnExactBatchValidUptoSaid : Prop := fnExactBatchValidUptoRow.holds Try.pinned (OpenSpec.upto fnExactBatchValidSpec)

/-- 'laws.FnExactBatchBytes', WHERE WHAT IT READS IS OF BULK AT MOST 1048576: true; the input reads as it did. -/
def fnExactBatchBytesUptoRow : OpenClaim := { program := "ytaakcikjdphocaa", sum := "745820e1126884d8fe4adc27fecb49a86122ba74b1a1797601a9ebde3d44b346", func := "loop.example/recordbatches/laws.FnExactBatchBytes", spec := "fnExactBatchBytes", plainKeys := false, apart := false, narrowed := true }
def FnExactBatchBytesUptoSaid : Prop := fnExactBatchBytesUptoRow.holds Try.pinned (OpenSpec.upto fnExactBatchBytesSpec)

/-- 'laws.FnExactBatchSpan', WHERE WHAT IT READS IS OF BULK AT MOST 1048576: true; the input reads as it did. -/
def fnExactBatchSpanUptoRow : OpenClaim := { program := "ytaakcikjdphocaa", sum := "745820e1126884d8fe4adc27fecb49a86122ba74b1a1797601a9ebde3d44b346", func := "loop.example/recordbatches/laws.FnExactBatchSpan", spec := "fnExactBatchSpan", plainKeys := false, apart := false, narrowed := true }
def FnExactBatchSpanUptoSaid : Prop := fnExactBatchSpanUptoRow.holds Try.pinned (OpenSpec.upto fnExactBatchSpanSpec)

end Rows
end Go.Proofs.Ytaakcikjdphocaa
