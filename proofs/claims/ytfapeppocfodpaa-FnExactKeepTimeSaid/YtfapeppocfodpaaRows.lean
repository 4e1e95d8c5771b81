/-
  No cell of these rows narrows 'for every input' (looked for: loops, veiled, ifaces, maps, wideKeys, modest, calm, conditions, laid).
  DERIVED. THE GIVEN ROWS OF THIS SEAT. 5 by the template 'for every input the law returns true; each argument reads behind the call as it read before'; 0 by the template 'total and deterministic' (their statements: YtfapeppocfodpaaTotals.lean).
  GIVEN WITH THE SEED: the statements are not yours to turn. If you find one false, say at which input.
  Laid BY PROGRAM, IN A SANDBOX (cutbox-rows.mjs): the forced cells as the released guide's own fill.sh prints them over the translation f5853617aaa5475d… (all of the seat's roots in one cut). By AI agents, Wed Nov 11 2026. No macro, syntax, notation, axiom, sorry.
-/
import Derived.Test.YtfapeppocfodpaaChecked
import GoSem.Claim
import GoSem.ClaimJoined
import GoSem.ClaimMapViews
import Derived.JoinedTies
import Derived.KernelRfl
namespace Go.Proofs.Ytfapeppocfodpaa
/- THE CELL 'sum', in the pinned program and in every row, IS THE sha256 OF THE DUMP (.gsa) THAT YtfapeppocfodpaaProg.lean LOADS. Nothing in Lean hashes anything: it is a label: what it is worth is what the hold of that sum in a sandbox is worth. -/
noncomputable def Try.pinned : Pinned := { name := "ytfapeppocfodpaa", sum := "f5853617aaa5475da5709d3fd239c6a3054f74f2e7ee90f564975910e0880c89", checked := Try.checked }
namespace Rows
def none {H : Type} : Left H := { results := [], args := [] }

/-- 'laws.FnExactProducersRun': WHATEVER THE INPUT: true; the input reads as it did. -/
def fnExactProducersRunSpec : ChangeSpec := { name := "fnExactProducersRun", fn := fun _ => fun
  | [d] => { results := [.lit (.bool true)], args := [d] }
  | _ => none }
def fnExactProducersRunRow : OpenClaim := { program := "ytfapeppocfodpaa", sum := "f5853617aaa5475da5709d3fd239c6a3054f74f2e7ee90f564975910e0880c89", func := "loop.example/recordbatches/laws.FnExactProducersRun", spec := "fnExactProducersRun", plainKeys := false, apart := false }
def FnExactProducersRunSaid : Prop := fnExactProducersRunRow.holds Try.pinned (OpenSpec.ofChange fnExactProducersRunSpec)

/-- ITS FALSE NEIGHBOUR: 'it returns false'. Refute it at one input. -/
def fnExactProducersRunWrong : ChangeSpec := { name := "fnExactProducersRun", fn := fun _ => fun
  | [d] => { results := [.lit (.bool false)], args := [d] }
  | _ => none }
def FnExactProducersRunWrongFalsely : Prop := fnExactProducersRunRow.holds Try.pinned (OpenSpec.ofChange fnExactProducersRunWrong)

/-- 'laws.FnRunProducers': WHATEVER THE INPUT: true; the input reads as it did. -/
def fnRunProducersSpec : ChangeSpec := { name := "fnRunProducers", fn := fun _ => fun
  | [d] => { results := [.lit (.bool true)], args := [d] }
  | _ => none }
def fnRunProducersRow : OpenClaim := { program := "ytfapeppocfodpaa", sum := "f5853617aaa5475da5709d3fd239c6a3054f74f2e7ee90f564975910e0880c89", func := "loop.example/recordbatches/laws.FnRunProducers", spec := "fnRunProducers", plainKeys := false, apart := false }
def FnRunProducersSaid : Prop := fnRunProducersRow.holds Try.pinned (OpenSpec.ofChange fnRunProducersSpec)

/-- ITS FALSE NEIGHBOUR: 'it returns false'. Refute it at one input. -/
def fnRunProducersWrong : ChangeSpec := { name := "fnRunProducers", fn := fun _ => fun
  | [d] => { results := [.lit (.bool false)], args := [d] }
  | _ => none }
def FnRunProducersWrongFalsely : Prop := fnRunProducersRow.holds Try.pinned (OpenSpec.ofChange fnRunProducersWrong)

/-- 'laws.FnRunTwice': WHATEVER THE INPUT: true; the input reads as it did. -/
def fnRunTwiceSpec : ChangeSpec := { name := "fnRunTwice", fn := fun _ => fun
  | [d] => { results := [.lit (.bool true)], args := [d] }
  | _ => none }
def fnRunTwiceRow : OpenClaim := { program := "ytfapeppocfodpaa", sum := "f5853617aaa5475da5709d3fd239c6a3054f74f2e7ee90f564975910e0880c89", func := "loop.example/recordbatches/laws.FnRunTwice", spec := "fnRunTwice", plainKeys := false, apart := false }
def FnRunTwiceSaid : Prop := fnRunTwiceRow.holds Try.pinned (OpenSpec.ofChange fnRunTwiceSpec)

/-- ITS FALSE NEIGHBOUR: 'it returns false'. Refute it at one input. -/
def fnRunTwiceWrong : ChangeSpec := { name := "fnRunTwice", fn := fun _ => fun
  | [d] => { results := [.lit (.bool false)], args := [d] }
  | _ => none }
def FnRunTwiceWrongFalsely : Prop := fnRunTwiceRow.holds Try.pinned (OpenSpec.ofChange fnRunTwiceWrong)

/-- 'laws.FnExactKeepSize': WHATEVER THE INPUT: true; the input reads as it did. -/
def fnExactKeepSizeSpec : ChangeSpec := { name := "fnExactKeepSize", fn := fun _ => fun
  | [d1, d2] => { results := [.lit (.bool true)], args := [d1, d2] }
  | _ => none }
def fnExactKeepSizeRow : OpenClaim := { program := "ytfapeppocfodpaa", sum := "f5853617aaa5475da5709d3fd239c6a3054f74f2e7ee90f564975910e0880c89", func := "loop.example/recordbatches/laws.FnExactKeepSize", spec := "fnExactKeepSize", unfollowed := true, recurses := true, plainKeys := false, apart := false }
def FnExactKeepSizeSaid : Prop := fnExactKeepSizeRow.holds Try.pinned (OpenSpec.ofChange fnExactKeepSizeSpec)

/-- ITS FALSE NEIGHBOUR: 'it returns false'. Refute it at one input. -/
def fnExactKeepSizeWrong : ChangeSpec := { name := "fnExactKeepSize", fn := fun _ => fun
  | [d1, d2] => { results := [.lit (.bool false)], args := [d1, d2] }
  | _ => none }
def FnExactKeepSizeWrongFalsely : Prop := fnExactKeepSizeRow.holds Try.pinned (OpenSpec.ofChange fnExactKeepSizeWrong)

/-- 'laws.FnExactKeepTime': WHATEVER THE INPUT: true; the input reads as it did. -/
def fnExactKeepTimeSpec : ChangeSpec := { name := "fnExactKeepTime", fn := fun _ => fun
  | [d1, d2] => { results := [.lit (.bool true)], args := [d1, d2] }
  | _ => none }
def fnExactKeepTimeRow : OpenClaim := { program := "ytfapeppocfodpaa", sum := "f5853617aaa5475da5709d3fd239c6a3054f74f2e7ee90f564975910e0880c89", func := "loop.example/recordbatches/laws.FnExactKeepTime", spec := "fnExactKeepTime", unfollowed := true, recurses := true, plainKeys := false, apart := false }
def FnExactKeepTimeSaid : Prop := fnExactKeepTimeRow.holds Try.pinned (OpenSpec.ofChange fnExactKeepTimeSpec)

/-- ITS FALSE NEIGHBOUR: 'it returns false'. Refute it at one input. -/
def fnExactKeepTimeWrong : ChangeSpec := { name := "fnExactKeepTime", fn := fun _ => fun
  | [d1, d2] => { results := [.lit (.bool false)], args := [d1, d2] }
  | _ => none }
def FnExactKeepTimeWrongFalsely : Prop := fnExactKeepTimeRow.holds Try.pinned (OpenSpec.ofChange fnExactKeepTimeWrong)

/- THE SECOND FORM. 'bulk': how many values and letters a reading holds, each counted each time it is reached (what is shared counts as often as it is met; a slice's spare places count too). A statement '..UptoSaid' is the law's where the arguments, and the package variables that the reading takes, are together of bulk at most 1048576: NARROWER than '..Said'. Prove '..Said' where nothing that the law and all that it calls make is longer than what came in: it says more and counts as full. Else prove '..UptoSaid'. A law counts once. -/
mutual
def uptoBulk {H : Type} : DataW H → Nat
  | .lit (.string bytes) => bytes.length + 1
  | .lit _ => 1
  | .nil => 1
  | .ptr d => uptoBulk d + 1
  | .slice elems spare => uptoBulkAll elems + uptoBulkAll spare + 1
  | .agg parts => uptoBulkAll parts + 1
  | .iface _ d => uptoBulk d + 1
  | .map entries => uptoBulkEntries entries + 1
  | .held _ => 1
def uptoBulkAll {H : Type} : List (DataW H) → Nat
  | [] => 0
  | d :: r => uptoBulk d + uptoBulkAll r
def uptoBulkEntries {H : Type} : List (Lit × DataW H) → Nat
  | [] => 0
  | x :: r => uptoBulkEntry x + uptoBulkEntries r
def uptoBulkEntry {H : Type} : Lit × DataW H → Nat
  | (.string bytes, d) => bytes.length + uptoBulk d + 1
  | (_, d) => uptoBulk d + 1
 end
def uptoSmall : (H : Type) → List (DataW H) → Bool := fun _ ds => decide (uptoBulkAll ds ≤ 1048576)
def OpenSpec.upto (s : _root_.Go.ChangeSpec) : _root_.Go.OpenSpec := { _root_.Go.OpenSpec.ofChange s with cond := some uptoSmall }

/-- 'laws.FnExactProducersRun', WHERE WHAT IT READS IS OF BULK AT MOST 1048576: true; the input reads as it did. -/
def fnExactProducersRunUptoRow : OpenClaim := { program := "ytfapeppocfodpaa", sum := "f5853617aaa5475da5709d3fd239c6a3054f74f2e7ee90f564975910e0880c89", func := "loop.example/recordbatches/laws.FnExactProducersRun", spec := "fnExactProducersRun", plainKeys := false, apart := false, narrowed := true }
def FnExactProducersRunUptoSaid : Prop := fnExactProducersRunUptoRow.holds Try.pinned (OpenSpec.upto fnExactProducersRunSpec)

/-- 'laws.FnRunProducers', WHERE WHAT IT READS IS OF BULK AT MOST 1048576: true; the input reads as it did. -/
def fnRunProducersUptoRow : OpenClaim := { program := "ytfapeppocfodpaa", sum := "f5853617aaa5475da5709d3fd239c6a3054f74f2e7ee90f564975910e0880c89", func := "loop.example/recordbatches/laws.FnRunProducers", spec := "fnRunProducers", plainKeys := false, apart := false, narrowed := true }
def FnRunProducersUptoSaid : Prop := fnRunProducersUptoRow.holds Try.pinned (OpenSpec.upto fnRunProducersSpec)

/-- 'laws.FnRunTwice', WHERE WHAT IT READS IS OF BULK AT MOST 1048576: true; the input reads as it did. -/
def fnRunTwiceUptoRow : OpenClaim := { program := "ytfapeppocfodpaa", sum := "f5853617aaa5475da5709d3fd239c6a3054f74f2e7ee90f564975910e0880c89", func := "loop.example/recordbatches/laws.FnRunTwice", spec := "fnRunTwice", plainKeys := false, apart := false, narrowed := true }
def FnRunTwiceUptoSaid : Prop := fnRunTwiceUptoRow.holds Try.pinned (OpenSpec.upto fnRunTwiceSpec)

/-- 'laws.FnExactKeepSize', WHERE WHAT IT READS IS OF BULK AT MOST 1048576: true; the input reads as it did. -/
def fnExactKeepSizeUptoRow : OpenClaim := { program := "ytfapeppocfodpaa", sum := "f5853617aaa5475da5709d3fd239c6a3054f74f2e7ee90f564975910e0880c89", func := "loop.example/recordbatches/laws.FnExactKeepSize", spec := "fnExactKeepSize", unfollowed := true, recurses := true, plainKeys := false, apart := false, narrowed := true }
def FnExactKeepSizeUptoSaid : Prop := fnExactKeepSizeUptoRow.holds Try.pinned (OpenSpec.upto fnExactKeepSizeSpec)

/-- 'laws.FnExactKeepTime', WHERE WHAT IT READS IS OF BULK AT MOST 1048576: true; the input reads as it did. -/
def fnExactKeepTimeUptoRow : OpenClaim := { program := "ytfapeppocfodpaa", sum := "f5853617aaa5475da5709d3fd239c6a3054f74f2e7ee90f564975910e0880c89", func := "loop.example/recordbatches/laws.FnExactKeepTime", spec := "fnExactKeepTime", unfollowed := true, recurses := true, plainKeys := false, apart := false, narrowed := true }
def FnExactKeepTimeUptoSaid : Prop := fnExactKeepTimeUptoRow.holds Try.pinned (OpenSpec.upto fnExactKeepTimeSpec)

end Rows
end Go.Proofs.Ytfapeppocfodpaa
