/-
  No cell of these rows narrows 'for every input' (looked for: loops, veiled, ifaces, maps, wideKeys, modest, calm, conditions, laid).
  DERIVED. THE GIVEN ROWS OF THIS SEAT. 11 by the template 'for every input the law returns true; each argument reads behind the call as it read before'; 0 by the template 'total and deterministic' (their statements: YtfejolnfaechiaaTotals.lean).
  GIVEN WITH THE SEED: the statements are not yours to turn. If you find one false, say at which input.
  Laid BY PROGRAM, IN A SANDBOX (cutbox-rows.mjs): the forced cells as the released guide's own fill.sh prints them over the translation 5975d68486f36979… (all of the seat's roots in one cut). By AI agents, Wed Nov 11 2026. No macro, syntax, notation, axiom, sorry.
-/
import Derived.Test.YtfejolnfaechiaaChecked
import GoSem.Claim
import GoSem.ClaimJoined
import GoSem.ClaimMapViews
import Derived.JoinedTies
import Derived.KernelRfl
namespace Go.Proofs.Ytfejolnfaechiaa
/- THE CELL 'sum', in the pinned program and in every row, IS THE sha256 OF THE DUMP (.gsa) THAT YtfejolnfaechiaaProg.lean LOADS. Nothing in Lean hashes anything: it is a label: what it is worth is what the hold of that sum in a sandbox is worth. -/
noncomputable def Try.pinned : Pinned := { name := "ytfejolnfaechiaa", sum := "5975d68486f369790aa1ca3ef328a8de27e1c6488e708b8a079bc27f91c2f082", checked := Try.checked }
namespace Rows
def none {H : Type} : Left H := { results := [], args := [] }

/-- 'laws.FnTermsPut': WHATEVER THE INPUT: true; the input reads as it did. -/
def fnTermsPutSpec : ChangeSpec := { name := "fnTermsPut", fn := fun _ => fun
  | [d] => { results := [.lit (.bool true)], args := [d] }
  | _ => none }
def fnTermsPutRow : OpenClaim := { program := "ytfejolnfaechiaa", sum := "5975d68486f369790aa1ca3ef328a8de27e1c6488e708b8a079bc27f91c2f082", func := "loop.example/recordbatches/laws.FnTermsPut", spec := "fnTermsPut", apart := false }
def FnTermsPutSaid : Prop := fnTermsPutRow.holds Try.pinned (OpenSpec.ofChange fnTermsPutSpec)

/-- ITS FALSE NEIGHBOUR: 'it returns false'. Refute it at one input. -/
def fnTermsPutWrong : ChangeSpec := { name := "fnTermsPut", fn := fun _ => fun
  | [d] => { results := [.lit (.bool false)], args := [d] }
  | _ => none }
def FnTermsPutWrongFalsely : Prop := fnTermsPutRow.holds Try.pinned (OpenSpec.ofChange fnTermsPutWrong)

/-- 'laws.FnTermsPutTwice': WHATEVER THE INPUT: true; the input reads as it did. -/
def fnTermsPutTwiceSpec : ChangeSpec := { name := "fnTermsPutTwice", fn := fun _ => fun
  | [d] => { results := [.lit (.bool true)], args := [d] }
  | _ => none }
def fnTermsPutTwiceRow : OpenClaim := { program := "ytfejolnfaechiaa", sum := "5975d68486f369790aa1ca3ef328a8de27e1c6488e708b8a079bc27f91c2f082", func := "loop.example/recordbatches/laws.FnTermsPutTwice", spec := "fnTermsPutTwice", apart := false }
def FnTermsPutTwiceSaid : Prop := fnTermsPutTwiceRow.holds Try.pinned (OpenSpec.ofChange fnTermsPutTwiceSpec)

/-- ITS FALSE NEIGHBOUR: 'it returns false'. Refute it at one input. -/
def fnTermsPutTwiceWrong : ChangeSpec := { name := "fnTermsPutTwice", fn := fun _ => fun
  | [d] => { results := [.lit (.bool false)], args := [d] }
  | _ => none }
def FnTermsPutTwiceWrongFalsely : Prop := fnTermsPutTwiceRow.holds Try.pinned (OpenSpec.ofChange fnTermsPutTwiceWrong)

/-- 'laws.FnTermsEnd': WHATEVER THE INPUT: true; the input reads as it did. -/
def fnTermsEndSpec : ChangeSpec := { name := "fnTermsEnd", fn := fun _ => fun
  | [d] => { results := [.lit (.bool true)], args := [d] }
  | _ => none }
def fnTermsEndRow : OpenClaim := { program := "ytfejolnfaechiaa", sum := "5975d68486f369790aa1ca3ef328a8de27e1c6488e708b8a079bc27f91c2f082", func := "loop.example/recordbatches/laws.FnTermsEnd", spec := "fnTermsEnd", unfollowed := true, recurses := true, apart := false }
def FnTermsEndSaid : Prop := fnTermsEndRow.holds Try.pinned (OpenSpec.ofChange fnTermsEndSpec)

/-- ITS FALSE NEIGHBOUR: 'it returns false'. Refute it at one input. -/
def fnTermsEndWrong : ChangeSpec := { name := "fnTermsEnd", fn := fun _ => fun
  | [d] => { results := [.lit (.bool false)], args := [d] }
  | _ => none }
def FnTermsEndWrongFalsely : Prop := fnTermsEndRow.holds Try.pinned (OpenSpec.ofChange fnTermsEndWrong)

/-- 'laws.FnTermsEndPut': WHATEVER THE INPUT: true; the input reads as it did. -/
def fnTermsEndPutSpec : ChangeSpec := { name := "fnTermsEndPut", fn := fun _ => fun
  | [d] => { results := [.lit (.bool true)], args := [d] }
  | _ => none }
def fnTermsEndPutRow : OpenClaim := { program := "ytfejolnfaechiaa", sum := "5975d68486f369790aa1ca3ef328a8de27e1c6488e708b8a079bc27f91c2f082", func := "loop.example/recordbatches/laws.FnTermsEndPut", spec := "fnTermsEndPut", unfollowed := true, recurses := true, apart := false }
def FnTermsEndPutSaid : Prop := fnTermsEndPutRow.holds Try.pinned (OpenSpec.ofChange fnTermsEndPutSpec)

/-- ITS FALSE NEIGHBOUR: 'it returns false'. Refute it at one input. -/
def fnTermsEndPutWrong : ChangeSpec := { name := "fnTermsEndPut", fn := fun _ => fun
  | [d] => { results := [.lit (.bool false)], args := [d] }
  | _ => none }
def FnTermsEndPutWrongFalsely : Prop := fnTermsEndPutRow.holds Try.pinned (OpenSpec.ofChange fnTermsEndPutWrong)

/-- 'laws.FnTermsCut': WHATEVER THE INPUT: true; the input reads as it did. -/
def fnTermsCutSpec : ChangeSpec := { name := "fnTermsCut", fn := fun _ => fun
  | [d] => { results := [.lit (.bool true)], args := [d] }
  | _ => none }
def fnTermsCutRow : OpenClaim := { program := "ytfejolnfaechiaa", sum := "5975d68486f369790aa1ca3ef328a8de27e1c6488e708b8a079bc27f91c2f082", func := "loop.example/recordbatches/laws.FnTermsCut", spec := "fnTermsCut", apart := false }
def FnTermsCutSaid : Prop := fnTermsCutRow.holds Try.pinned (OpenSpec.ofChange fnTermsCutSpec)

/-- ITS FALSE NEIGHBOUR: 'it returns false'. Refute it at one input. -/
def fnTermsCutWrong : ChangeSpec := { name := "fnTermsCut", fn := fun _ => fun
  | [d] => { results := [.lit (.bool false)], args := [d] }
  | _ => none }
def FnTermsCutWrongFalsely : Prop := fnTermsCutRow.holds Try.pinned (OpenSpec.ofChange fnTermsCutWrong)

/-- 'laws.FnTermsCutTwice': WHATEVER THE INPUT: true; the input reads as it did. -/
def fnTermsCutTwiceSpec : ChangeSpec := { name := "fnTermsCutTwice", fn := fun _ => fun
  | [d1, d2] => { results := [.lit (.bool true)], args := [d1, d2] }
  | _ => none }
def fnTermsCutTwiceRow : OpenClaim := { program := "ytfejolnfaechiaa", sum := "5975d68486f369790aa1ca3ef328a8de27e1c6488e708b8a079bc27f91c2f082", func := "loop.example/recordbatches/laws.FnTermsCutTwice", spec := "fnTermsCutTwice", apart := false }
def FnTermsCutTwiceSaid : Prop := fnTermsCutTwiceRow.holds Try.pinned (OpenSpec.ofChange fnTermsCutTwiceSpec)

/-- ITS FALSE NEIGHBOUR: 'it returns false'. Refute it at one input. -/
def fnTermsCutTwiceWrong : ChangeSpec := { name := "fnTermsCutTwice", fn := fun _ => fun
  | [d1, d2] => { results := [.lit (.bool false)], args := [d1, d2] }
  | _ => none }
def FnTermsCutTwiceWrongFalsely : Prop := fnTermsCutTwiceRow.holds Try.pinned (OpenSpec.ofChange fnTermsCutTwiceWrong)

/-- 'laws.FnTermsPart': WHATEVER THE INPUT: true; the input reads as it did. -/
def fnTermsPartSpec : ChangeSpec := { name := "fnTermsPart", fn := fun _ => fun
  | [d1, d2] => { results := [.lit (.bool true)], args := [d1, d2] }
  | _ => none }
def fnTermsPartRow : OpenClaim := { program := "ytfejolnfaechiaa", sum := "5975d68486f369790aa1ca3ef328a8de27e1c6488e708b8a079bc27f91c2f082", func := "loop.example/recordbatches/laws.FnTermsPart", spec := "fnTermsPart", apart := false }
def FnTermsPartSaid : Prop := fnTermsPartRow.holds Try.pinned (OpenSpec.ofChange fnTermsPartSpec)

/-- ITS FALSE NEIGHBOUR: 'it returns false'. Refute it at one input. -/
def fnTermsPartWrong : ChangeSpec := { name := "fnTermsPart", fn := fun _ => fun
  | [d1, d2] => { results := [.lit (.bool false)], args := [d1, d2] }
  | _ => none }
def FnTermsPartWrongFalsely : Prop := fnTermsPartRow.holds Try.pinned (OpenSpec.ofChange fnTermsPartWrong)

/-- 'laws.FnExactTermsValid': WHATEVER THE INPUT: true; the input reads as it did. -/
def fnExactTermsValidSpec : ChangeSpec := { name := "fnExactTermsValid", fn := fun _ => fun
  | [d] => { results := [.lit (.bool true)], args := [d] }
  | _ => none }
def fnExactTermsValidRow : OpenClaim := { program := "ytfejolnfaechiaa", sum := "5975d68486f369790aa1ca3ef328a8de27e1c6488e708b8a079bc27f91c2f082", func := "loop.example/recordbatches/laws.FnExactTermsValid", spec := "fnExactTermsValid", apart := false }
def FnExactTermsValidSaid : Prop := fnExactTermsValidRow.holds Try.pinned (OpenSpec.ofChange fnExactTermsValidSpec)

/-- ITS FALSE NEIGHBOUR: 'it returns false'. Refute it at one input. -/
def fnExactTermsValidWrong : ChangeSpec := { name := "fnExactTermsValid", fn := fun _ => fun
  | [d] => { results := [.lit (.bool false)], args := [d] }
  | _ => none }
def FnExactTermsValidWrongFalsely : Prop := fnExactTermsValidRow.holds Try.pinned (OpenSpec.ofChange fnExactTermsValidWrong)

/-- 'laws.FnExactTermsEnd': WHATEVER THE INPUT: true; the input reads as it did. -/
def fnExactTermsEndSpec : ChangeSpec := { name := "fnExactTermsEnd", fn := fun _ => fun
  | [d1, d2, d3] => { results := [.lit (.bool true)], args := [d1, d2, d3] }
  | _ => none }
def fnExactTermsEndRow : OpenClaim := { program := "ytfejolnfaechiaa", sum := "5975d68486f369790aa1ca3ef328a8de27e1c6488e708b8a079bc27f91c2f082", func := "loop.example/recordbatches/laws.FnExactTermsEnd", spec := "fnExactTermsEnd", unfollowed := true, recurses := true, apart := false }
def FnExactTermsEndSaid : Prop := fnExactTermsEndRow.holds Try.pinned (OpenSpec.ofChange fnExactTermsEndSpec)

/-- ITS FALSE NEIGHBOUR: 'it returns false'. Refute it at one input. -/
def fnExactTermsEndWrong : ChangeSpec := { name := "fnExactTermsEnd", fn := fun _ => fun
  | [d1, d2, d3] => { results := [.lit (.bool false)], args := [d1, d2, d3] }
  | _ => none }
def FnExactTermsEndWrongFalsely : Prop := fnExactTermsEndRow.holds Try.pinned (OpenSpec.ofChange fnExactTermsEndWrong)

/-- 'laws.FnExactTermsCut': WHATEVER THE INPUT: true; the input reads as it did. -/
def fnExactTermsCutSpec : ChangeSpec := { name := "fnExactTermsCut", fn := fun _ => fun
  | [d1, d2] => { results := [.lit (.bool true)], args := [d1, d2] }
  | _ => none }
def fnExactTermsCutRow : OpenClaim := { program := "ytfejolnfaechiaa", sum := "5975d68486f369790aa1ca3ef328a8de27e1c6488e708b8a079bc27f91c2f082", func := "loop.example/recordbatches/laws.FnExactTermsCut", spec := "fnExactTermsCut", apart := false }
def FnExactTermsCutSaid : Prop := fnExactTermsCutRow.holds Try.pinned (OpenSpec.ofChange fnExactTermsCutSpec)

/-- ITS FALSE NEIGHBOUR: 'it returns false'. Refute it at one input. -/
def fnExactTermsCutWrong : ChangeSpec := { name := "fnExactTermsCut", fn := fun _ => fun
  | [d1, d2] => { results := [.lit (.bool false)], args := [d1, d2] }
  | _ => none }
def FnExactTermsCutWrongFalsely : Prop := fnExactTermsCutRow.holds Try.pinned (OpenSpec.ofChange fnExactTermsCutWrong)

/-- 'laws.FnExactTermsPut': WHATEVER THE INPUT: true; the input reads as it did. -/
def fnExactTermsPutSpec : ChangeSpec := { name := "fnExactTermsPut", fn := fun _ => fun
  | [d1, d2] => { results := [.lit (.bool true)], args := [d1, d2] }
  | _ => none }
def fnExactTermsPutRow : OpenClaim := { program := "ytfejolnfaechiaa", sum := "5975d68486f369790aa1ca3ef328a8de27e1c6488e708b8a079bc27f91c2f082", func := "loop.example/recordbatches/laws.FnExactTermsPut", spec := "fnExactTermsPut", apart := false }
def FnExactTermsPutSaid : Prop := fnExactTermsPutRow.holds Try.pinned (OpenSpec.ofChange fnExactTermsPutSpec)

/-- ITS FALSE NEIGHBOUR: 'it returns false'. Refute it at one input. -/
def fnExactTermsPutWrong : ChangeSpec := { name := "fnExactTermsPut", fn := fun _ => fun
  | [d1, d2] => { results := [.lit (.bool false)], args := [d1, d2] }
  | _ => none }
def FnExactTermsPutWrongFalsely : Prop := fnExactTermsPutRow.holds Try.pinned (OpenSpec.ofChange fnExactTermsPutWrong)

/- THE SECOND FORM. 'bulk': how many values and letters a reading holds, each counted each time it is reached (what is shared counts as often as it is met; a slice's spare places count too). A statement '..UptoSaid' is the law's where the arguments, and the package variables that the reading takes, are together of bulk at most 1048576: NARROWER than '..Said'. Prove '..Said' where nothing that the law and all that it calls make is longer than what came in: it says more and counts as full. Else prove '..UptoSaid'. A law counts once. -/
mutual
def uptoBulk {H : Type} : DataW H → Nat
  | .lit (.string bytes) => bytes.length + 1
  | .lit _ => 1
  | .nil => 1
  | .ptr d => uptoBulk d + 1
  | .slice elems spare => uptoBulkAll elems + uptoBulkAll spare + 1
  | .agg parts => uptoBulkAll parts + 1
  | .iface _ d => uptoBulk d + 1
  | .map entries => uptoBulkEntries entries + 1
  | .held _ => 1
def uptoBulkAll {H : Type} : List (DataW H) → Nat
  | [] => 0
  | d :: r => uptoBulk d + uptoBulkAll r
def uptoBulkEntries {H : Type} : List (Lit × DataW H) → Nat
  | [] => 0
  | x :: r => uptoBulkEntry x + uptoBulkEntries r
def uptoBulkEntry {H : Type} : Lit × DataW H → Nat
  | (.string bytes, d) => bytes.length + uptoBulk d + 1
  | (_, d) => uptoBulk d + 1
 end
def uptoSmall : (H : Type) → List (DataW H) → Bool := fun _ ds => decide (uptoBulkAll ds ≤ 1048576)
def OpenSpec.upto (s : _root_.Go.ChangeSpec) : _root_.Go.OpenSpec := { _root_.Go.OpenSpec.ofChange s with cond := some uptoSmall }

/-- 'laws.FnTermsPut', WHERE WHAT IT READS IS OF BULK AT MOST 1048576: true; the input reads as it did. -/
def fnTermsPutUptoRow : OpenClaim := { program := "ytfejolnfaechiaa", sum := "5975d68486f369790aa1ca3ef328a8de27e1c6488e708b8a079bc27f91c2f082", func := "loop.example/recordbatches/laws.FnTermsPut", spec := "fnTermsPut", apart := false, narrowed := true }
def FnTermsPutUptoSaid : Prop := fnTermsPutUptoRow.holds Try.pinned (OpenSpec.upto fnTermsPutSpec)

/-- 'laws.FnTermsPutTwice', WHERE WHAT IT READS IS OF BULK AT MOST 1048576: true; the input reads as it did. -/
def fnTermsPutTwiceUptoRow : OpenClaim := { program := "ytfejolnfaechiaa", sum := "5975d68486f369790aa1ca3ef328a8de27e1c6488e708b8a079bc27f91c2f082", func := "loop.example/recordbatches/laws.FnTermsPutTwice", spec := "fnTermsPutTwice", apart := false, narrowed := true }
def FnTermsPutTwiceUptoSaid : Prop := fnTermsPutTwiceUptoRow.holds Try.pinned (OpenSpec.upto fnTermsPutTwiceSpec)

/-- 'laws.FnTermsEnd', WHERE WHAT IT READS IS OF BULK AT MOST 1048576: true; the input reads as it did. -/
def fnTermsEndUptoRow : OpenClaim := { program := "ytfejolnfaechiaa", sum := "5975d68486f369790aa1ca3ef328a8de27e1c6488e708b8a079bc27f91c2f082", func := "loop.example/recordbatches/laws.FnTermsEnd", spec := "fnTermsEnd", unfollowed := true, recurses := true, apart := false, narrowed := true }
def FnTermsEndUptoSaid : Prop := fnTermsEndUptoRow.holds Try.pinned (OpenSpec.upto fnTermsEndSpec)

/-- 'laws.FnTermsEndPut', WHERE WHAT IT READS IS OF BULK AT MOST 1048576: true; the input reads as it did. -/
def fnTermsEndPutUptoRow : OpenClaim := { program := "ytfejolnfaechiaa", sum := "5975d68486f369790aa1ca3ef328a8de27e1c6488e708b8a079bc27f91c2f082", func := "loop.example/recordbatches/laws.FnTermsEndPut", spec := "fnTermsEndPut", unfollowed := true, recurses := true, apart := false, narrowed := true }
def FnTermsEndPutUptoSaid : Prop := fnTermsEndPutUptoRow.holds Try.pinned (OpenSpec.upto fnTermsEndPutSpec)

/-- 'laws.FnTermsCut', WHERE WHAT IT READS IS OF BULK AT MOST 1048576: true; the input reads as it did. -/
def fnTermsCutUptoRow : OpenClaim := { program := "ytfejolnfaechiaa", sum := "5975d68486f369790aa1ca3ef328a8de27e1c6488e708b8a079bc27f91c2f082", func := "loop.example/recordbatches/laws.FnTermsCut", spec := "fnTermsCut", apart := false, narrowed := true }
def FnTermsCutUptoSaid : Prop := fnTermsCutUptoRow.holds Try.pinned (OpenSpec.upto fnTermsCutSpec)

/-- 'laws.FnTermsCutTwice', WHERE WHAT IT READS IS OF BULK AT MOST 1048576: true; the input reads as it did. -/
def fnTermsCutTwiceUptoRow : OpenClaim := { program := "ytfejolnfaechiaa", sum := "5975d68486f369790aa1ca3ef328a8de27e1c6488e708b8a079bc27f91c2f082", func := "loop.example/recordbatches/laws.FnTermsCutTwice", spec := "fnTermsCutTwice", apart := false, narrowed := true }
def FnTermsCutTwiceUptoSaid : Prop := fnTermsCutTwiceUptoRow.holds Try.pinned (OpenSpec.upto fnTermsCutTwiceSpec)

/-- 'laws.FnTermsPart', WHERE WHAT IT READS IS OF BULK AT MOST 1048576: true; the input reads as it did. -/
def fnTermsPartUptoRow : OpenClaim := { program := "ytfejolnfaechiaa", sum := "5975d68486f369790aa1ca3ef328a8de27e1c6488e708b8a079bc27f91c2f082", func := "loop.example/recordbatches/laws.FnTermsPart", spec := "fnTermsPart", apart := false, narrowed := true }
def FnTermsPartUptoSaid : Prop := fnTermsPartUptoRow.holds Try.pinned (OpenSpec.upto fnTermsPartSpec)

/-- 'laws.FnExactTermsValid', WHERE WHAT IT READS IS OF BULK AT MOST 1048576: true; the input reads as it did. -/
def fnExactTermsValidUptoRow : OpenClaim := { program := "ytfejolnfaechiaa", sum := "5975d68486f369790aa1ca3ef328a8de27e1c6488e708b8a079bc27f91c2f082", func := "loop.example/recordbatches/laws.FnExactTermsValid", spec := "fnExactTermsValid", apart := false, narrowed := true }
def FnExactTermsValidUptoSaid : Prop := fnExactTermsValidUptoRow.holds Try.pinned (OpenSpec.upto fnExactTermsValidSpec)

/-- 'laws.FnExactTermsEnd', WHERE WHAT IT READS IS OF BULK AT MOST 1048576: true; the input reads as it did. -/
def fnExactTermsEndUptoRow : OpenClaim := { program := "ytfejolnfaechiaa", sum := "5975d68486f369790aa1ca3ef328a8de27e1c6488e708b8a079bc27f91c2f082", func := "loop.example/recordbatches/laws.FnExactTermsEnd", spec := "fnExactTermsEnd", unfollowed := true, recurses := true, apart := false, narrowed := true }
def FnExactTermsEndUptoSaid : Prop := fnExactTermsEndUptoRow.holds Try.pinned (OpenSpec.upto fnExactTermsEndSpec)

/-- 'laws.FnExactTermsCut', WHERE WHAT IT READS IS OF BULK AT MOST 1048576: true; the input reads as it did. -/
def fnExactTermsCutUptoRow : OpenClaim := { program := "ytfejolnfaechiaa", sum := "5975d68486f369790aa1ca3ef328a8de27e1c6488e708b8a079bc27f91c2f082", func := "loop.example/recordbatches/laws.FnExactTermsCut", spec := "fnExactTermsCut", apart := false, narrowed := true }
def FnExactTermsCutUptoSaid : Prop := fnExactTermsCutUptoRow.holds Try.pinned (OpenSpec.upto fnExactTermsCutSpec)

/-- 'laws.FnExactTermsPut', WHERE WHAT IT READS IS OF BULK AT MOST 1048576: true; the input reads as it did. -/
def fnExactTermsPutUptoRow : OpenClaim := { program := "ytfejolnfaechiaa", sum := "5975d68486f369790aa1ca3ef328a8de27e1c6488e708b8a079bc27f91c2f082", func := "loop.example/recordbatches/laws.FnExactTermsPut", spec := "fnExactTermsPut", apart := false, narrowed := true }
def FnExactTermsPutUptoSaid : Prop := fnExactTermsPutUptoRow.holds Try.pinned (OpenSpec.upto fnExactTermsPutSpec)

end Rows
end Go.Proofs.Ytfejolnfaechiaa
