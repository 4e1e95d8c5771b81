/-
  No cell of these rows narrows 'for every input' (looked for: loops, veiled, ifaces, maps, wideKeys, modest, calm, conditions, laid).
  DERIVED. THE GIVEN ROWS OF THIS SEAT. 2 by the template 'for every input the law returns true; each argument reads behind the call as it read before'; 0 by the template 'total and deterministic' (their statements: YtilkbfeikmlkeaaTotals.lean).
  GIVEN WITH THE SEED: the statements are not yours to turn. If you find one false, say at which input.
  Laid BY PROGRAM, IN A SANDBOX (cutbox-rows.mjs): the forced cells as the released guide's own fill.sh prints them over the translation 1c996a43ed25f940… (all of the seat's roots in one cut). By AI agents, Wed Nov 11 2026. No macro, syntax, notation, axiom, sorry.
-/
import Derived.Test.YtilkbfeikmlkeaaChecked
import GoSem.Claim
import GoSem.ClaimJoined
import GoSem.ClaimMapViews
import Derived.JoinedTies
import Derived.KernelRfl
namespace Go.Proofs.Ytilkbfeikmlkeaa
/- THE CELL 'sum', in the pinned program and in every row, IS THE sha256 OF THE DUMP (.gsa) THAT YtilkbfeikmlkeaaProg.lean LOADS. Nothing in Lean hashes anything: it is a label: what it is worth is what the hold of that sum in a sandbox is worth. -/
noncomputable def Try.pinned : Pinned := { name := "ytilkbfeikmlkeaa", sum := "1c996a43ed25f940cf3306217e6dee1b6b1b9c635f60396b9e611f7e1d4dd26b", checked := Try.checked }
namespace Rows
def none {H : Type} : Left H := { results := [], args := [] }

/-- 'laws.FnIndexPart': WHATEVER THE INPUT: true; the input reads as it did. -/
def fnIndexPartSpec : ChangeSpec := { name := "fnIndexPart", fn := fun _ => fun
  | [d1, d2] => { results := [.lit (.bool true)], args := [d1, d2] }
  | _ => none }
def fnIndexPartRow : OpenClaim := { program := "ytilkbfeikmlkeaa", sum := "1c996a43ed25f940cf3306217e6dee1b6b1b9c635f60396b9e611f7e1d4dd26b", func := "loop.example/recordbatches/laws.FnIndexPart", spec := "fnIndexPart", apart := false }
def FnIndexPartSaid : Prop := fnIndexPartRow.holds Try.pinned (OpenSpec.ofChange fnIndexPartSpec)

/-- ITS FALSE NEIGHBOUR: 'it returns false'. Refute it at one input. -/
def fnIndexPartWrong : ChangeSpec := { name := "fnIndexPart", fn := fun _ => fun
  | [d1, d2] => { results := [.lit (.bool false)], args := [d1, d2] }
  | _ => none }
def FnIndexPartWrongFalsely : Prop := fnIndexPartRow.holds Try.pinned (OpenSpec.ofChange fnIndexPartWrong)

/-- 'laws.FnExactIndexValid': WHATEVER THE INPUT: true; the input reads as it did. -/
def fnExactIndexValidSpec : ChangeSpec := { name := "fnExactIndexValid", fn := fun _ => fun
  | [d] => { results := [.lit (.bool true)], args := [d] }
  | _ => none }
def fnExactIndexValidRow : OpenClaim := { program := "ytilkbfeikmlkeaa", sum := "1c996a43ed25f940cf3306217e6dee1b6b1b9c635f60396b9e611f7e1d4dd26b", func := "loop.example/recordbatches/laws.FnExactIndexValid", spec := "fnExactIndexValid", apart := false }
def FnExactIndexValidSaid : Prop := fnExactIndexValidRow.holds Try.pinned (OpenSpec.ofChange fnExactIndexValidSpec)

/-- ITS FALSE NEIGHBOUR: 'it returns false'. Refute it at one input. -/
def fnExactIndexValidWrong : ChangeSpec := { name := "fnExactIndexValid", fn := fun _ => fun
  | [d] => { results := [.lit (.bool false)], args := [d] }
  | _ => none }
def FnExactIndexValidWrongFalsely : Prop := fnExactIndexValidRow.holds Try.pinned (OpenSpec.ofChange fnExactIndexValidWrong)

/- THE SECOND FORM. 'bulk': how many values and letters a reading holds, each counted each time it is reached (what is shared counts as often as it is met; a slice's spare places count too). A statement '..UptoSaid' is the law's where the arguments, and the package variables that the reading takes, are together of bulk at most 1048576: NARROWER than '..Said'. Prove '..Said' where nothing that the law and all that it calls make is longer than what came in: it says more and counts as full. Else prove '..UptoSaid'. A law counts once. -/
mutual
def uptoBulk {H : Type} : DataW H → Nat
  | .lit (.string bytes) => bytes.length + 1
  | .lit _ => 1
  | .nil => 1
  | .ptr d => uptoBulk d + 1
  | .slice elems spare => uptoBulkAll elems + uptoBulkAll spare + 1
  | .agg parts => uptoBulkAll parts + 1
  | .iface _ d => uptoBulk d + 1
  | .map entries => uptoBulkEntries entries + 1
  | .held _ => 1
def uptoBulkAll {H : Type} : List (DataW H) → Nat
  | [] => 0
  | d :: r => uptoBulk d + uptoBulkAll r
def uptoBulkEntries {H : Type} : List (Lit × DataW H) → Nat
  | [] => 0
  | x :: r => uptoBulkEntry x + uptoBulkEntries r
def uptoBulkEntry {H : Type} : Lit × DataW H → Nat
  | (.string bytes, d) => bytes.length + uptoBulk d + 1
  | (_, d) => uptoBulk d + 1
 end
def uptoSmall : (H : Type) → List (DataW H) → Bool := fun _ ds => decide (uptoBulkAll ds ≤ 1048576)
def OpenSpec.upto (s : _root_.Go.ChangeSpec) : _root_.Go.OpenSpec := { _root_.Go.OpenSpec.ofChange s with cond := some uptoSmall }

/-- 'laws.FnIndexPart', WHERE WHAT IT READS IS OF BULK AT MOST 1048576: true; the input reads as it did. -/
def fnIndexPartUptoRow : OpenClaim := { program := "ytilkbfeikmlkeaa", sum := "1c996a43ed25f940cf3306217e6dee1b6b1b9c635f60396b9e611f7e1d4dd26b", func := "loop.example/recordbatches/laws.FnIndexPart", spec := "fnIndexPart", apart := false, narrowed := true }
def FnIndexPartUptoSaid : Prop := fnIndexPartUptoRow.holds Try.pinned (OpenSpec.upto fnIndexPartSpec)

/-- 'laws.FnExactIndexValid', WHERE WHAT IT READS IS OF BULK AT MOST 1048576: true; the input reads as it did. -/
def fnExactIndexValidUptoRow : OpenClaim := { program := "ytilkbfeikmlkeaa", sum := "1c996a43ed25f940cf3306217e6dee1b6b1b9c635f60396b9e611f7e1d4dd26b", func := "loop.example/recordbatches/laws.FnExactIndexValid", spec := "fnExactIndexValid", apart := false, narrowed := true }
def FnExactIndexValidUptoSaid : Prop := fnExactIndexValidUptoRow.holds Try.pinned (OpenSpec.upto fnExactIndexValidSpec)

end Rows
end Go.Proofs.Ytilkbfeikmlkeaa
