/-
  No cell of these rows narrows 'for every input' (looked for: loops, veiled, ifaces, maps, wideKeys, modest, calm, conditions, laid).
  DERIVED. THE GIVEN ROWS OF THIS SEAT. 13 by the template 'for every input the law returns true; each argument reads behind the call as it read before'; 0 by the template 'total and deterministic' (their statements: YtppppgkcgocgaaaTotals.lean).
  GIVEN WITH THE SEED: the statements are not yours to turn. If you find one false, say at which input.
  Laid BY PROGRAM, IN A SANDBOX (cutbox-rows.mjs): the forced cells as the released guide's own fill.sh prints them over the translation 9ad72ffe1fd21739… (all of the seat's roots in one cut). By AI agents, Wed Nov 11 2026. No macro, syntax, notation, axiom, sorry.
-/
import Derived.Test.YtppppgkcgocgaaaChecked
import GoSem.Claim
import GoSem.ClaimJoined
import GoSem.ClaimMapViews
import Derived.JoinedTies
import Derived.KernelRfl
namespace Go.Proofs.Ytppppgkcgocgaaa
/- THE CELL 'sum', in the pinned program and in every row, IS THE sha256 OF THE DUMP (.gsa) THAT YtppppgkcgocgaaaProg.lean LOADS. Nothing in Lean hashes anything: it is a label: what it is worth is what the hold of that sum in a sandbox is worth. -/
noncomputable def Try.pinned : Pinned := { name := "ytppppgkcgocgaaa", sum := "9ad72ffe1fd21739d7ca56fb775d02eb16e1f18f29db269d5ff6111f4578ad89", checked := Try.checked }
namespace Rows
def none {H : Type} : Left H := { results := [], args := [] }

/-- 'laws.FnInt': WHATEVER THE INPUT: true; the input reads as it did. -/
def fnIntSpec : ChangeSpec := { name := "fnInt", fn := fun _ => fun
  | [d] => { results := [.lit (.bool true)], args := [d] }
  | _ => none }
def fnIntRow : OpenClaim := { program := "ytppppgkcgocgaaa", sum := "9ad72ffe1fd21739d7ca56fb775d02eb16e1f18f29db269d5ff6111f4578ad89", func := "loop.example/recordbatches/laws.FnInt", spec := "fnInt", apart := false }
def FnIntSaid : Prop := fnIntRow.holds Try.pinned (OpenSpec.ofChange fnIntSpec)

/-- ITS FALSE NEIGHBOUR: 'it returns false'. Refute it at one input. -/
def fnIntWrong : ChangeSpec := { name := "fnInt", fn := fun _ => fun
  | [d] => { results := [.lit (.bool false)], args := [d] }
  | _ => none }
def FnIntWrongFalsely : Prop := fnIntRow.holds Try.pinned (OpenSpec.ofChange fnIntWrong)

/-- 'laws.FnIntOrder': WHATEVER THE INPUT: true; the input reads as it did. -/
def fnIntOrderSpec : ChangeSpec := { name := "fnIntOrder", fn := fun _ => fun
  | [d] => { results := [.lit (.bool true)], args := [d] }
  | _ => none }
def fnIntOrderRow : OpenClaim := { program := "ytppppgkcgocgaaa", sum := "9ad72ffe1fd21739d7ca56fb775d02eb16e1f18f29db269d5ff6111f4578ad89", func := "loop.example/recordbatches/laws.FnIntOrder", spec := "fnIntOrder", apart := false }
def FnIntOrderSaid : Prop := fnIntOrderRow.holds Try.pinned (OpenSpec.ofChange fnIntOrderSpec)

/-- ITS FALSE NEIGHBOUR: 'it returns false'. Refute it at one input. -/
def fnIntOrderWrong : ChangeSpec := { name := "fnIntOrder", fn := fun _ => fun
  | [d] => { results := [.lit (.bool false)], args := [d] }
  | _ => none }
def FnIntOrderWrongFalsely : Prop := fnIntOrderRow.holds Try.pinned (OpenSpec.ofChange fnIntOrderWrong)

/-- 'laws.FnIntFrom': WHATEVER THE INPUT: true; the input reads as it did. -/
def fnIntFromSpec : ChangeSpec := { name := "fnIntFrom", fn := fun _ => fun
  | [d] => { results := [.lit (.bool true)], args := [d] }
  | _ => none }
def fnIntFromRow : OpenClaim := { program := "ytppppgkcgocgaaa", sum := "9ad72ffe1fd21739d7ca56fb775d02eb16e1f18f29db269d5ff6111f4578ad89", func := "loop.example/recordbatches/laws.FnIntFrom", spec := "fnIntFrom", apart := false }
def FnIntFromSaid : Prop := fnIntFromRow.holds Try.pinned (OpenSpec.ofChange fnIntFromSpec)

/-- ITS FALSE NEIGHBOUR: 'it returns false'. Refute it at one input. -/
def fnIntFromWrong : ChangeSpec := { name := "fnIntFrom", fn := fun _ => fun
  | [d] => { results := [.lit (.bool false)], args := [d] }
  | _ => none }
def FnIntFromWrongFalsely : Prop := fnIntFromRow.holds Try.pinned (OpenSpec.ofChange fnIntFromWrong)

/-- 'laws.FnIntFromNot': WHATEVER THE INPUT: true; the input reads as it did. -/
def fnIntFromNotSpec : ChangeSpec := { name := "fnIntFromNot", fn := fun _ => fun
  | [d] => { results := [.lit (.bool true)], args := [d] }
  | _ => none }
def fnIntFromNotRow : OpenClaim := { program := "ytppppgkcgocgaaa", sum := "9ad72ffe1fd21739d7ca56fb775d02eb16e1f18f29db269d5ff6111f4578ad89", func := "loop.example/recordbatches/laws.FnIntFromNot", spec := "fnIntFromNot", apart := false }
def FnIntFromNotSaid : Prop := fnIntFromNotRow.holds Try.pinned (OpenSpec.ofChange fnIntFromNotSpec)

/-- ITS FALSE NEIGHBOUR: 'it returns false'. Refute it at one input. -/
def fnIntFromNotWrong : ChangeSpec := { name := "fnIntFromNot", fn := fun _ => fun
  | [d] => { results := [.lit (.bool false)], args := [d] }
  | _ => none }
def FnIntFromNotWrongFalsely : Prop := fnIntFromNotRow.holds Try.pinned (OpenSpec.ofChange fnIntFromNotWrong)

/-- 'laws.FnSum': WHATEVER THE INPUT: true; the input reads as it did. -/
def fnSumSpec : ChangeSpec := { name := "fnSum", fn := fun _ => fun
  | [d] => { results := [.lit (.bool true)], args := [d] }
  | _ => none }
def fnSumRow : OpenClaim := { program := "ytppppgkcgocgaaa", sum := "9ad72ffe1fd21739d7ca56fb775d02eb16e1f18f29db269d5ff6111f4578ad89", func := "loop.example/recordbatches/laws.FnSum", spec := "fnSum", apart := false }
def FnSumSaid : Prop := fnSumRow.holds Try.pinned (OpenSpec.ofChange fnSumSpec)

/-- ITS FALSE NEIGHBOUR: 'it returns false'. Refute it at one input. -/
def fnSumWrong : ChangeSpec := { name := "fnSum", fn := fun _ => fun
  | [d] => { results := [.lit (.bool false)], args := [d] }
  | _ => none }
def FnSumWrongFalsely : Prop := fnSumRow.holds Try.pinned (OpenSpec.ofChange fnSumWrong)

/-- 'laws.FnSumByte': WHATEVER THE INPUT: true; the input reads as it did. -/
def fnSumByteSpec : ChangeSpec := { name := "fnSumByte", fn := fun _ => fun
  | [d1, d2] => { results := [.lit (.bool true)], args := [d1, d2] }
  | _ => none }
def fnSumByteRow : OpenClaim := { program := "ytppppgkcgocgaaa", sum := "9ad72ffe1fd21739d7ca56fb775d02eb16e1f18f29db269d5ff6111f4578ad89", func := "loop.example/recordbatches/laws.FnSumByte", spec := "fnSumByte", apart := false }
def FnSumByteSaid : Prop := fnSumByteRow.holds Try.pinned (OpenSpec.ofChange fnSumByteSpec)

/-- ITS FALSE NEIGHBOUR: 'it returns false'. Refute it at one input. -/
def fnSumByteWrong : ChangeSpec := { name := "fnSumByte", fn := fun _ => fun
  | [d1, d2] => { results := [.lit (.bool false)], args := [d1, d2] }
  | _ => none }
def FnSumByteWrongFalsely : Prop := fnSumByteRow.holds Try.pinned (OpenSpec.ofChange fnSumByteWrong)

/-- 'laws.FnSumSwap': WHATEVER THE INPUT: true; the input reads as it did. -/
def fnSumSwapSpec : ChangeSpec := { name := "fnSumSwap", fn := fun _ => fun
  | [d1, d2] => { results := [.lit (.bool true)], args := [d1, d2] }
  | _ => none }
def fnSumSwapRow : OpenClaim := { program := "ytppppgkcgocgaaa", sum := "9ad72ffe1fd21739d7ca56fb775d02eb16e1f18f29db269d5ff6111f4578ad89", func := "loop.example/recordbatches/laws.FnSumSwap", spec := "fnSumSwap", apart := false }
def FnSumSwapSaid : Prop := fnSumSwapRow.holds Try.pinned (OpenSpec.ofChange fnSumSwapSpec)

/-- ITS FALSE NEIGHBOUR: 'it returns false'. Refute it at one input. -/
def fnSumSwapWrong : ChangeSpec := { name := "fnSumSwap", fn := fun _ => fun
  | [d1, d2] => { results := [.lit (.bool false)], args := [d1, d2] }
  | _ => none }
def FnSumSwapWrongFalsely : Prop := fnSumSwapRow.holds Try.pinned (OpenSpec.ofChange fnSumSwapWrong)

/-- 'laws.FnBytesText': WHATEVER THE INPUT: true; the input reads as it did. -/
def fnBytesTextSpec : ChangeSpec := { name := "fnBytesText", fn := fun _ => fun
  | [d1, d2] => { results := [.lit (.bool true)], args := [d1, d2] }
  | _ => none }
def fnBytesTextRow : OpenClaim := { program := "ytppppgkcgocgaaa", sum := "9ad72ffe1fd21739d7ca56fb775d02eb16e1f18f29db269d5ff6111f4578ad89", func := "loop.example/recordbatches/laws.FnBytesText", spec := "fnBytesText", apart := false }
def FnBytesTextSaid : Prop := fnBytesTextRow.holds Try.pinned (OpenSpec.ofChange fnBytesTextSpec)

/-- ITS FALSE NEIGHBOUR: 'it returns false'. Refute it at one input. -/
def fnBytesTextWrong : ChangeSpec := { name := "fnBytesText", fn := fun _ => fun
  | [d1, d2] => { results := [.lit (.bool false)], args := [d1, d2] }
  | _ => none }
def FnBytesTextWrongFalsely : Prop := fnBytesTextRow.holds Try.pinned (OpenSpec.ofChange fnBytesTextWrong)

/-- 'laws.FnIntMost': WHATEVER THE INPUT: true; the input reads as it did. -/
def fnIntMostSpec : ChangeSpec := { name := "fnIntMost", fn := fun _ => fun
  | [d] => { results := [.lit (.bool true)], args := [d] }
  | _ => none }
def fnIntMostRow : OpenClaim := { program := "ytppppgkcgocgaaa", sum := "9ad72ffe1fd21739d7ca56fb775d02eb16e1f18f29db269d5ff6111f4578ad89", func := "loop.example/recordbatches/laws.FnIntMost", spec := "fnIntMost", apart := false }
def FnIntMostSaid : Prop := fnIntMostRow.holds Try.pinned (OpenSpec.ofChange fnIntMostSpec)

/-- ITS FALSE NEIGHBOUR: 'it returns false'. Refute it at one input. -/
def fnIntMostWrong : ChangeSpec := { name := "fnIntMost", fn := fun _ => fun
  | [d] => { results := [.lit (.bool false)], args := [d] }
  | _ => none }
def FnIntMostWrongFalsely : Prop := fnIntMostRow.holds Try.pinned (OpenSpec.ofChange fnIntMostWrong)

/-- 'laws.FnExactIntBytes': WHATEVER THE INPUT: true; the input reads as it did. -/
def fnExactIntBytesSpec : ChangeSpec := { name := "fnExactIntBytes", fn := fun _ => fun
  | [d1, d2] => { results := [.lit (.bool true)], args := [d1, d2] }
  | _ => none }
def fnExactIntBytesRow : OpenClaim := { program := "ytppppgkcgocgaaa", sum := "9ad72ffe1fd21739d7ca56fb775d02eb16e1f18f29db269d5ff6111f4578ad89", func := "loop.example/recordbatches/laws.FnExactIntBytes", spec := "fnExactIntBytes", apart := false }
def FnExactIntBytesSaid : Prop := fnExactIntBytesRow.holds Try.pinned (OpenSpec.ofChange fnExactIntBytesSpec)

/-- ITS FALSE NEIGHBOUR: 'it returns false'. Refute it at one input. -/
def fnExactIntBytesWrong : ChangeSpec := { name := "fnExactIntBytes", fn := fun _ => fun
  | [d1, d2] => { results := [.lit (.bool false)], args := [d1, d2] }
  | _ => none }
def FnExactIntBytesWrongFalsely : Prop := fnExactIntBytesRow.holds Try.pinned (OpenSpec.ofChange fnExactIntBytesWrong)

/-- 'laws.FnExactIntFrom': WHATEVER THE INPUT: true; the input reads as it did. -/
def fnExactIntFromSpec : ChangeSpec := { name := "fnExactIntFrom", fn := fun _ => fun
  | [d1, d2, d3] => { results := [.lit (.bool true)], args := [d1, d2, d3] }
  | _ => none }
def fnExactIntFromRow : OpenClaim := { program := "ytppppgkcgocgaaa", sum := "9ad72ffe1fd21739d7ca56fb775d02eb16e1f18f29db269d5ff6111f4578ad89", func := "loop.example/recordbatches/laws.FnExactIntFrom", spec := "fnExactIntFrom", apart := false }
def FnExactIntFromSaid : Prop := fnExactIntFromRow.holds Try.pinned (OpenSpec.ofChange fnExactIntFromSpec)

/-- ITS FALSE NEIGHBOUR: 'it returns false'. Refute it at one input. -/
def fnExactIntFromWrong : ChangeSpec := { name := "fnExactIntFrom", fn := fun _ => fun
  | [d1, d2, d3] => { results := [.lit (.bool false)], args := [d1, d2, d3] }
  | _ => none }
def FnExactIntFromWrongFalsely : Prop := fnExactIntFromRow.holds Try.pinned (OpenSpec.ofChange fnExactIntFromWrong)

/-- 'laws.FnExactSumOf': WHATEVER THE INPUT: true; the input reads as it did. -/
def fnExactSumOfSpec : ChangeSpec := { name := "fnExactSumOf", fn := fun _ => fun
  | [d] => { results := [.lit (.bool true)], args := [d] }
  | _ => none }
def fnExactSumOfRow : OpenClaim := { program := "ytppppgkcgocgaaa", sum := "9ad72ffe1fd21739d7ca56fb775d02eb16e1f18f29db269d5ff6111f4578ad89", func := "loop.example/recordbatches/laws.FnExactSumOf", spec := "fnExactSumOf", apart := false }
def FnExactSumOfSaid : Prop := fnExactSumOfRow.holds Try.pinned (OpenSpec.ofChange fnExactSumOfSpec)

/-- ITS FALSE NEIGHBOUR: 'it returns false'. Refute it at one input. -/
def fnExactSumOfWrong : ChangeSpec := { name := "fnExactSumOf", fn := fun _ => fun
  | [d] => { results := [.lit (.bool false)], args := [d] }
  | _ => none }
def FnExactSumOfWrongFalsely : Prop := fnExactSumOfRow.holds Try.pinned (OpenSpec.ofChange fnExactSumOfWrong)

/-- 'laws.FnExactBytesText': WHATEVER THE INPUT: true; the input reads as it did. -/
def fnExactBytesTextSpec : ChangeSpec := { name := "fnExactBytesText", fn := fun _ => fun
  | [d] => { results := [.lit (.bool true)], args := [d] }
  | _ => none }
def fnExactBytesTextRow : OpenClaim := { program := "ytppppgkcgocgaaa", sum := "9ad72ffe1fd21739d7ca56fb775d02eb16e1f18f29db269d5ff6111f4578ad89", func := "loop.example/recordbatches/laws.FnExactBytesText", spec := "fnExactBytesText", apart := false }
def FnExactBytesTextSaid : Prop := fnExactBytesTextRow.holds Try.pinned (OpenSpec.ofChange fnExactBytesTextSpec)

/-- ITS FALSE NEIGHBOUR: 'it returns false'. Refute it at one input. -/
def fnExactBytesTextWrong : ChangeSpec := { name := "fnExactBytesText", fn := fun _ => fun
  | [d] => { results := [.lit (.bool false)], args := [d] }
  | _ => none }
def FnExactBytesTextWrongFalsely : Prop := fnExactBytesTextRow.holds Try.pinned (OpenSpec.ofChange fnExactBytesTextWrong)

/- THE SECOND FORM. 'bulk': how many values and letters a reading holds, each counted each time it is reached (what is shared counts as often as it is met; a slice's spare places count too). A statement '..UptoSaid' is the law's where the arguments, and the package variables that the reading takes, are together of bulk at most 1048576: NARROWER than '..Said'. Prove '..Said' where nothing that the law and all that it calls make is longer than what came in: it says more and counts as full. Else prove '..UptoSaid'. A law counts once. -/
mutual
def uptoBulk {H : Type} : DataW H → Nat
  | .lit (.string bytes) => bytes.length + 1
  | .lit _ => 1
  | .nil => 1
  | .ptr d => uptoBulk d + 1
  | .slice elems spare => uptoBulkAll elems + uptoBulkAll spare + 1
  | .agg parts => uptoBulkAll parts + 1
  | .iface _ d => uptoBulk d + 1
  | .map entries => uptoBulkEntries entries + 1
  | .held _ => 1
def uptoBulkAll {H : Type} : List (DataW H) → Nat
  | [] => 0
  | d :: r => uptoBulk d + uptoBulkAll r
def uptoBulkEntries {H : Type} : List (Lit × DataW H) → Nat
  | [] => 0
  | x :: r => uptoBulkEntry x + uptoBulkEntries r
def uptoBulkEntry {H : Type} : Lit × DataW H → Nat
  | (.string bytes, d) => bytes.length + uptoBulk d + 1
  | (_, d) => uptoBulk d + 1
 end
def uptoSmall : (H : Type) → List (DataW H) → Bool := fun _ ds => decide (uptoBulkAll ds ≤ 1048576)
def OpenSpec.upto (s : _root_.Go.ChangeSpec) : _root_.Go.OpenSpec := { _root_.Go.OpenSpec.ofChange s with cond := some uptoSmall }

/-- 'laws.FnInt', WHERE WHAT IT READS IS OF BULK AT MOST 1048576: true; the input reads as it did. -/
def fnIntUptoRow : OpenClaim := { program := "ytppppgkcgocgaaa", sum := "9ad72ffe1fd21739d7ca56fb775d02eb16e1f18f29db269d5ff6111f4578ad89", func := "loop.example/recordbatches/laws.FnInt", spec := "fnInt", apart := false, narrowed := true }
def FnIntUptoSaid : Prop := fnIntUptoRow.holds Try.pinned (OpenSpec.upto fnIntSpec)

/-- 'laws.FnIntOrder', WHERE WHAT IT READS IS OF BULK AT MOST 1048576: true; the input reads as it did. -/
def fnIntOrderUptoRow : OpenClaim := { program := "ytppppgkcgocgaaa", sum := "9ad72ffe1fd21739d7ca56fb775d02eb16e1f18f29db269d5ff6111f4578ad89", func := "loop.example/recordbatches/laws.FnIntOrder", spec := "fnIntOrder", apart := false, narrowed := true }
def FnIntOrderUptoSaid : Prop := fnIntOrderUptoRow.holds Try.pinned (OpenSpec.upto fnIntOrderSpec)

/-- 'laws.FnIntFrom', WHERE WHAT IT READS IS OF BULK AT MOST 1048576: true; the input reads as it did. -/
def fnIntFromUptoRow : OpenClaim := { program := "ytppppgkcgocgaaa", sum := "9ad72ffe1fd21739d7ca56fb775d02eb16e1f18f29db269d5ff6111f4578ad89", func := "loop.example/recordbatches/laws.FnIntFrom", spec := "fnIntFrom", apart := false, narrowed := true }
def FnIntFromUptoSaid : Prop := fnIntFromUptoRow.holds Try.pinned (OpenSpec.upto fnIntFromSpec)

/-- 'laws.FnIntFromNot', WHERE WHAT IT READS IS OF BULK AT MOST 1048576: true; the input reads as it did. -/
def fnIntFromNotUptoRow : OpenClaim := { program := "ytppppgkcgocgaaa", sum := "9ad72ffe1fd21739d7ca56fb775d02eb16e1f18f29db269d5ff6111f4578ad89", func := "loop.example/recordbatches/laws.FnIntFromNot", spec := "fnIntFromNot", apart := false, narrowed := true }
def FnIntFromNotUptoSaid : Prop := fnIntFromNotUptoRow.holds Try.pinned (OpenSpec.upto fnIntFromNotSpec)

/-- 'laws.FnSum', WHERE WHAT IT READS IS OF BULK AT MOST 1048576: true; the input reads as it did. -/
def fnSumUptoRow : OpenClaim := { program := "ytppppgkcgocgaaa", sum := "9ad72ffe1fd21739d7ca56fb775d02eb16e1f18f29db269d5ff6111f4578ad89", func := "loop.example/recordbatches/laws.FnSum", spec := "fnSum", apart := false, narrowed := true }
def FnSumUptoSaid : Prop := fnSumUptoRow.holds Try.pinned (OpenSpec.upto fnSumSpec)

/-- 'laws.FnSumByte', WHERE WHAT IT READS IS OF BULK AT MOST 1048576: true; the input reads as it did. -/
def fnSumByteUptoRow : OpenClaim := { program := "ytppppgkcgocgaaa", sum := "9ad72ffe1fd21739d7ca56fb775d02eb16e1f18f29db269d5ff6111f4578ad89", func := "loop.example/recordbatches/laws.FnSumByte", spec := "fnSumByte", apart := false, narrowed := true }
def FnSumByteUptoSaid : Prop := fnSumByteUptoRow.holds Try.pinned (OpenSpec.upto fnSumByteSpec)

/-- 'laws.FnSumSwap', WHERE WHAT IT READS IS OF BULK AT MOST 1048576: true; the input reads as it did. -/
def fnSumSwapUptoRow : OpenClaim := { program := "ytppppgkcgocgaaa", sum := "9ad72ffe1fd21739d7ca56fb775d02eb16e1f18f29db269d5ff6111f4578ad89", func := "loop.example/recordbatches/laws.FnSumSwap", spec := "fnSumSwap", apart := false, narrowed := true }
def FnSumSwapUptoSaid : Prop := fnSumSwapUptoRow.holds Try.pinned (OpenSpec.upto fnSumSwapSpec)

/-- 'laws.FnBytesText', WHERE WHAT IT READS IS OF BULK AT MOST 1048576: true; the input reads as it did. -/
def fnBytesTextUptoRow : OpenClaim := { program := "ytppppgkcgocgaaa", sum := "9ad72ffe1fd21739d7ca56fb775d02eb16e1f18f29db269d5ff6111f4578ad89", func := "loop.example/recordbatches/laws.FnBytesText", spec := "fnBytesText", apart := false, narrowed := true }
def FnBytesTextUptoSaid : Prop := fnBytesTextUptoRow.holds Try.pinned (OpenSpec.upto fnBytesTextSpec)

/-- 'laws.FnIntMost', WHERE WHAT IT READS IS OF BULK AT MOST 1048576: true; the input reads as it did. -/
def fnIntMostUptoRow : OpenClaim := { program := "ytppppgkcgocgaaa", sum := "9ad72ffe1fd21739d7ca56fb775d02eb16e1f18f29db269d5ff6111f4578ad89", func := "loop.example/recordbatches/laws.FnIntMost", spec := "fnIntMost", apart := false, narrowed := true }
def FnIntMostUptoSaid : Prop := fnIntMostUptoRow.holds Try.pinned (OpenSpec.upto fnIntMostSpec)

/-- 'laws.FnExactIntBytes', WHERE WHAT IT READS IS OF BULK AT MOST 1048576: true; the input reads as it did. -/
def fnExactIntBytesUptoRow : OpenClaim := { program := "ytppppgkcgocgaaa", sum := "9ad72ffe1fd21739d7ca56fb775d02eb16e1f18f29db269d5ff6111f4578ad89", func := "loop.example/recordbatches/laws.FnExactIntBytes", spec := "fnExactIntBytes", apart := false, narrowed := true }
def FnExactIntBytesUptoSaid : Prop := fnExactIntBytesUptoRow.holds Try.pinned (OpenSpec.upto fnExactIntBytesSpec)

/-- 'laws.FnExactIntFrom', WHERE WHAT IT READS IS OF BULK AT MOST 1048576: true; the input reads as it did. -/
def fnExactIntFromUptoRow : OpenClaim := { program := "ytppppgkcgocgaaa", sum := "9ad72ffe1fd21739d7ca56fb775d02eb16e1f18f29db269d5ff6111f4578ad89", func := "loop.example/recordbatches/laws.FnExactIntFrom", spec := "fnExactIntFrom", apart := false, narrowed := true }
def FnExactIntFromUptoSaid : Prop := fnExactIntFromUptoRow.holds Try.pinned (OpenSpec.upto fnExactIntFromSpec)

/-- 'laws.FnExactSumOf', WHERE WHAT IT READS IS OF BULK AT MOST 1048576: true; the input reads as it did. -/
def fnExactSumOfUptoRow : OpenClaim := { program := "ytppppgkcgocgaaa", sum := "9ad72ffe1fd21739d7ca56fb775d02eb16e1f18f29db269d5ff6111f4578ad89", func := "loop.example/recordbatches/laws.FnExactSumOf", spec := "fnExactSumOf", apart := false, narrowed := true }
def FnExactSumOfUptoSaid : Prop := fnExactSumOfUptoRow.holds Try.pinned (OpenSpec.upto fnExactSumOfSpec)

/-- 'laws.FnExactBytesText', WHERE WHAT IT READS IS OF BULK AT MOST 1048576: true; the input reads as it did. -/
def fnExactBytesTextUptoRow : OpenClaim := { program := "ytppppgkcgocgaaa", sum := "9ad72ffe1fd21739d7ca56fb775d02eb16e1f18f29db269d5ff6111f4578ad89", func := "loop.example/recordbatches/laws.FnExactBytesText", spec := "fnExactBytesText", apart := false, narrowed := true }
def FnExactBytesTextUptoSaid : Prop := fnExactBytesTextUptoRow.holds Try.pinned (OpenSpec.upto fnExactBytesTextSpec)

end Rows
end Go.Proofs.Ytppppgkcgocgaaa
