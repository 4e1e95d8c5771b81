/-
  No cell of these rows narrows 'for every input' (looked for: loops, veiled, ifaces, maps, wideKeys, modest, calm, conditions, laid).
  DERIVED. THE GIVEN ROWS OF THIS SEAT. 12 by the template 'for every input the law returns true; each argument reads behind the call as it read before'; 0 by the template 'total and deterministic' (their statements: YtlppnhkgadcgdaaTotals.lean).
  GIVEN WITH THE SEED: the statements are not yours to turn. If you find one false, say at which input.
  Laid BY PROGRAM, IN A SANDBOX (cutbox-rows.mjs): the forced cells as the released guide's own fill.sh prints them over the translation f937089f5d49429e… (all of the seat's roots in one cut). By AI agents, Wed Nov 11 2026. No macro, syntax, notation, axiom, sorry.
-/
import Derived.Test.YtlppnhkgadcgdaaChecked
import GoSem.Claim
import GoSem.ClaimJoined
import GoSem.ClaimMapViews
import Derived.JoinedTies
import Derived.KernelRfl
namespace Go.Proofs.Ytlppnhkgadcgdaa
/- THE CELL 'sum', in the pinned program and in every row, IS THE sha256 OF THE DUMP (.gsa) THAT YtlppnhkgadcgdaaProg.lean LOADS. Nothing in Lean hashes anything: it is a label: what it is worth is what the hold of that sum in a sandbox is worth. -/
noncomputable def Try.pinned : Pinned := { name := "ytlppnhkgadcgdaa", sum := "f937089f5d49429e3afec5af79152eede92ef00538bf91f69cbfd76f5081fdd2", checked := Try.checked }
namespace Rows
def none {H : Type} : Left H := { results := [], args := [] }

/-- 'laws.FnExactProducersCheck': WHATEVER THE INPUT: true; the input reads as it did. -/
def fnExactProducersCheckSpec : ChangeSpec := { name := "fnExactProducersCheck", fn := fun _ => fun
  | [d1, d2] => { results := [.lit (.bool true)], args := [d1, d2] }
  | _ => none }
def fnExactProducersCheckRow : OpenClaim := { program := "ytlppnhkgadcgdaa", sum := "f937089f5d49429e3afec5af79152eede92ef00538bf91f69cbfd76f5081fdd2", func := "loop.example/recordbatches/laws.FnExactProducersCheck", spec := "fnExactProducersCheck", apart := false }
def FnExactProducersCheckSaid : Prop := fnExactProducersCheckRow.holds Try.pinned (OpenSpec.ofChange fnExactProducersCheckSpec)

/-- ITS FALSE NEIGHBOUR: 'it returns false'. Refute it at one input. -/
def fnExactProducersCheckWrong : ChangeSpec := { name := "fnExactProducersCheck", fn := fun _ => fun
  | [d1, d2] => { results := [.lit (.bool false)], args := [d1, d2] }
  | _ => none }
def FnExactProducersCheckWrongFalsely : Prop := fnExactProducersCheckRow.holds Try.pinned (OpenSpec.ofChange fnExactProducersCheckWrong)

/-- 'laws.FnCheck': WHATEVER THE INPUT: true; the input reads as it did. -/
def fnCheckSpec : ChangeSpec := { name := "fnCheck", fn := fun _ => fun
  | [d] => { results := [.lit (.bool true)], args := [d] }
  | _ => none }
def fnCheckRow : OpenClaim := { program := "ytlppnhkgadcgdaa", sum := "f937089f5d49429e3afec5af79152eede92ef00538bf91f69cbfd76f5081fdd2", func := "loop.example/recordbatches/laws.FnCheck", spec := "fnCheck", apart := false }
def FnCheckSaid : Prop := fnCheckRow.holds Try.pinned (OpenSpec.ofChange fnCheckSpec)

/-- ITS FALSE NEIGHBOUR: 'it returns false'. Refute it at one input. -/
def fnCheckWrong : ChangeSpec := { name := "fnCheck", fn := fun _ => fun
  | [d] => { results := [.lit (.bool false)], args := [d] }
  | _ => none }
def FnCheckWrongFalsely : Prop := fnCheckRow.holds Try.pinned (OpenSpec.ofChange fnCheckWrong)

/-- 'laws.FnCheckFree': WHATEVER THE INPUT: true; the input reads as it did. -/
def fnCheckFreeSpec : ChangeSpec := { name := "fnCheckFree", fn := fun _ => fun
  | [d] => { results := [.lit (.bool true)], args := [d] }
  | _ => none }
def fnCheckFreeRow : OpenClaim := { program := "ytlppnhkgadcgdaa", sum := "f937089f5d49429e3afec5af79152eede92ef00538bf91f69cbfd76f5081fdd2", func := "loop.example/recordbatches/laws.FnCheckFree", spec := "fnCheckFree", apart := false }
def FnCheckFreeSaid : Prop := fnCheckFreeRow.holds Try.pinned (OpenSpec.ofChange fnCheckFreeSpec)

/-- ITS FALSE NEIGHBOUR: 'it returns false'. Refute it at one input. -/
def fnCheckFreeWrong : ChangeSpec := { name := "fnCheckFree", fn := fun _ => fun
  | [d] => { results := [.lit (.bool false)], args := [d] }
  | _ => none }
def FnCheckFreeWrongFalsely : Prop := fnCheckFreeRow.holds Try.pinned (OpenSpec.ofChange fnCheckFreeWrong)

/-- 'laws.FnCheckOld': WHATEVER THE INPUT: true; the input reads as it did. -/
def fnCheckOldSpec : ChangeSpec := { name := "fnCheckOld", fn := fun _ => fun
  | [d1, d2] => { results := [.lit (.bool true)], args := [d1, d2] }
  | _ => none }
def fnCheckOldRow : OpenClaim := { program := "ytlppnhkgadcgdaa", sum := "f937089f5d49429e3afec5af79152eede92ef00538bf91f69cbfd76f5081fdd2", func := "loop.example/recordbatches/laws.FnCheckOld", spec := "fnCheckOld", apart := false }
def FnCheckOldSaid : Prop := fnCheckOldRow.holds Try.pinned (OpenSpec.ofChange fnCheckOldSpec)

/-- ITS FALSE NEIGHBOUR: 'it returns false'. Refute it at one input. -/
def fnCheckOldWrong : ChangeSpec := { name := "fnCheckOld", fn := fun _ => fun
  | [d1, d2] => { results := [.lit (.bool false)], args := [d1, d2] }
  | _ => none }
def FnCheckOldWrongFalsely : Prop := fnCheckOldRow.holds Try.pinned (OpenSpec.ofChange fnCheckOldWrong)

/-- 'laws.FnCheckGap': WHATEVER THE INPUT: true; the input reads as it did. -/
def fnCheckGapSpec : ChangeSpec := { name := "fnCheckGap", fn := fun _ => fun
  | [d] => { results := [.lit (.bool true)], args := [d] }
  | _ => none }
def fnCheckGapRow : OpenClaim := { program := "ytlppnhkgadcgdaa", sum := "f937089f5d49429e3afec5af79152eede92ef00538bf91f69cbfd76f5081fdd2", func := "loop.example/recordbatches/laws.FnCheckGap", spec := "fnCheckGap", apart := false }
def FnCheckGapSaid : Prop := fnCheckGapRow.holds Try.pinned (OpenSpec.ofChange fnCheckGapSpec)

/-- ITS FALSE NEIGHBOUR: 'it returns false'. Refute it at one input. -/
def fnCheckGapWrong : ChangeSpec := { name := "fnCheckGap", fn := fun _ => fun
  | [d] => { results := [.lit (.bool false)], args := [d] }
  | _ => none }
def FnCheckGapWrongFalsely : Prop := fnCheckGapRow.holds Try.pinned (OpenSpec.ofChange fnCheckGapWrong)

/-- 'laws.FnExactProducersPut': WHATEVER THE INPUT: true; the input reads as it did. -/
def fnExactProducersPutSpec : ChangeSpec := { name := "fnExactProducersPut", fn := fun _ => fun
  | [d1, d2] => { results := [.lit (.bool true)], args := [d1, d2] }
  | _ => none }
def fnExactProducersPutRow : OpenClaim := { program := "ytlppnhkgadcgdaa", sum := "f937089f5d49429e3afec5af79152eede92ef00538bf91f69cbfd76f5081fdd2", func := "loop.example/recordbatches/laws.FnExactProducersPut", spec := "fnExactProducersPut", apart := false }
def FnExactProducersPutSaid : Prop := fnExactProducersPutRow.holds Try.pinned (OpenSpec.ofChange fnExactProducersPutSpec)

/-- ITS FALSE NEIGHBOUR: 'it returns false'. Refute it at one input. -/
def fnExactProducersPutWrong : ChangeSpec := { name := "fnExactProducersPut", fn := fun _ => fun
  | [d1, d2] => { results := [.lit (.bool false)], args := [d1, d2] }
  | _ => none }
def FnExactProducersPutWrongFalsely : Prop := fnExactProducersPutRow.holds Try.pinned (OpenSpec.ofChange fnExactProducersPutWrong)

/-- 'laws.FnPutFine': WHATEVER THE INPUT: true; the input reads as it did. -/
def fnPutFineSpec : ChangeSpec := { name := "fnPutFine", fn := fun _ => fun
  | [d] => { results := [.lit (.bool true)], args := [d] }
  | _ => none }
def fnPutFineRow : OpenClaim := { program := "ytlppnhkgadcgdaa", sum := "f937089f5d49429e3afec5af79152eede92ef00538bf91f69cbfd76f5081fdd2", func := "loop.example/recordbatches/laws.FnPutFine", spec := "fnPutFine", apart := false }
def FnPutFineSaid : Prop := fnPutFineRow.holds Try.pinned (OpenSpec.ofChange fnPutFineSpec)

/-- ITS FALSE NEIGHBOUR: 'it returns false'. Refute it at one input. -/
def fnPutFineWrong : ChangeSpec := { name := "fnPutFine", fn := fun _ => fun
  | [d] => { results := [.lit (.bool false)], args := [d] }
  | _ => none }
def FnPutFineWrongFalsely : Prop := fnPutFineRow.holds Try.pinned (OpenSpec.ofChange fnPutFineWrong)

/-- 'laws.FnPutNext': WHATEVER THE INPUT: true; the input reads as it did. -/
def fnPutNextSpec : ChangeSpec := { name := "fnPutNext", fn := fun _ => fun
  | [d] => { results := [.lit (.bool true)], args := [d] }
  | _ => none }
def fnPutNextRow : OpenClaim := { program := "ytlppnhkgadcgdaa", sum := "f937089f5d49429e3afec5af79152eede92ef00538bf91f69cbfd76f5081fdd2", func := "loop.example/recordbatches/laws.FnPutNext", spec := "fnPutNext", apart := false }
def FnPutNextSaid : Prop := fnPutNextRow.holds Try.pinned (OpenSpec.ofChange fnPutNextSpec)

/-- ITS FALSE NEIGHBOUR: 'it returns false'. Refute it at one input. -/
def fnPutNextWrong : ChangeSpec := { name := "fnPutNext", fn := fun _ => fun
  | [d] => { results := [.lit (.bool false)], args := [d] }
  | _ => none }
def FnPutNextWrongFalsely : Prop := fnPutNextRow.holds Try.pinned (OpenSpec.ofChange fnPutNextWrong)

/-- 'laws.FnPutKeep': WHATEVER THE INPUT: true; the input reads as it did. -/
def fnPutKeepSpec : ChangeSpec := { name := "fnPutKeep", fn := fun _ => fun
  | [d] => { results := [.lit (.bool true)], args := [d] }
  | _ => none }
def fnPutKeepRow : OpenClaim := { program := "ytlppnhkgadcgdaa", sum := "f937089f5d49429e3afec5af79152eede92ef00538bf91f69cbfd76f5081fdd2", func := "loop.example/recordbatches/laws.FnPutKeep", spec := "fnPutKeep", apart := false }
def FnPutKeepSaid : Prop := fnPutKeepRow.holds Try.pinned (OpenSpec.ofChange fnPutKeepSpec)

/-- ITS FALSE NEIGHBOUR: 'it returns false'. Refute it at one input. -/
def fnPutKeepWrong : ChangeSpec := { name := "fnPutKeep", fn := fun _ => fun
  | [d] => { results := [.lit (.bool false)], args := [d] }
  | _ => none }
def FnPutKeepWrongFalsely : Prop := fnPutKeepRow.holds Try.pinned (OpenSpec.ofChange fnPutKeepWrong)

/-- 'laws.FnPutOthers': WHATEVER THE INPUT: true; the input reads as it did. -/
def fnPutOthersSpec : ChangeSpec := { name := "fnPutOthers", fn := fun _ => fun
  | [d] => { results := [.lit (.bool true)], args := [d] }
  | _ => none }
def fnPutOthersRow : OpenClaim := { program := "ytlppnhkgadcgdaa", sum := "f937089f5d49429e3afec5af79152eede92ef00538bf91f69cbfd76f5081fdd2", func := "loop.example/recordbatches/laws.FnPutOthers", spec := "fnPutOthers", apart := false }
def FnPutOthersSaid : Prop := fnPutOthersRow.holds Try.pinned (OpenSpec.ofChange fnPutOthersSpec)

/-- ITS FALSE NEIGHBOUR: 'it returns false'. Refute it at one input. -/
def fnPutOthersWrong : ChangeSpec := { name := "fnPutOthers", fn := fun _ => fun
  | [d] => { results := [.lit (.bool false)], args := [d] }
  | _ => none }
def FnPutOthersWrongFalsely : Prop := fnPutOthersRow.holds Try.pinned (OpenSpec.ofChange fnPutOthersWrong)

/-- 'laws.FnExactMarkBatch': WHATEVER THE INPUT: true; the input reads as it did. -/
def fnExactMarkBatchSpec : ChangeSpec := { name := "fnExactMarkBatch", fn := fun _ => fun
  | [d1, d2, d3, d4, d5] => { results := [.lit (.bool true)], args := [d1, d2, d3, d4, d5] }
  | _ => none }
def fnExactMarkBatchRow : OpenClaim := { program := "ytlppnhkgadcgdaa", sum := "f937089f5d49429e3afec5af79152eede92ef00538bf91f69cbfd76f5081fdd2", func := "loop.example/recordbatches/laws.FnExactMarkBatch", spec := "fnExactMarkBatch", apart := false }
def FnExactMarkBatchSaid : Prop := fnExactMarkBatchRow.holds Try.pinned (OpenSpec.ofChange fnExactMarkBatchSpec)

/-- ITS FALSE NEIGHBOUR: 'it returns false'. Refute it at one input. -/
def fnExactMarkBatchWrong : ChangeSpec := { name := "fnExactMarkBatch", fn := fun _ => fun
  | [d1, d2, d3, d4, d5] => { results := [.lit (.bool false)], args := [d1, d2, d3, d4, d5] }
  | _ => none }
def FnExactMarkBatchWrongFalsely : Prop := fnExactMarkBatchRow.holds Try.pinned (OpenSpec.ofChange fnExactMarkBatchWrong)

/-- 'laws.FnMarkBatch': WHATEVER THE INPUT: true; the input reads as it did. -/
def fnMarkBatchSpec : ChangeSpec := { name := "fnMarkBatch", fn := fun _ => fun
  | [d] => { results := [.lit (.bool true)], args := [d] }
  | _ => none }
def fnMarkBatchRow : OpenClaim := { program := "ytlppnhkgadcgdaa", sum := "f937089f5d49429e3afec5af79152eede92ef00538bf91f69cbfd76f5081fdd2", func := "loop.example/recordbatches/laws.FnMarkBatch", spec := "fnMarkBatch", apart := false }
def FnMarkBatchSaid : Prop := fnMarkBatchRow.holds Try.pinned (OpenSpec.ofChange fnMarkBatchSpec)

/-- ITS FALSE NEIGHBOUR: 'it returns false'. Refute it at one input. -/
def fnMarkBatchWrong : ChangeSpec := { name := "fnMarkBatch", fn := fun _ => fun
  | [d] => { results := [.lit (.bool false)], args := [d] }
  | _ => none }
def FnMarkBatchWrongFalsely : Prop := fnMarkBatchRow.holds Try.pinned (OpenSpec.ofChange fnMarkBatchWrong)

/- THE SECOND FORM. 'bulk': how many values and letters a reading holds, each counted each time it is reached (what is shared counts as often as it is met; a slice's spare places count too). A statement '..UptoSaid' is the law's where the arguments, and the package variables that the reading takes, are together of bulk at most 1048576: NARROWER than '..Said'. Prove '..Said' where nothing that the law and all that it calls make is longer than what came in: it says more and counts as full. Else prove '..UptoSaid'. A law counts once. -/
mutual
def uptoBulk {H : Type} : DataW H → Nat
  | .lit (.string bytes) => bytes.length + 1
  | .lit _ => 1
  | .nil => 1
  | .ptr d => uptoBulk d + 1
  | .slice elems spare => uptoBulkAll elems + uptoBulkAll spare + 1
  | .agg parts => uptoBulkAll parts + 1
  | .iface _ d => uptoBulk d + 1
  | .map entries => uptoBulkEntries entries + 1
  | .held _ => 1
def uptoBulkAll {H : Type} : List (DataW H) → Nat
  | [] => 0
  | d :: r => uptoBulk d + uptoBulkAll r
def uptoBulkEntries {H : Type} : List (Lit × DataW H) → Nat
  | [] => 0
  | x :: r => uptoBulkEntry x + uptoBulkEntries r
def uptoBulkEntry {H : Type} : Lit × DataW H → Nat
  | (.string bytes, d) => bytes.length + uptoBulk d + 1
  | (_, d) => uptoBulk d + 1
 end
def uptoSmall : (H : Type) → List (DataW H) → Bool := fun _ ds => decide (uptoBulkAll ds ≤ 1048576)
def OpenSpec.upto (s : _root_.Go.ChangeSpec) : _root_.Go.OpenSpec := { _root_.Go.OpenSpec.ofChange s with cond := some uptoSmall }

/-- 'laws.FnExactProducersCheck', WHERE WHAT IT READS IS OF BULK AT MOST 1048576: true; the input reads as it did. -/
def fnExactProducersCheckUptoRow : OpenClaim := { program := "ytlppnhkgadcgdaa", sum := "f937089f5d49429e3afec5af79152eede92ef00538bf91f69cbfd76f5081fdd2", func := "loop.example/recordbatches/laws.FnExactProducersCheck", spec := "fnExactProducersCheck", apart := false, narrowed := true }
def FnExactProducersCheckUptoSaid : Prop := fnExactProducersCheckUptoRow.holds Try.pinned (OpenSpec.upto fnExactProducersCheckSpec)

/-- 'laws.FnCheck', WHERE WHAT IT READS IS OF BULK AT MOST 1048576: true; the input reads as it did. -/
def fnCheckUptoRow : OpenClaim := { program := "ytlppnhkgadcgdaa", sum := "f937089f5d49429e3afec5af79152eede92ef00538bf91f69cbfd76f5081fdd2", func := "loop.example/recordbatches/laws.FnCheck", spec := "fnCheck", apart := false, narrowed := true }
def FnCheckUptoSaid : Prop := fnCheckUptoRow.holds Try.pinned (OpenSpec.upto fnCheckSpec)

/-- 'laws.FnCheckFree', WHERE WHAT IT READS IS OF BULK AT MOST 1048576: true; the input reads as it did. -/
def fnCheckFreeUptoRow : OpenClaim := { program := "ytlppnhkgadcgdaa", sum := "f937089f5d49429e3afec5af79152eede92ef00538bf91f69cbfd76f5081fdd2", func := "loop.example/recordbatches/laws.FnCheckFree", spec := "fnCheckFree", apart := false, narrowed := true }
def FnCheckFreeUptoSaid : Prop := fnCheckFreeUptoRow.holds Try.pinned (OpenSpec.upto fnCheckFreeSpec)

/-- 'laws.FnCheckOld', WHERE WHAT IT READS IS OF BULK AT MOST 1048576: true; the input reads as it did. -/
def fnCheckOldUptoRow : OpenClaim := { program := "ytlppnhkgadcgdaa", sum := "f937089f5d49429e3afec5af79152eede92ef00538bf91f69cbfd76f5081fdd2", func := "loop.example/recordbatches/laws.FnCheckOld", spec := "fnCheckOld", apart := false, narrowed := true }
def FnCheckOldUptoSaid : Prop := fnCheckOldUptoRow.holds Try.pinned (OpenSpec.upto fnCheckOldSpec)

/-- 'laws.FnCheckGap', WHERE WHAT IT READS IS OF BULK AT MOST 1048576: true; the input reads as it did. -/
def fnCheckGapUptoRow : OpenClaim := { program := "ytlppnhkgadcgdaa", sum := "f937089f5d49429e3afec5af79152eede92ef00538bf91f69cbfd76f5081fdd2", func := "loop.example/recordbatches/laws.FnCheckGap", spec := "fnCheckGap", apart := false, narrowed := true }
def FnCheckGapUptoSaid : Prop := fnCheckGapUptoRow.holds Try.pinned (OpenSpec.upto fnCheckGapSpec)

/-- 'laws.FnExactProducersPut', WHERE WHAT IT READS IS OF BULK AT MOST 1048576: true; the input reads as it did. -/
def fnExactProducersPutUptoRow : OpenClaim := { program := "ytlppnhkgadcgdaa", sum := "f937089f5d49429e3afec5af79152eede92ef00538bf91f69cbfd76f5081fdd2", func := "loop.example/recordbatches/laws.FnExactProducersPut", spec := "fnExactProducersPut", apart := false, narrowed := true }
def FnExactProducersPutUptoSaid : Prop := fnExactProducersPutUptoRow.holds Try.pinned (OpenSpec.upto fnExactProducersPutSpec)

/-- 'laws.FnPutFine', WHERE WHAT IT READS IS OF BULK AT MOST 1048576: true; the input reads as it did. -/
def fnPutFineUptoRow : OpenClaim := { program := "ytlppnhkgadcgdaa", sum := "f937089f5d49429e3afec5af79152eede92ef00538bf91f69cbfd76f5081fdd2", func := "loop.example/recordbatches/laws.FnPutFine", spec := "fnPutFine", apart := false, narrowed := true }
def FnPutFineUptoSaid : Prop := fnPutFineUptoRow.holds Try.pinned (OpenSpec.upto fnPutFineSpec)

/-- 'laws.FnPutNext', WHERE WHAT IT READS IS OF BULK AT MOST 1048576: true; the input reads as it did. -/
def fnPutNextUptoRow : OpenClaim := { program := "ytlppnhkgadcgdaa", sum := "f937089f5d49429e3afec5af79152eede92ef00538bf91f69cbfd76f5081fdd2", func := "loop.example/recordbatches/laws.FnPutNext", spec := "fnPutNext", apart := false, narrowed := true }
def FnPutNextUptoSaid : Prop := fnPutNextUptoRow.holds Try.pinned (OpenSpec.upto fnPutNextSpec)

/-- 'laws.FnPutKeep', WHERE WHAT IT READS IS OF BULK AT MOST 1048576: true; the input reads as it did. -/
def fnPutKeepUptoRow : OpenClaim := { program := "ytlppnhkgadcgdaa", sum := "f937089f5d49429e3afec5af79152eede92ef00538bf91f69cbfd76f5081fdd2", func := "loop.example/recordbatches/laws.FnPutKeep", spec := "fnPutKeep", apart := false, narrowed := true }
def FnPutKeepUptoSaid : Prop := fnPutKeepUptoRow.holds Try.pinned (OpenSpec.upto fnPutKeepSpec)

/-- 'laws.FnPutOthers', WHERE WHAT IT READS IS OF BULK AT MOST 1048576: true; the input reads as it did. -/
def fnPutOthersUptoRow : OpenClaim := { program := "ytlppnhkgadcgdaa", sum := "f937089f5d49429e3afec5af79152eede92ef00538bf91f69cbfd76f5081fdd2", func := "loop.example/recordbatches/laws.FnPutOthers", spec := "fnPutOthers", apart := false, narrowed := true }
def FnPutOthersUptoSaid : Prop := fnPutOthersUptoRow.holds Try.pinned (OpenSpec.upto fnPutOthersSpec)

/-- 'laws.FnExactMarkBatch', WHERE WHAT IT READS IS OF BULK AT MOST 1048576: true; the input reads as it did. -/
def fnExactMarkBatchUptoRow : OpenClaim := { program := "ytlppnhkgadcgdaa", sum := "f937089f5d49429e3afec5af79152eede92ef00538bf91f69cbfd76f5081fdd2", func := "loop.example/recordbatches/laws.FnExactMarkBatch", spec := "fnExactMarkBatch", apart := false, narrowed := true }
def FnExactMarkBatchUptoSaid : Prop := fnExactMarkBatchUptoRow.holds Try.pinned (OpenSpec.upto fnExactMarkBatchSpec)

/-- 'laws.FnMarkBatch', WHERE WHAT IT READS IS OF BULK AT MOST 1048576: true; the input reads as it did. -/
def fnMarkBatchUptoRow : OpenClaim := { program := "ytlppnhkgadcgdaa", sum := "f937089f5d49429e3afec5af79152eede92ef00538bf91f69cbfd76f5081fdd2", func := "loop.example/recordbatches/laws.FnMarkBatch", spec := "fnMarkBatch", apart := false, narrowed := true }
def FnMarkBatchUptoSaid : Prop := fnMarkBatchUptoRow.holds Try.pinned (OpenSpec.upto fnMarkBatchSpec)

end Rows
end Go.Proofs.Ytlppnhkgadcgdaa
