/- The helpers of the laws on records: two are the same; one is marked, and held against its marks; its size. -/
import Derived.Test.YthlboonobepdaaaR0
import Derived.Test.YthlboonobepdaaaR1
import Derived.Test.YthlboonobepdaaaB0
import Derived.Deep.Cut
namespace Go.Proofs.Ythlboonobepdaaa
open Go.ChangeShapes Go.WideShapes Go.ChangeAt Go.RowKit
set_option linter.unusedVariables false

/-- a record of the call's own, its parts apart -/
def RecOwn (w : World) (base : Nat) (v : Value) (r : Rec) : Prop :=
  ∃ kv vv, v = .agg #[.int .i64 r.off, .int .i64 r.time, .bool r.hk, kv, .bool r.hv, vv] ∧ Own w base kv r.key ∧ Own w base vv r.val ∧ (∀ k, vv.ownBlock = some k → kv.ownBlock ≠ some k)
/-- a record whose parts hold the marks k, k + 1 .. -/
def RecMarked (w : World) (base : Nat) (v : Value) (r : Rec) (k : Int) : Prop :=
  ∃ kv vv, v = .agg #[.int .i64 r.off, .int .i64 r.time, .bool r.hk, kv, .bool r.hv, vv] ∧ Own w base kv (marks k r.key.length) ∧ Own w base vv (marks (k + (r.key.length : Int)) r.val.length)
/-- the parts of a record lie ahead of hi -/
def RecTop (v : Value) (hi : Nat) : Prop := ∃ a b c kv d vv, v = .agg #[a, b, c, kv, d, vv] ∧ (∀ k, kv.ownBlock = some k → k < hi) ∧ ∀ k, vv.ownBlock = some k → k < hi
theorem RecOwn.top {w : World} {base : Nat} {v : Value} {r : Rec} (h : RecOwn w base v r) : RecTop v w.heap.size := by
  obtain ⟨kv, vv, rfl, o1, o2, _⟩ := h
  exact ⟨_, _, _, kv, _, vv, rfl, o1.lt2, o2.lt2⟩


def szN (n : Nat) (left : Int) : Int := if left - (n : Int) < 0 then -1 else left - (n : Int)
theorem laws_szIntS (v : Value) (xs : List Int) (left : Int) (w : World) (h : Ints w v xs) (h0 : 0 ≤ left) (h1 : left ≤ 1000000000) :
    Calls Try.prog 48 #[v, .int .i64 left] w fun e w' => e = .returned (.int .i64 (szN xs.length left)) ∧ w = w' := by
  obtain ⟨a, cap, rfl, hl, hm, hc⟩ := h
  unfold maxLen at hm
  clear hc
  by_cases hn : left - (xs.length : Int) < 0
  · rw [show szN xs.length left = -1 from if_pos hn]
    have d0 : decide (left - (xs.length : Int) < 0) = true := decide_eq_true hn
    have d1 : decide (left < (xs.length : Int)) = true := decide_eq_true (by omega)
    go_enter Try.func48, Try.ntmps48
    go_wp2
    go_ret
    exact ⟨rfl, rfl⟩
  · rw [show szN xs.length left = left - (xs.length : Int) from if_neg hn]
    have d0 : decide (left - (xs.length : Int) < 0) = false := decide_eq_false hn
    have d1 : decide (left < (xs.length : Int)) = false := decide_eq_false (by omega)
    go_enter Try.func48, Try.ntmps48
    go_wp2
    go_ret
    exact ⟨rfl, rfl⟩
def SzRes (w : World) (r : Rec) (left : Int) (e : Ending) (w' : World) : Prop := (∃ n : Int, e = .returned (.int .i64 n) ∧ ((n = -1 ∧ left < (r.key.length : Int) + (r.val.length : Int)) ∨ (0 ≤ n ∧ n = left - (r.key.length : Int) - (r.val.length : Int)))) ∧ Below w.heap.size w w'
end Go.Proofs.Ythlboonobepdaaa
