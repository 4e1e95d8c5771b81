/- Chapter 33: the exact laws on how many batches are kept. -/
import Derived.Test.YtfapeppocfodpaaKL
import Derived.Test.YtfapeppocfodpaaW33k
namespace Go.Proofs.Ytfapeppocfodpaa
open Go.ChangeShapes Go.WideShapes Go.ChangeAt Go.RowKit
set_option linter.unusedVariables false

/-- the answer's number -/
def KeepR (ok : Bool) (P : Nat → Prop) (n : Nat) (r : Int) : Prop := (ok = false ∧ r = -1) ∨ (ok = true ∧ ∃ k : Nat, r = (k : Int) ∧ KeepIs P n k)
theorem KeepR.uniq {ok : Bool} {P : Nat → Prop} {n : Nat} {r s : Int} (h : KeepR ok P n r) (g : KeepR ok P n s) : r = s := by
  rcases h with ⟨h1, h2⟩ | ⟨h1, k, rfl, h2⟩ <;> rcases g with ⟨g1, g2⟩ | ⟨g1, j, rfl, g2⟩
  · rw [h2, g2]
  · rw [h1] at g1; cases g1
  · rw [h1] at g1; cases g1
  · rw [h2.uniq g2]
/-- the answer: a number of which a statement holds -/
def KeepAnR (R : Int → Prop) (w : World) (e : Ending) (w' : World) : Prop := ∃ r : Int, e = .returned (.int .i64 r) ∧ Below w.heap.size w w' ∧ R r
theorem KeepAns.r {ok : Bool} {P : Nat → Prop} {n : Nat} {w : World} {e : Ending} {w' : World} (h : KeepAns ok P n w e w') : KeepAnR (KeepR ok P n) w e w' := h
set_option maxHeartbeats 1000000 in
theorem law_FnExactKeepSize (w : World) (v : Value) (bs : List Bat) (h : Bats w v bs) (m : Int) (hm : I64 m) : Calls Try.prog 6 #[v, .int .i64 m] w (Yes w) := by
  have hv := h
  have hmm := Lib.hid hm
  obtain ⟨a, cap, rfl, hl, hmx, hc⟩ := h
  unfold maxLen at hmx
  clear hc hm
  have C0 := Lib.hid (laws_szBatchS (.slice a bs.length cap) bs 1048576 w hv (by omega) (by omega))
  go_enter Try.func6, Try.ntmps6
  go_wp2_with fail
  (with_reducible refine C0.out.mono ?_)
  rintro e w1 ⟨⟨n, rfl, hn⟩, B1⟩
  clear C0
  rcases hn with ⟨rfl, hn⟩ | ⟨n0, hn⟩
  · clear hn
    go_wp2_with fail
    go_ret
    exact ⟨rfl, B1⟩
  have d0 : decide (n < 0) = false := decide_eq_false (by omega)
  have hsz : bs.length + szB bs ≤ 100000000 := by omega
  have C3 : Hid (∀ W, Below w.heap.size w W → Calls Try.prog 10 #[.slice a bs.length cap] W (BatsCopy W bs)) := Lib.hid fun W hW => laws_toBatchS _ bs W (hv.below hW) hsz
  have C1 : Hid (∀ W u, Bats W u bs → Calls Try.prog 25 #[u, .int .i64 m] W (KeepAnR (KeepR (logOk bs && (decide (0 ≤ m) && decide (m ≤ 99999))) (fun i => keepSz bs m i = true) bs.length) W)) := Lib.hid fun W u hu => (spec_KeepSize u bs m W hu (by omega)).mono fun _ _ => KeepAns.r
  have C2 : Hid (∀ W u, Bats W u bs → Calls Try.prog 26 #[u, .int .i64 m] W (KeepAnR (KeepR (logOk bs && (decide (0 ≤ m) && decide (m ≤ 99999))) (fun i => keepSz bs m i = true) bs.length) W)) := Lib.hid fun W u hu => (impl_KeepSize u bs m W hu hmm.out).mono fun _ _ => KeepAns.r
  have C4 : Hid (∀ W u v, Bats W u bs → Bats W v bs → Calls Try.prog 14 #[u, v] W (Same W true)) := Lib.hid fun W u v hu hv => laws_eqBatchS u v bs W hu hv
  have CU : Hid (∀ r s, (KeepR (logOk bs && (decide (0 ≤ m) && decide (m ≤ 99999))) (fun i => keepSz bs m i = true) bs.length) r → (KeepR (logOk bs && (decide (0 ≤ m) && decide (m ≤ 99999))) (fun i => keepSz bs m i = true) bs.length) s → r = s) := Lib.hid fun r s => KeepR.uniq
  obtain ⟨PP, hPP⟩ : ∃ PP : Int → Prop, (KeepR (logOk bs && (decide (0 ≤ m) && decide (m ≤ 99999))) (fun i => keepSz bs m i = true) bs.length) = PP := ⟨_, rfl⟩
  rw [hPP] at C1 C2 CU
  clear hPP hn n0 hsz hv hmm
  go_wp2_with fail
  (with_reducible refine (C3.out w1 B1).mono ?_)
  rintro e w2 ⟨v2, rfl, own2, b2⟩
  have B2 := Bstep B1 b2
  go_wp2_with fail
  (with_reducible refine (C1.out w2 v2 own2.bats).mono ?_)
  rintro e w3 ⟨ob, rfl, b3, hob⟩
  have B3 := Bstep B2 b3
  clear own2 b2 b3 B2 B1
  have HOB := Lib.hid hob
  clear hob
  go_wp2_with fail
  (with_reducible refine (C3.out w3 B3).mono ?_)
  rintro e w4 ⟨v4, rfl, own4, b4⟩
  have B4 := Bstep B3 b4
  have i4 := own4.bats
  clear own4 b4 B3
  go_wp2_with fail
  (with_reducible refine (C2.out w4 v4 i4).mono ?_)
  rintro e w5 ⟨ob2, rfl, b5, hob2⟩
  have B5 := Bstep B4 b5
  have i5 := i4.below b5
  obtain rfl : ob2 = ob := CU.out _ _ hob2 HOB.out
  have hbb : (ob2 != ob2) = false := by simp
  clear i4 b5 B4 hob2 HOB
  go_wp2_with fail
  (with_reducible refine (C3.out w5 B5).mono ?_)
  rintro e w6 ⟨v6, rfl, own6, b6⟩
  have B6 := Bstep B5 b6
  have i6 := i5.below b6
  clear b6 B5 i5
  go_wp2_with fail
  (with_reducible refine (C4.out w6 v4 v6 i6 own6.bats).mono ?_)
  rintro e w7 ⟨rfl, b7⟩
  go_wp2_with fail
  go_ret
  exact ⟨rfl, Bstep B6 b7⟩
end Go.Proofs.Ytfapeppocfodpaa
