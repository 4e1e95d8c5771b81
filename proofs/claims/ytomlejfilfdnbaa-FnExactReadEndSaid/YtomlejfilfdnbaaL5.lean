/- The helpers of the exact laws on batches: sizes, copies, comparisons. -/
import Derived.Test.YtomlejfilfdnbaaR6
import Derived.Test.YtomlejfilfdnbaaL1
import Derived.Test.YtomlejfilfdnbaaW5c
namespace Go.Proofs.Ytomlejfilfdnbaa
open Go.ChangeShapes Go.WideShapes Go.ChangeAt Go.RowKit
set_option linter.unusedVariables false

/-- how many elements records have together, their own number counted -/
def szL : List Rec → Nat
  | [] => 0
  | r :: rs => r.key.length + r.val.length + szL rs
theorem szL_at (rs : List Rec) : ∀ i, i < rs.length → (recAt rs i).key.length + (recAt rs i).val.length ≤ szL rs := by
  induction rs with
  | nil => intro i h; simp at h
  | cons r rs ih =>
    intro i h
    cases i with
    | zero => simp only [szL]; have : recAt (r :: rs) 0 = r := rfl; rw [this]; omega
    | succ i =>
      have := ih i (by simpa using h)
      have e : recAt (r :: rs) (i + 1) = recAt rs i := rfl
      rw [e]; simp only [szL]; omega
theorem szL_take (rs : List Rec) (k : Nat) (h : k < rs.length) : szL (rs.take (k + 1)) = szL (rs.take k) + (recAt rs k).key.length + (recAt rs k).val.length := by
  induction rs generalizing k with
  | nil => simp at h
  | cons r rs ih =>
    cases k with
    | zero => simp [szL]; rfl
    | succ k =>
      have := ih k (by simpa using h)
      have e : recAt (r :: rs) (k + 1) = recAt rs k := rfl
      simp only [List.take_succ_cons, szL, e]
      omega
theorem szL_le (rs : List Rec) : ∀ k, szL (rs.take k) ≤ szL rs := by
  induction rs with
  | nil => intro k; simp
  | cons r rs ih =>
    intro k
    cases k with
    | zero => simp [szL]
    | succ k => simp only [List.take_succ_cons, szL]; have := ih k; omega
/-- what a size comes to: -1 if too much, what is left if not -/
def SzN (n : Nat) (left : Int) (w : World) (e : Ending) (w' : World) : Prop := (∃ m : Int, e = .returned (.int .i64 m) ∧ ((m = -1 ∧ left < (n : Int)) ∨ (0 ≤ m ∧ m = left - (n : Int)))) ∧ Below w.heap.size w w'

set_option maxHeartbeats 1000000 in
theorem laws_szRecordS (v : Value) (rs : List Rec) (left : Int) (w : World) (h : Recs w v rs) (h0 : 0 ≤ left) (h1 : left ≤ 1000000000) :
    Calls Try.prog 21 #[v, .int .i64 left] w (SzN (rs.length + szL rs) left w) := by
  have hv := h
  obtain ⟨a, cap, rfl, hl, hm, hc⟩ := h
  unfold maxLen at hm
  clear hc
  by_cases hn : left - (rs.length : Int) < 0
  · have d0 : decide (left - (rs.length : Int) < 0) = true := decide_eq_true hn
    have d1 : decide (left < (rs.length : Int)) = true := decide_eq_true (by omega)
    have fin : SzN (rs.length + szL rs) left w (.returned (.int .i64 (-1))) w := ⟨⟨_, rfl, .inl ⟨rfl, by omega⟩⟩, Below.refl _ _⟩
    have Fin := Lib.hid fin
    clear fin
    go_enter Try.func21, Try.ntmps21
    go_wp2_with fail
    go_ret
    exact Fin.out
  · have d0 : decide (left - (rs.length : Int) < 0) = false := decide_eq_false hn
    have d1 : decide (left < (rs.length : Int)) = false := decide_eq_false (by omega)
    have b0 : 0 ≤ left - (rs.length : Int) := by omega
    go_enter Try.func21, Try.ntmps21
    go_wp2_with fail
    go_loopw [1, 5] (fun l i wr => ∃ (k : Nat) (m : Int), k ≤ rs.length ∧ i = .int .i64 k ∧ l = .int .i64 m ∧ 0 ≤ m ∧ m + (rs.length : Int) + (szL (rs.take k) : Int) = left ∧ Below w.heap.size w wr) (fun _ i _ => rs.length - (intOf i).toNat)
    case atStart => exact ⟨0, left - (rs.length : Int), Nat.zero_le _, rfl, rfl, b0, by simp [szL], Below.refl _ _⟩
    case round =>
      obtain ⟨k, m, hk, rfl, rfl, m0, hsum, bel⟩ := hrel
      have m1 : m ≤ 1000000000 := by omega
      have HSum := Lib.hid hsum
      clear hsum
      by_cases hlt : k < rs.length
      · obtain ⟨b, off, cap', e, hm'⟩ := hv.form (by omega)
        simp only [Value.slice.injEq, true_and] at e
        obtain ⟨rfl, rfl⟩ := e
        have hvr := hv.below bel
        obtain ⟨r, a1, c1, a2, c2, Hr, hR⟩ := hvr.parts k hlt
        have C1 := Lib.hid (laws_szRecord _ r m wr hR.recV m0 m1)
        have Hst := Lib.hid (szL_take rs k hlt)
        obtain ⟨e0, e1, e2, e3, e4, e5, _, _⟩ := hR
        go_wp2_with fail
        (with_reducible refine C1.out.mono ?_)
        rintro e w2 ⟨⟨q, rfl, hq⟩, b2⟩
        have B2 := Bstep bel b2
        rcases hq with ⟨rfl, hq⟩ | ⟨q0, hq⟩
        · have fin : SzN (rs.length + szL rs) left w (.returned (.int .i64 (-1))) w2 := ⟨⟨_, rfl, .inl ⟨rfl, by have := szL_at rs k hlt; have h3 := Hst.out; rw [Hr.out] at h3 this; have h4 := HSum.out; have h5 : szL (rs.take (k + 1)) ≤ szL rs := szL_le rs (k + 1); omega⟩⟩, B2⟩
          have Fin := Lib.hid fin
          clear fin hq
          go_wp2_with fail
          go_ret
          exact Fin.out
        · have d2 : decide (q < 0) = false := decide_eq_false (by omega)
          have hn2 : q + (rs.length : Int) + (szL (rs.take (k + 1)) : Int) = left := by have h3 := Hst.out; rw [Hr.out] at h3; have h4 := HSum.out; omega
          have Hn2 := Lib.hid hn2
          clear hn2 hq
          go_wp2_with fail
          go_roundw
          case rel => exact ⟨k + 1, q, by omega, by go_num, rfl, q0, Hn2.out, B2⟩
          case measure => simp [intOf]; omega
      · have fin : SzN (rs.length + szL rs) left w (.returned (.int .i64 m)) wr := ⟨⟨_, rfl, .inr ⟨m0, by have h4 := HSum.out; rw [List.take_of_length_le (by omega)] at h4; omega⟩⟩, bel⟩
        have Fin := Lib.hid fin
        clear fin
        go_wp2_with fail
        go_ret
        exact Fin.out
theorem laws_szBatch (v : Value) (b : Bat) (left : Int) (w : World) (h : BatV w v b) (h0 : 0 ≤ left) (h1 : left ≤ 1000000000) :
    Calls Try.prog 12 #[v, .int .i64 left] w (SzN (b.recs.length + szL b.recs) left w) := by
  obtain ⟨a, cap, rfl, hr, hl, hm⟩ := h.parts
  have bw := alloc_below' w (.cells #[.bool b.packed, .bool b.mark, .int .i64 b.prod, .int .i64 b.epoch, .int .i64 b.seq, .slice a b.recs.length cap] 32)
  have C1 := Lib.hid (laws_szRecordS _ b.recs left _ (hr.below bw) h0 h1)
  have Bw := Lib.hid bw
  clear hr h
  obtain ⟨packed, mark, prod, epoch, seq, recs⟩ := b
  simp only at C1 Bw hl ⊢
  go_enter Try.func12, Try.ntmps12
  go_wp2_with fail
  (with_reducible refine C1.out.mono ?_)
  rintro e w2 ⟨⟨q, rfl, hq⟩, b2⟩
  have fin : SzN (recs.length + szL recs) left w (.returned (.int .i64 q)) w2 := ⟨⟨_, rfl, hq⟩, Bstep Bw.out b2⟩
  have Fin := Lib.hid fin
  clear fin
  rcases hq with ⟨rfl, hq⟩ | ⟨q0, hq⟩
  · clear hq
    go_wp2_with fail
    go_ret
    exact Fin.out
  · have d2 : decide (q < 0) = false := decide_eq_false (by omega)
    clear hq
    go_wp2_with fail
    go_ret
    exact Fin.out
end Go.Proofs.Ytomlejfilfdnbaa
