/- Chapter 2: what the functions on numbers without a sign answer. -/
import Derived.Test.YtomlejfilfdnbaaA1
import Derived.Test.YtomlejfilfdnbaaP2
namespace Go.Proofs.Ytomlejfilfdnbaa
open Go.ChangeShapes Go.WideShapes Go.ChangeAt Go.RowKit
set_option linter.unusedVariables false

/-- a slice of the call's own: one number is stored -/
theorem Own.store {w : World} {base g n cap : Nat} {xs : List Int} (h : Own w base (.slice (some ⟨g, 0, none⟩) n cap) xs) (hn : n = xs.length) (i : Nat) (hi : i < n) (x : Int) :
    (∃ old, w.cell? ⟨g, i, none⟩ = some (.int .i64 old)) ∧ w.frozen? ⟨g, i, none⟩ = false ∧ Own (w.setCell ⟨g, i, none⟩ (.int .i64 x)) base (.slice (some ⟨g, 0, none⟩) n cap) (xs.set i x) ∧ w.grownBy (w.setCell ⟨g, i, none⟩ (.int .i64 x)) (some g) := by
  subst hn
  have hc := World.ownsRow.cellAt h i (by omega)
  have hf := World.ownsRow.frozenAt h i
  have hst := World.ownsRow.stored h i (.int .i64 x)
  refine ⟨⟨xs.getD i 0, ?_⟩, hf, ?_, hst.2⟩
  · rw [hc]; simp [List.getD, hi]
  · unfold Own
    rw [List.length_set, List.map_set]
    exact hst.1

def okI (n many : Int) : Bool := decide (1 ≤ many) && decide (many ≤ 3) && decide (0 ≤ n) && decide (n < 256 ^ many.toNat)
def intB (n many : Int) : List Int := if okI n many = true then sfx many.toNat n else []
theorem intB_no {n many : Int} (h : okI n many = false) : intB n many = [] := by unfold intB; rw [h]; rfl
theorem intB_yes {n many : Int} (h : okI n many = true) : intB n many = sfx many.toNat n := if_pos h
theorem okI_yes {n : Int} {m : Nat} (h : okI n (m : Int) = true) : 1 ≤ m ∧ m ≤ 3 ∧ 0 ≤ n ∧ n < 256 ^ m := by
  unfold okI at h
  simp only [Bool.and_eq_true, decide_eq_true_eq, Int.toNat_natCast] at h
  exact ⟨by omega, by omega, h.1.2, h.2⟩
theorem okI_mk {n : Int} {m : Nat} (h1 : 1 ≤ m) (h2 : m ≤ 3) (h3 : 0 ≤ n) (h4 : n < 256 ^ m) : okI n (m : Int) = true := by
  unfold okI
  simp only [Bool.and_eq_true, decide_eq_true_eq, Int.toNat_natCast]
  exact ⟨⟨⟨by omega, by omega⟩, h3⟩, h4⟩
theorem okI_many {n many : Int} (h : okI n many = true) : ∃ m : Nat, many = (m : Int) ∧ 1 ≤ m ∧ m ≤ 3 := by
  unfold okI at h
  simp only [Bool.and_eq_true, decide_eq_true_eq] at h
  exact ⟨many.toNat, by omega, by omega, by omega⟩
theorem okI_off {n many : Int} (h : many < 1 ∨ 3 < many) : okI n many = false := by
  unfold okI
  rcases h with h | h
  · rw [decide_eq_false (show ¬ 1 ≤ many by omega)]; rfl
  · rw [decide_eq_false (show ¬ many ≤ 3 by omega)]; simp
theorem okI_neg {n many : Int} (h : n < 0) : okI n many = false := by
  unfold okI; rw [decide_eq_false (show ¬ 0 ≤ n by omega)]; simp
theorem okI_big {n : Int} {m : Nat} (h : ¬ n < 256 ^ m) : okI n (m : Int) = false := by
  unfold okI; rw [Int.toNat_natCast, decide_eq_false h]; simp

def sizeB (n : Int) : Bool := decide (1 ≤ n) && decide (n ≤ 3)
theorem sizeB_yes {n : Int} (h : 1 ≤ n) (h2 : n ≤ 3) : sizeB n = true := by unfold sizeB; rw [decide_eq_true h, decide_eq_true h2]; rfl
theorem sizeB_no {n : Int} (h : n < 1 ∨ 3 < n) : sizeB n = false := by
  unfold sizeB
  rcases h with h | h
  · rw [decide_eq_false (show ¬ 1 ≤ n by omega)]; rfl
  · rw [decide_eq_false (show ¬ n ≤ 3 by omega)]; simp

theorem impl_isIntSize (n : Int) (w : World) (hn : I64 n) :
    Calls Try.prog 76 #[.int .i64 n] w fun e w' => e = .returned (.bool (sizeB n)) ∧ w = w' := by
  obtain ⟨ha, hb⟩ := hn
  by_cases h1 : n < 1
  · have d1 : decide (1 ≤ n) = false := decide_eq_false (by omega)
    rw [sizeB_no (.inl h1)]
    go_enter Try.func76, Try.ntmps76
    go_wp2
    go_ret
    exact ⟨rfl, rfl⟩
  · have d1 : decide (1 ≤ n) = true := decide_eq_true (by omega)
    by_cases h2 : 3 < n
    · have d2 : decide (n ≤ 3) = false := decide_eq_false (by omega)
      rw [sizeB_no (.inr h2)]
      go_enter Try.func76, Try.ntmps76
      go_wp2
      go_ret
      exact ⟨rfl, rfl⟩
    · have d2 : decide (n ≤ 3) = true := decide_eq_true (by omega)
      rw [sizeB_yes (by omega) (by omega)]
      go_enter Try.func76, Try.ntmps76
      go_wp2
      go_ret
      exact ⟨rfl, rfl⟩

theorem pow256_le (m : Nat) (h : m ≤ 3) : (256 : Int) ^ m ≤ 16777216 := by
  match m, h with
  | 0, _ => decide
  | 1, _ => decide
  | 2, _ => decide
  | 3, _ => decide

theorem spec_l2Int (n : Int) (m : Nat) (w : World) (hm0 : 1 ≤ m) (hm : m ≤ 3) (h0 : 0 ≤ n) (h1 : n ≤ 16777215) :
    Calls Try.prog 39 #[.int .i64 n, .int .i64 (m : Int)] w (NewInts1 w (sfx m n)) := by
  go_enter Try.func39, Try.ntmps39
  go_wp2_with (at_make; refine wp_makeN rfl _ _ rfl w.heap.size _ _ m rfl rfl rfl rfl (by omega) (Nat.le_refl _) ?_; intro w0 hown0 hgrow0)
  have hb0 : Below w.heap.size w w0 := (Below.refl _ _).grown hgrow0 (Nat.le_refl _) (fun k hk => by cases hk)
  go_loopw [0, 6] (fun n' i wr => ∃ (k : Nat) (y z : Int), i = .int .i64 z ∧ z + 1 = k ∧ k ≤ m ∧ n' = .int .i64 y ∧ y = n / 256 ^ (m - k) ∧ 0 ≤ y ∧ y ≤ 16777215 ∧ Own wr w.heap.size (.slice (some ⟨w.heap.size, 0, none⟩) m m) (List.replicate k 0 ++ sfx (m - k) n) ∧ Below w.heap.size w wr) (fun _ i _ => (intOf i + 1).toNat)
  case atStart => exact ⟨m, n, _, rfl, by omega, Nat.le_refl _, rfl, by simp, h0, h1, by simpa [sfx] using hown0, hb0⟩
  case round =>
    obtain ⟨k, y, z, rfl, hz, hk, rfl, hy, y0, y1, hown, hbel⟩ := hrel
    cases k with
    | zero =>
      clear hy
      obtain rfl : z = -1 := by omega
      go_wp2
      go_ret
      exact ⟨_, rfl, by simpa using hown, hbel⟩
    | succ k =>
      obtain rfl : z = (k : Int) := by omega
      have hL : m = (List.replicate (k + 1) 0 ++ sfx (m - (k + 1)) n).length := by simp [sfx_len]; omega
      have e1 : m - k = m - (k + 1) + 1 := by omega
      have hset := sfx_set m (m - (k + 1)) n (y % 256) (by omega) (by rw [hy])
      rw [show m - (m - (k + 1)) = k + 1 by omega, show m - 1 - (m - (k + 1)) = k by omega, show m - (m - (k + 1) + 1) = k by omega, ← e1] at hset
      obtain ⟨⟨old, hold⟩, hf, hnew, hgr⟩ := hown.store hL k (by omega) (y % 256)
      rw [hset] at hnew
      have hbel2 : Below w.heap.size w (wr.setCell ⟨w.heap.size, k, none⟩ (.int .i64 (y % 256))) := hbel.setCell (Nat.le_refl _) _
      have hy2 : y / 256 = n / 256 ^ (m - k) := by rw [hy, pow_step, ← e1]
      have Hy2 := Lib.hid hy2
      clear hset hy hy2 hL e1 hown hz
      go_wp2
      go_roundw
      case rel => exact ⟨k, y / 256, (k : Int) - 1, by go_num, by omega, by omega, by go_num, Hy2.out, by omega, by omega, hnew, hbel2⟩
      case measure => simp [intOf]

theorem okI_no {n : Int} {m : Nat} (h1 : 1 ≤ m) (h2 : m ≤ 3) (h : okI n (m : Int) = false) : n < 0 ∨ 256 ^ m ≤ n := by
  rcases Int.lt_or_le n 0 with h0 | h0
  · exact .inl h0
  · rcases Int.lt_or_le n (256 ^ m) with h4 | h4
    · rw [okI_mk h1 h2 h0 h4] at h; cases h
    · exact .inr h4

theorem shr_test {n : Int} {m : Nat} (h1 : 1 ≤ m) (h2 : m ≤ 3) (h0 : 0 ≤ n) : (n / 256 ^ m != 0) = !okI n (m : Int) := by
  cases hok : okI n (m : Int) with
  | true =>
    obtain ⟨_, _, n0, n1⟩ := okI_yes hok
    rw [Int.ediv_eq_zero_of_lt n0 n1]; rfl
  | false =>
    rcases okI_no h1 h2 hok with h | h
    · omega
    · have := Int.le_ediv_of_mul_le (a := 1) (b := n) (c := 256 ^ m) (Int.pow_pos (by omega)) (by omega)
      rw [Bool.not_false, bne_iff_ne]
      omega

set_option maxHeartbeats 2000000 in
theorem impl_IntBytes (n many : Int) (w : World) (hn : I64 n) (hm : I64 many) :
    Calls Try.prog 71 #[.int .i64 n, .int .i64 many] w (NewInts w (intB n many) (okI n many)) := by
  obtain ⟨ha, hb⟩ := hn
  have C1 := Lib.hid (impl_isIntSize many w hm)
  obtain ⟨ma, mb⟩ := hm
  by_cases hin : 1 ≤ many ∧ many ≤ 3
  · rw [sizeB_yes hin.1 hin.2] at C1
    by_cases hneg : n < 0
    · rw [okI_neg hneg, intB_no (okI_neg hneg)]
      go_enter Try.func71, Try.ntmps71
      go_wp2_with fail
      refine C1.out.mono ?_
      rintro e w1 ⟨rfl, rfl⟩
      go_wp2_with fail
      go_ret2
      exact ⟨_, rfl, own_nil _ _, Below.refl _ _⟩
    · have ht : (many = 1 ∧ (n / 256 != 0) = !okI n many) ∨ (many = 2 ∧ (n / 65536 != 0) = !okI n many) ∨ (many = 3 ∧ (n / 16777216 != 0) = !okI n many) := by
        rcases (show many = 1 ∨ many = 2 ∨ many = 3 by omega) with rfl | rfl | rfl
        · exact .inl ⟨rfl, shr_test (m := 1) (by omega) (by omega) (by omega)⟩
        · exact .inr (.inl ⟨rfl, shr_test (m := 2) (by omega) (by omega) (by omega)⟩)
        · exact .inr (.inr ⟨rfl, shr_test (m := 3) (by omega) (by omega) (by omega)⟩)
      cases hok : okI n many with
      | false =>
        rw [intB_no hok]
        rw [hok, Bool.not_false] at ht
        clear hok hin
        have d0 : decide (n < 0) = false := decide_eq_false hneg
        rcases ht with ⟨rfl, ht⟩ | ⟨rfl, ht⟩ | ⟨rfl, ht⟩
        all_goals
          go_enter Try.func71, Try.ntmps71
          go_wp2_with fail
          refine C1.out.mono ?_
          rintro e w1 ⟨rfl, rfl⟩
          go_wp2_with fail
          go_ret2
          exact ⟨_, rfl, own_nil _ _, Below.refl _ _⟩
      | true =>
        rw [hok, Bool.not_true] at ht
        have hm := okI_many hok
        obtain ⟨m, hmm, m1, m3⟩ := hm
        have hb2 : 0 ≤ n ∧ n ≤ 16777215 := by
          rw [hmm] at hok
          obtain ⟨_, _, n0, n1⟩ := okI_yes hok
          have := pow256_le m m3
          exact ⟨n0, by omega⟩
        obtain ⟨n0, n1⟩ := hb2
        rw [intB_yes hok]
        clear hok hin hneg
        have e : many.toNat = m := by omega
        rw [e]
        clear e
        have d0 : decide (n < 0) = false := decide_eq_false (by omega)
        have Hmm := Lib.hid hmm
        clear hmm
        go_enter Try.func71, Try.ntmps71
        go_wp2_with fail
        refine C1.out.mono ?_
        rintro e w1 ⟨rfl, rfl⟩
        rcases ht with ⟨he, ht⟩ | ⟨he, ht⟩ | ⟨he, ht⟩
        all_goals
          obtain rfl : many = _ := he
          go_wp2_with (at_make; refine wp_makeN rfl _ _ rfl w.heap.size _ _ m rfl rfl Hmm.out Hmm.out (by omega) (Nat.le_refl _) ?_; intro w0 hown0 hgrow0)
          have hb0 : Below w.heap.size w w0 := (Below.refl _ _).grown hgrow0 (Nat.le_refl _) (fun k hk => by cases hk)
          go_loopw [0, 7] (fun n' i wr => ∃ (k : Nat) (y z : Int), i = .int .i64 z ∧ z + 1 = k ∧ k ≤ m ∧ n' = .int .i64 y ∧ y = n / 256 ^ (m - k) ∧ 0 ≤ y ∧ y ≤ 16777215 ∧ Own wr w.heap.size (.slice (some ⟨w.heap.size, 0, none⟩) m m) (List.replicate k 0 ++ sfx (m - k) n) ∧ Below w.heap.size w wr) (fun _ i _ => (intOf i + 1).toNat)
          case atStart => exact ⟨m, n, _, rfl, by have := Hmm.out; omega, Nat.le_refl _, rfl, by simp, n0, n1, by simpa [sfx] using hown0, hb0⟩
          case round =>
            obtain ⟨k, y, z, rfl, hz, hk, rfl, hy, y0, y1, hown, hbel⟩ := hrel
            cases k with
            | zero =>
              clear hy
              obtain rfl : z = -1 := by omega
              go_wp2
              go_ret2
              exact ⟨_, rfl, by simpa using hown, hbel⟩
            | succ k =>
              obtain rfl : z = (k : Int) := by omega
              have hL : m = (List.replicate (k + 1) 0 ++ sfx (m - (k + 1)) n).length := by simp [sfx_len]; omega
              have e1 : m - k = m - (k + 1) + 1 := by omega
              have hset := sfx_set m (m - (k + 1)) n (y % 256) (by omega) (by rw [hy])
              rw [show m - (m - (k + 1)) = k + 1 by omega, show m - 1 - (m - (k + 1)) = k by omega, show m - (m - (k + 1) + 1) = k by omega, ← e1] at hset
              obtain ⟨⟨old, hold⟩, hf, hnew, hgr⟩ := hown.store hL k (by omega) (y % 256)
              rw [hset] at hnew
              have hbel2 : Below w.heap.size w (wr.setCell ⟨w.heap.size, k, none⟩ (.int .i64 (y % 256))) := hbel.setCell (Nat.le_refl _) _
              have hy2 : y / 256 = n / 256 ^ (m - k) := by rw [hy, pow_step, ← e1]
              have Hy2 := Lib.hid hy2
              have hand := and255 y (by omega) (by omega)
              clear hset hy hy2 hL e1 hown hz
              go_wp2
              go_roundw
              case rel => exact ⟨k, y / 256, (k : Int) - 1, by go_num, by omega, by omega, by go_num, Hy2.out, by omega, by omega, hnew, hbel2⟩
              case measure => simp [intOf]
  · have hC1 : sizeB many = false := sizeB_no (by omega)
    have hok : okI n many = false := okI_off (by omega)
    rw [hC1] at C1
    rw [hok, intB_no hok]
    clear hin hC1 hok
    go_enter Try.func71, Try.ntmps71
    go_wp2_with fail
    refine C1.out.mono ?_
    rintro e w1 ⟨rfl, rfl⟩
    go_wp2_with fail
    go_ret2
    exact ⟨_, rfl, own_nil _ _, Below.refl _ _⟩
end Go.Proofs.Ytomlejfilfdnbaa
