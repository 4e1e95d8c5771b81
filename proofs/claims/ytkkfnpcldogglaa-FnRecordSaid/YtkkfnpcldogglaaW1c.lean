import Derived.Test.YtkkfnpcldogglaaW1b
namespace Go.Proofs.Ytkkfnpcldogglaa
open Go.ChangeShapes Go.WideShapes Go.ChangeAt Go.RowKit
set_option linter.unusedVariables false

/-- the cells of the first numbers, each by itself -/
theorem Ints.nil {w : World} {v : Value} (h : Ints w v []) : ∃ a cap, v = .slice a 0 cap := by
  obtain ⟨a, cap, rfl, _⟩ := h
  exact ⟨a, cap, rfl⟩
theorem Ints.cons {w : World} {v : Value} {x : Int} {xs : List Int} (h : Ints w v (x :: xs)) : ∃ b off cap, v = .slice (some ⟨b, off, none⟩) (xs.length + 1) cap ∧ xs.length + 1 ≤ cap ∧ cap ≤ maxLen ∧
    ∀ i, i < xs.length + 1 → w.cell? ⟨b, off + i, none⟩ = some (.int .i64 ((x :: xs).getD i 0)) := by
  obtain ⟨a, cap, rfl, hl, hm, hc⟩ := h
  obtain ⟨b, off, rfl, hcell⟩ := hc (by simp)
  exact ⟨b, off, cap, rfl, by simpa using hl, hm, by simpa using hcell⟩

def JoinRes (r : Int × Int) (w : World) (e : Ending) (w' : World) : Prop := e = .returned (.tuple #[.int .i64 r.1, .int .i64 r.2]) ∧ w = w'

theorem or0 (x : Int) (h0 : 0 ≤ x) (h1 : x < 4611686018427387904) : bits .or .i64 0 x = x := by
  rw [or_small 0 0 x (by decide) (by omega) (by decide) h0 h1 (by omega)]; omega
theorem or7 (x y : Int) (h0 : 0 ≤ x) (h1 : x < 128) (h2 : 0 ≤ y) (h3 : y < 128) : bits .or .i64 x (y * 128) = x + y * 128 := by
  rw [or_small 7 x (y * 128) (by decide) h0 (by omega) (by omega) (by omega) (by omega)]
theorem or14 (x y : Int) (h0 : 0 ≤ x) (h1 : x < 16384) (h2 : 0 ≤ y) (h3 : y < 128) : bits .or .i64 x (y * 16384) = x + y * 16384 := by
  rw [or_small 14 x (y * 16384) (by decide) h0 (by omega) (by omega) (by omega) (by omega)]

theorem impl_joinParts3 (q off cap n : Nat) (a b c : Int) (w : World) (hl : n + 1 + 1 + 1 ≤ cap) (hm : cap ≤ 9223372036854775807)
    (c0 : w.cell? ⟨q, off, none⟩ = some (.int .i64 a)) (c1 : w.cell? ⟨q, off + 1, none⟩ = some (.int .i64 b)) (c2 : w.cell? ⟨q, off + 2, none⟩ = some (.int .i64 c))
    (a0 : 128 ≤ a) (a1 : a ≤ 255) (b0 : 128 ≤ b) (b1 : b ≤ 255) (d0 : 0 ≤ c) (d1 : c ≤ 255) :
    Calls Try.prog 51 #[.slice (some ⟨q, off, none⟩) (n + 1 + 1 + 1) cap] w (JoinRes (joinV.joinV2 a b [c]) w) := by
  have k1 := and127 a (by omega) (by omega)
  have k2 := and127 b (by omega) (by omega)
  have k3 := and127 c (by omega) (by omega)
  have o1 := or0 (a % 128) (by omega) (by omega)
  have o2 := or7 (a % 128) (b % 128) (by omega) (by omega) (by omega) (by omega)
  have o3 := or14 (a % 128 + b % 128 * 128) (c % 128) (by omega) (by omega) (by omega) (by omega)
  rcases Nat.eq_zero_or_pos n with rfl | hn
  all_goals
    by_cases h : c < 128
    · by_cases h0 : c = 0
      · subst h0
        go_enter Try.func51, Try.ntmps51
        go_wp2
        all_goals go_rounds 4
        all_goals go_ret2
        all_goals exact ⟨rfl, rfl⟩
      · have h1 : (c == 0) = false := by simp [h0]
        have e : joinV.joinV2 a b [c] = (a % 128 + b % 128 * 128 + c * 16384, 3) := by simp [joinV.joinV2, h, h0]
        have e2 : c % 128 = c := by omega
        rw [e]
        rw [e2] at k3 o3
        clear e e2
        go_enter Try.func51, Try.ntmps51
        go_wp2
        all_goals go_rounds 4
        all_goals go_ret2
        all_goals exact ⟨rfl, rfl⟩
    · have e : joinV.joinV2 a b [c] = (0, 0) := by simp [joinV.joinV2, h]
      rw [e]
      clear e
      go_enter Try.func51, Try.ntmps51
      go_wp2
      all_goals go_rounds 4
      all_goals go_ret2
      all_goals exact ⟨rfl, rfl⟩

theorem impl_joinParts1 (q off cap n : Nat) (a : Int) (w : World) (hl : n + 1 ≤ cap) (hm : cap ≤ 9223372036854775807)
    (c0 : w.cell? ⟨q, off, none⟩ = some (.int .i64 a)) (a0 : 0 ≤ a) (a1 : a < 128) :
    Calls Try.prog 51 #[.slice (some ⟨q, off, none⟩) (n + 1) cap] w (JoinRes (a, 1) w) := by
  have k1 := and127 a (by omega) (by omega)
  have o1 := or0 a (by omega) (by omega)
  rw [show a % 128 = a by omega] at k1
  rcases Nat.lt_or_ge n 2 with hn | hn
  · obtain rfl | rfl : n = 0 ∨ n = 1 := by omega
    all_goals
      go_enter Try.func51, Try.ntmps51
      go_wp2
      all_goals go_rounds 4
      all_goals go_ret2
      all_goals exact ⟨rfl, rfl⟩
  · go_enter Try.func51, Try.ntmps51
    go_wp2
    all_goals go_rounds 4
    all_goals go_ret2
    all_goals exact ⟨rfl, rfl⟩

theorem impl_joinParts2 (q off cap n : Nat) (a b : Int) (w : World) (hl : n + 2 ≤ cap) (hm : cap ≤ 9223372036854775807)
    (c0 : w.cell? ⟨q, off, none⟩ = some (.int .i64 a)) (c1 : w.cell? ⟨q, off + 1, none⟩ = some (.int .i64 b))
    (a0 : 128 ≤ a) (a1 : a ≤ 255) (b0 : 0 ≤ b) (b1 : b < 128) :
    Calls Try.prog 51 #[.slice (some ⟨q, off, none⟩) (n + 2) cap] w (JoinRes (joinV.joinV1 a [b]) w) := by
  have k1 := and127 a (by omega) (by omega)
  have k2 := and127 b (by omega) (by omega)
  have o1 := or0 (a % 128) (by omega) (by omega)
  have o2 := or7 (a % 128) b (by omega) (by omega) (by omega) (by omega)
  rw [show b % 128 = b by omega] at k2
  by_cases h0 : b = 0
  · subst h0
    rcases Nat.eq_zero_or_pos n with rfl | hn
    all_goals
      go_enter Try.func51, Try.ntmps51
      go_wp2
      all_goals go_rounds 4
      all_goals go_ret2
      all_goals exact ⟨rfl, rfl⟩
  · have h1 : (b == 0) = false := by simp [h0]
    have e : joinV.joinV1 a [b] = (a % 128 + b * 128, 2) := by simp [joinV.joinV1, b1, h0]
    rw [e]
    clear e
    rcases Nat.eq_zero_or_pos n with rfl | hn
    all_goals
      go_enter Try.func51, Try.ntmps51
      go_wp2
      all_goals go_rounds 4
      all_goals go_ret2
      all_goals exact ⟨rfl, rfl⟩

theorem impl_joinPartsE2 (q off cap : Nat) (a b : Int) (w : World) (hl : 2 ≤ cap) (hm : cap ≤ 9223372036854775807)
    (c0 : w.cell? ⟨q, off, none⟩ = some (.int .i64 a)) (c1 : w.cell? ⟨q, off + 1, none⟩ = some (.int .i64 b))
    (a0 : 128 ≤ a) (a1 : a ≤ 255) (b0 : 128 ≤ b) (b1 : b ≤ 255) :
    Calls Try.prog 51 #[.slice (some ⟨q, off, none⟩) 2 cap] w (JoinRes (0, 0) w) := by
  have k1 := and127 a (by omega) (by omega)
  have k2 := and127 b (by omega) (by omega)
  have o1 := or0 (a % 128) (by omega) (by omega)
  have o2 := or7 (a % 128) (b % 128) (by omega) (by omega) (by omega) (by omega)
  go_enter Try.func51, Try.ntmps51
  go_wp2
  all_goals go_rounds 4
  all_goals go_ret2
  all_goals exact ⟨rfl, rfl⟩

theorem impl_joinPartsE1 (q off cap : Nat) (a : Int) (w : World) (hl : 1 ≤ cap) (hm : cap ≤ 9223372036854775807)
    (c0 : w.cell? ⟨q, off, none⟩ = some (.int .i64 a))
    (a0 : 128 ≤ a) (a1 : a ≤ 255) :
    Calls Try.prog 51 #[.slice (some ⟨q, off, none⟩) 1 cap] w (JoinRes (0, 0) w) := by
  have k1 := and127 a (by omega) (by omega)
  have o1 := or0 (a % 128) (by omega) (by omega)
  go_enter Try.func51, Try.ntmps51
  go_wp2
  all_goals go_rounds 4
  all_goals go_ret2
  all_goals exact ⟨rfl, rfl⟩

theorem impl_joinPartsE0 (x : Option Addr) (cap : Nat) (w : World) :
    Calls Try.prog 51 #[.slice x 0 cap] w (JoinRes (0, 0) w) := by
  go_enter Try.func51, Try.ntmps51
  go_wp2
  all_goals go_rounds 1
  all_goals go_ret2
  all_goals exact ⟨rfl, rfl⟩

theorem impl_joinParts (v : Value) (ys : List Int) (w : World) (h : Ints w v ys) (hb : okBs ys = true) :
    Calls Try.prog 51 #[v] w (JoinRes (joinV ys) w) := by
  match ys, h, hb with
  | [], h, _ =>
    obtain ⟨a, cap, rfl⟩ := h.nil
    exact impl_joinPartsE0 a cap w
  | a :: t, h, hb =>
    obtain ⟨q, off, cap, rfl, hl, hm, hc⟩ := h.cons
    unfold maxLen at hm
    have c0 := hc 0 (by simp)
    simp only [List.getD_cons_zero, Nat.add_zero] at c0
    have r0 := okBs_at hb 0 (by simp)
    simp only [List.getD_cons_zero] at r0
    by_cases ha : a < 128
    · rw [show joinV (a :: t) = (a, 1) from by simp [joinV, ha]]
      exact impl_joinParts1 q off cap t.length a w hl hm c0 r0.1 ha
    · rw [show joinV (a :: t) = joinV.joinV1 a t from by simp [joinV, ha]]
      match t, hl, hc, hb with
      | [], hl, hc, hb => exact impl_joinPartsE1 q off cap a w hl hm c0 (by omega) r0.2
      | b :: t, hl, hc, hb =>
        have c1 := hc 1 (by simp)
        have r1 := okBs_at hb 1 (by simp)
        simp only [List.getD_cons_zero, List.getD_cons_succ] at c1 r1
        by_cases hb1 : b < 128
        · have h2 := impl_joinParts2 q off cap t.length a b w hl hm c0 c1 (by omega) r0.2 r1.1 hb1
          have e : joinV.joinV1 a (b :: t) = joinV.joinV1 a [b] := by simp [joinV.joinV1, hb1]
          rw [e]
          exact h2
        · have e : joinV.joinV1 a (b :: t) = joinV.joinV2 a b t := by simp [joinV.joinV1, hb1]
          rw [e]
          match t, hl, hc, hb with
          | [], hl, hc, hb => exact impl_joinPartsE2 q off cap a b w hl hm c0 c1 (by omega) r0.2 (by omega) r1.2
          | c :: t, hl, hc, hb =>
            have c2 := hc 2 (by simp)
            have r2 := okBs_at hb 2 (by simp)
            simp only [List.getD_cons_zero, List.getD_cons_succ] at c2 r2
            have h3 := impl_joinParts3 q off cap t.length a b c w hl hm c0 c1 c2 (by omega) r0.2 (by omega) r1.2 r2.1 r2.2
            have e : joinV.joinV2 a b (c :: t) = joinV.joinV2 a b [c] := by simp [joinV.joinV2]
            rw [e]
            exact h3
end Go.Proofs.Ytkkfnpcldogglaa
