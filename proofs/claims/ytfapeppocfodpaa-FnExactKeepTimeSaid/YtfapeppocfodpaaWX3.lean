/- Merged: W1 W1b W1c W1d W2 W2b W2c W3 W3b W3c W3d W3e P3c P3d. -/
import Derived.Test.YtfapeppocfodpaaProg
import Derived.Test.YtfapeppocfodpaaBase
import Derived.Test.YtfapeppocfodpaaPX3
import Derived.Test.YtfapeppocfodpaaA0
import Derived.Test.YtfapeppocfodpaaA1
import Derived.Test.YtfapeppocfodpaaR0
import Derived.Deep.RegionHeld3
import Derived.Deep.Cut
namespace Go.Proofs.Ytfapeppocfodpaa
open Go.ChangeShapes Go.WideShapes Go.ChangeAt Go.RowKit
set_option linter.unusedVariables false
set_option maxRecDepth 100000

-- W1

theorem neg_half (n : Int) (h0 : 0 ≤ n) (h1 : n ≤ 9000000000000000000) : wrap64 (-(n + 1).tdiv 2) = -((n + 1) / 2) := by
  rw [Int.tdiv_eq_ediv_of_nonneg (by omega)]
  exact IntWalk.wrap64_in _ ⟨by omega, by omega⟩

theorem impl_FoldNumber (n : Int) (w : World) (hn : I64 n) :
    Calls Try.prog 121 #[.int .i64 n] w fun e w' => e = .returned (.int .i64 (foldN n)) ∧ w = w' := by
  obtain ⟨ha, hb⟩ := hn
  by_cases h1 : n < -1000000
  · have H := Lib.hid (foldN_lo h1)
    go_enter Try.func121, Try.ntmps121
    go_wp2
    go_ret
    exact ⟨ret_int (by have := H.out; omega), rfl⟩
  · by_cases h2 : 1000000 < n
    · have H := Lib.hid (foldN_hi h1 h2)
      have h3 : decide (n ≤ 1000000) = false := decide_eq_false (by omega)
      go_enter Try.func121, Try.ntmps121
      go_wp2
      go_ret
      exact ⟨ret_int (by have := H.out; omega), rfl⟩
    · have H := Lib.hid (foldN_in h1 h2)
      have h3 : decide (n ≤ 1000000) = true := decide_eq_true (by omega)
      by_cases h4 : n < 0
      · have H2 := Lib.hid (foldP_neg h4)
        go_enter Try.func121, Try.ntmps121
        go_wp2
        go_ret
        exact ⟨ret_int (by have := H.out; have := H2.out; omega), rfl⟩
      · have H2 := Lib.hid (foldP_pos h4)
        go_enter Try.func121, Try.ntmps121
        go_wp2
        go_ret
        exact ⟨ret_int (by have := H.out; have := H2.out; omega), rfl⟩

theorem spec_l1Fold (n : Int) (w : World) (h1 : -1000000 ≤ n) (h2 : n ≤ 1000000) :
    Calls Try.prog 102 #[.int .i64 n] w fun e w' => e = .returned (.int .i64 (foldP n)) ∧ w = w' := by
  by_cases h4 : n < 0
  · have H2 := Lib.hid (foldP_neg h4)
    go_enter Try.func102, Try.ntmps102
    go_wp2
    go_ret
    exact ⟨ret_int (by have := H2.out; omega), rfl⟩
  · have H2 := Lib.hid (foldP_pos h4)
    go_enter Try.func102, Try.ntmps102
    go_wp2
    go_ret
    exact ⟨ret_int (by have := H2.out; omega), rfl⟩

theorem spec_l1Bytes (n : Int) (w : World) (h1 : -1000000 ≤ n) (h2 : n ≤ 1000000) :
    Calls Try.prog 94 #[.int .i64 n] w (NewInts1 w (varF 2 (foldP n))) := by
  have hf := foldP_range h1 h2
  have hV := VR.start hf.1 hf.2
  have hfold := spec_l1Fold n w h1 h2
  obtain ⟨x, hx⟩ : ∃ x, foldP n = x := ⟨_, rfl⟩
  rw [hx] at hf hV hfold ⊢
  obtain ⟨hf1, hf2⟩ := hf
  have h0 : Own (w.alloc (.cells #[] 3)) w.heap.size (.slice (some ⟨w.heap.size, 0, none⟩) 0 0) [] := own_empty w _ (Nat.le_refl _)
  have Hfold := Lib.hid hfold
  clear hfold hx
  go_enter Try.func94, Try.ntmps94
  go_wp2_with (go_at_call 102; refine Hfold.out.mono ?_; rintro e w' ⟨rfl, rfl⟩)
  go_loopw [3, 4] (fun y v wr => ∃ (y' : Int) (pre : List Int), y = .int .i64 y' ∧ VR x pre y' ∧ Own wr w.heap.size v pre ∧ Below w.heap.size w wr) (fun y _ _ => (intOf y).toNat)
  case atStart => exact ⟨x, [], rfl, hV, h0, (Below.refl _ _).alloc (Nat.le_refl _) _⟩
  case round =>
    obtain ⟨y, pre, rfl, hR, hown, hbel⟩ := hrel
    obtain ⟨hb0, hb1, hb2⟩ := hR.bound
    have hsz := hbel.size
    by_cases hy : 127 < y
    · have hR' := hR.step (by omega)
      go_wp2_with (at_builtin; refine wp_app1 rfl _ _ rfl w.heap.size u4 pre _ rfl rfl hown (by omega) hsz ?_; intro v' w1 hown1 hgrow1 hv1)
      go_roundw
      case rel => exact ⟨y / 128, _, rfl, hR', hown1, hbel.grown hgrow1 hsz hown.lt⟩
      case measure => simp [intOf]; omega
    · have hR' := hR.stop (by omega)
      go_wp2_with (at_builtin; refine wp_app1 rfl _ _ rfl w.heap.size u4 pre _ rfl rfl hown (by omega) hsz ?_; intro v' w1 hown1 hgrow1 hv1)
      go_ret
      rw [hR'] at hown1
      exact ⟨_, rfl, hown1, hbel.grown hgrow1 hsz hown.lt⟩

theorem impl_VarBytes (n : Int) (w : World) (hn : I64 n) :
    Calls Try.prog 116 #[.int .i64 n] w (NewInts w (varB n) (inV n)) := by
  have hfold := impl_FoldNumber n w hn
  by_cases hin : -1000000 ≤ n ∧ n ≤ 1000000
  · have hf := foldP_range hin.1 hin.2
    have hV := VR.start hf.1 hf.2
    rw [foldN_in (by omega) (by omega)] at hfold
    have e1 : inV n = true := by unfold inV; simp [hin]
    rw [e1, varB_in (by omega) (by omega)]
    obtain ⟨x, hx⟩ : ∃ x, foldP n = x := ⟨_, rfl⟩
    rw [hx] at hf hV hfold ⊢
    obtain ⟨hf1, hf2⟩ := hf
    have Hfold := Lib.hid hfold
    clear hfold hx e1 hin
    go_enter Try.func116, Try.ntmps116
    go_wp2_with (first | (go_at_call 121; refine Hfold.out.mono ?_; rintro e w' ⟨rfl, rfl⟩) | (at_make; refine wp_make0 rfl _ _ rfl w.heap.size _ 3 rfl rfl rfl (by omega) (Nat.le_refl _) ?_; intro w0 hown0 hgrow0))
    have hb0 : Below w.heap.size w w0 := (Below.refl _ _).grown hgrow0 (Nat.le_refl _) (fun k hk => by cases hk)
    go_loopw [4, 5] (fun y v wr => ∃ (y' : Int) (pre : List Int), y = .int .i64 y' ∧ VR x pre y' ∧ Own wr w.heap.size v pre ∧ Below w.heap.size w wr) (fun y _ _ => (intOf y).toNat)
    case atStart => exact ⟨x, [], rfl, hV, hown0, hb0⟩
    case round =>
      obtain ⟨y, pre, rfl, hR, hown, hbel⟩ := hrel
      obtain ⟨hb0, hb1, hb2⟩ := hR.bound
      have hsz := hbel.size
      have ha : bits .and .i64 y 127 = y % 128 := and127 y (by omega) (by omega)
      have ho : bits .or .i64 (y % 128) 128 = 128 + y % 128 := by
        rw [or_small 7 (y % 128) 128 (by decide) (by omega) (by omega) (by omega) (by omega) (by decide)]; omega
      by_cases hy : 128 ≤ y
      · have hR' := hR.step (by omega)
        go_wp2_with (at_builtin; refine wp_app1 rfl _ _ rfl w.heap.size u5 pre _ rfl rfl hown (by omega) hsz ?_; intro v' w1 hown1 hgrow1 hv1)
        go_roundw
        case rel => exact ⟨y / 128, _, rfl, hR', hown1, hbel.grown hgrow1 hsz hown.lt⟩
        case measure => simp [intOf]; omega
      · have hR' := hR.stop (by omega)
        go_wp2_with (at_builtin; refine wp_app1 rfl _ _ rfl w.heap.size u5 pre _ rfl rfl hown (by omega) hsz ?_; intro v' w1 hown1 hgrow1 hv1)
        go_ret2
        rw [hR'] at hown1
        exact ⟨_, rfl, hown1, hbel.grown hgrow1 hsz hown.lt⟩
  · have e1 : inV n = false := by unfold inV; simp; omega
    have e2 : varB n = [] := by
      by_cases h : n < -1000000
      · exact varB_lo h
      · exact varB_hi h (by omega)
    have e3 : foldN n = -1 := by
      by_cases h : n < -1000000
      · exact foldN_lo h
      · exact foldN_hi h (by omega)
    rw [e3] at hfold
    rw [e1, e2]
    have Hfold := Lib.hid hfold
    clear hfold e1 e2 e3 hin
    go_enter Try.func116, Try.ntmps116
    go_wp2_with (first | (go_at_call 121; refine Hfold.out.mono ?_; rintro e w' ⟨rfl, rfl⟩))
    go_ret2
    exact ⟨_, rfl, own_nil _ _, Below.refl _ _⟩

def varS (n : Int) : Int := if inV n = true then ((varB n).length : Int) else -1
theorem varS_no {n : Int} (h : inV n = false) : varS n = -1 := by unfold varS; rw [h]; rfl
theorem varS_yes {n : Int} (h : inV n = true) : varS n = ((varB n).length : Int) := by unfold varS; rw [if_pos h]

/-- the cells of the first numbers, each by itself -/
theorem Ints.nil {w : World} {v : Value} (h : Ints w v []) : ∃ a cap, v = .slice a 0 cap := by
  obtain ⟨a, cap, rfl, _⟩ := h
  exact ⟨a, cap, rfl⟩
theorem Ints.cons {w : World} {v : Value} {x : Int} {xs : List Int} (h : Ints w v (x :: xs)) : ∃ b off cap, v = .slice (some ⟨b, off, none⟩) (xs.length + 1) cap ∧ xs.length + 1 ≤ cap ∧ cap ≤ maxLen ∧
    ∀ i, i < xs.length + 1 → w.cell? ⟨b, off + i, none⟩ = some (.int .i64 ((x :: xs).getD i 0)) := by
  obtain ⟨a, cap, rfl, hl, hm, hc⟩ := h
  obtain ⟨b, off, rfl, hcell⟩ := hc (by simp)
  exact ⟨b, off, cap, rfl, by simpa using hl, hm, by simpa using hcell⟩

def JoinRes (r : Int × Int) (w : World) (e : Ending) (w' : World) : Prop := e = .returned (.tuple #[.int .i64 r.1, .int .i64 r.2]) ∧ w = w'

theorem or0 (x : Int) (h0 : 0 ≤ x) (h1 : x < 4611686018427387904) : bits .or .i64 0 x = x := by
  rw [or_small 0 0 x (by decide) (by omega) (by decide) h0 h1 (by omega)]; omega
theorem or7 (x y : Int) (h0 : 0 ≤ x) (h1 : x < 128) (h2 : 0 ≤ y) (h3 : y < 128) : bits .or .i64 x (y * 128) = x + y * 128 := by
  rw [or_small 7 x (y * 128) (by decide) h0 (by omega) (by omega) (by omega) (by omega)]
theorem or14 (x y : Int) (h0 : 0 ≤ x) (h1 : x < 16384) (h2 : 0 ≤ y) (h3 : y < 128) : bits .or .i64 x (y * 16384) = x + y * 16384 := by
  rw [or_small 14 x (y * 16384) (by decide) h0 (by omega) (by omega) (by omega) (by omega)]

/-- what VarFrom answers for all bytes and places -/
def rdV (xs : List Int) (k : Int) : Int × Int × Bool :=
  if okBs xs = true then if k < 0 then (0, 0, false) else rdR k (joinV (xs.drop k.toNat)) else (0, 0, false)
theorem rdV_bad {xs : List Int} {k : Int} (h : okBs xs = false) : rdV xs k = (0, 0, false) := by unfold rdV; rw [h]; rfl
theorem rdV_neg {xs : List Int} {k : Int} (h : k < 0) : rdV xs k = (0, 0, false) := by unfold rdV; rw [if_pos h]; split <;> rfl
theorem rdV_at {xs : List Int} (k : Nat) (h : okBs xs = true) : rdV xs (k : Int) = rdR k (joinV (xs.drop k)) := by
  unfold rdV; rw [if_pos h, if_neg (by omega), Int.toNat_natCast]

def FromRes (r : Int × Int × Bool) (w : World) (e : Ending) (w' : World) : Prop := e = .returned (.tuple #[.int .i64 r.1, .int .i64 r.2.1, .bool r.2.2]) ∧ w = w'

/-- a slice of the call's own: one number is stored -/
theorem Own.store {w : World} {base g n cap : Nat} {xs : List Int} (h : Own w base (.slice (some ⟨g, 0, none⟩) n cap) xs) (hn : n = xs.length) (i : Nat) (hi : i < n) (x : Int) :
    (∃ old, w.cell? ⟨g, i, none⟩ = some (.int .i64 old)) ∧ w.frozen? ⟨g, i, none⟩ = false ∧ Own (w.setCell ⟨g, i, none⟩ (.int .i64 x)) base (.slice (some ⟨g, 0, none⟩) n cap) (xs.set i x) ∧ w.grownBy (w.setCell ⟨g, i, none⟩ (.int .i64 x)) (some g) := by
  subst hn
  have hc := World.ownsRow.cellAt h i (by omega)
  have hf := World.ownsRow.frozenAt h i
  have hst := World.ownsRow.stored h i (.int .i64 x)
  refine ⟨⟨xs.getD i 0, ?_⟩, hf, ?_, hst.2⟩
  · rw [hc]; simp [List.getD, hi]
  · unfold Own
    rw [List.length_set, List.map_set]
    exact hst.1

def okI (n many : Int) : Bool := decide (1 ≤ many) && decide (many ≤ 3) && decide (0 ≤ n) && decide (n < 256 ^ many.toNat)
def intB (n many : Int) : List Int := if okI n many = true then sfx many.toNat n else []
theorem intB_no {n many : Int} (h : okI n many = false) : intB n many = [] := by unfold intB; rw [h]; rfl
theorem intB_yes {n many : Int} (h : okI n many = true) : intB n many = sfx many.toNat n := if_pos h
theorem okI_yes {n : Int} {m : Nat} (h : okI n (m : Int) = true) : 1 ≤ m ∧ m ≤ 3 ∧ 0 ≤ n ∧ n < 256 ^ m := by
  unfold okI at h
  simp only [Bool.and_eq_true, decide_eq_true_eq, Int.toNat_natCast] at h
  exact ⟨by omega, by omega, h.1.2, h.2⟩
theorem okI_mk {n : Int} {m : Nat} (h1 : 1 ≤ m) (h2 : m ≤ 3) (h3 : 0 ≤ n) (h4 : n < 256 ^ m) : okI n (m : Int) = true := by
  unfold okI
  simp only [Bool.and_eq_true, decide_eq_true_eq, Int.toNat_natCast]
  exact ⟨⟨⟨by omega, by omega⟩, h3⟩, h4⟩
theorem okI_many {n many : Int} (h : okI n many = true) : ∃ m : Nat, many = (m : Int) ∧ 1 ≤ m ∧ m ≤ 3 := by
  unfold okI at h
  simp only [Bool.and_eq_true, decide_eq_true_eq] at h
  exact ⟨many.toNat, by omega, by omega, by omega⟩
theorem okI_off {n many : Int} (h : many < 1 ∨ 3 < many) : okI n many = false := by
  unfold okI
  rcases h with h | h
  · rw [decide_eq_false (show ¬ 1 ≤ many by omega)]; rfl
  · rw [decide_eq_false (show ¬ many ≤ 3 by omega)]; simp
theorem okI_neg {n many : Int} (h : n < 0) : okI n many = false := by
  unfold okI; rw [decide_eq_false (show ¬ 0 ≤ n by omega)]; simp
theorem okI_big {n : Int} {m : Nat} (h : ¬ n < 256 ^ m) : okI n (m : Int) = false := by
  unfold okI; rw [Int.toNat_natCast, decide_eq_false h]; simp

def sizeB (n : Int) : Bool := decide (1 ≤ n) && decide (n ≤ 3)
theorem sizeB_yes {n : Int} (h : 1 ≤ n) (h2 : n ≤ 3) : sizeB n = true := by unfold sizeB; rw [decide_eq_true h, decide_eq_true h2]; rfl
theorem sizeB_no {n : Int} (h : n < 1 ∨ 3 < n) : sizeB n = false := by
  unfold sizeB
  rcases h with h | h
  · rw [decide_eq_false (show ¬ 1 ≤ n by omega)]; rfl
  · rw [decide_eq_false (show ¬ n ≤ 3 by omega)]; simp

theorem impl_isIntSize (n : Int) (w : World) (hn : I64 n) :
    Calls Try.prog 119 #[.int .i64 n] w fun e w' => e = .returned (.bool (sizeB n)) ∧ w = w' := by
  obtain ⟨ha, hb⟩ := hn
  by_cases h1 : n < 1
  · have d1 : decide (1 ≤ n) = false := decide_eq_false (by omega)
    rw [sizeB_no (.inl h1)]
    go_enter Try.func119, Try.ntmps119
    go_wp2
    go_ret
    exact ⟨rfl, rfl⟩
  · have d1 : decide (1 ≤ n) = true := decide_eq_true (by omega)
    by_cases h2 : 3 < n
    · have d2 : decide (n ≤ 3) = false := decide_eq_false (by omega)
      rw [sizeB_no (.inr h2)]
      go_enter Try.func119, Try.ntmps119
      go_wp2
      go_ret
      exact ⟨rfl, rfl⟩
    · have d2 : decide (n ≤ 3) = true := decide_eq_true (by omega)
      rw [sizeB_yes (by omega) (by omega)]
      go_enter Try.func119, Try.ntmps119
      go_wp2
      go_ret
      exact ⟨rfl, rfl⟩

theorem pow256_le (m : Nat) (h : m ≤ 3) : (256 : Int) ^ m ≤ 16777216 := by
  match m, h with
  | 0, _ => decide
  | 1, _ => decide
  | 2, _ => decide
  | 3, _ => decide

theorem spec_l2Int (n : Int) (m : Nat) (w : World) (hm0 : 1 ≤ m) (hm : m ≤ 3) (h0 : 0 ≤ n) (h1 : n ≤ 16777215) :
    Calls Try.prog 76 #[.int .i64 n, .int .i64 (m : Int)] w (NewInts1 w (sfx m n)) := by
  go_enter Try.func76, Try.ntmps76
  go_wp2_with (at_make; refine wp_makeN rfl _ _ rfl w.heap.size _ _ m rfl rfl rfl rfl (by omega) (Nat.le_refl _) ?_; intro w0 hown0 hgrow0)
  have hb0 : Below w.heap.size w w0 := (Below.refl _ _).grown hgrow0 (Nat.le_refl _) (fun k hk => by cases hk)
  go_loopw [0, 6] (fun n' i wr => ∃ (k : Nat) (y z : Int), i = .int .i64 z ∧ z + 1 = k ∧ k ≤ m ∧ n' = .int .i64 y ∧ y = n / 256 ^ (m - k) ∧ 0 ≤ y ∧ y ≤ 16777215 ∧ Own wr w.heap.size (.slice (some ⟨w.heap.size, 0, none⟩) m m) (List.replicate k 0 ++ sfx (m - k) n) ∧ Below w.heap.size w wr) (fun _ i _ => (intOf i + 1).toNat)
  case atStart => exact ⟨m, n, _, rfl, by omega, Nat.le_refl _, rfl, by simp, h0, h1, by simpa [sfx] using hown0, hb0⟩
  case round =>
    obtain ⟨k, y, z, rfl, hz, hk, rfl, hy, y0, y1, hown, hbel⟩ := hrel
    cases k with
    | zero =>
      clear hy
      obtain rfl : z = -1 := by omega
      go_wp2
      go_ret
      exact ⟨_, rfl, by simpa using hown, hbel⟩
    | succ k =>
      obtain rfl : z = (k : Int) := by omega
      have hL : m = (List.replicate (k + 1) 0 ++ sfx (m - (k + 1)) n).length := by simp [sfx_len]; omega
      have e1 : m - k = m - (k + 1) + 1 := by omega
      have hset := sfx_set m (m - (k + 1)) n (y % 256) (by omega) (by rw [hy])
      rw [show m - (m - (k + 1)) = k + 1 by omega, show m - 1 - (m - (k + 1)) = k by omega, show m - (m - (k + 1) + 1) = k by omega, ← e1] at hset
      obtain ⟨⟨old, hold⟩, hf, hnew, hgr⟩ := hown.store hL k (by omega) (y % 256)
      rw [hset] at hnew
      have hbel2 : Below w.heap.size w (wr.setCell ⟨w.heap.size, k, none⟩ (.int .i64 (y % 256))) := hbel.setCell (Nat.le_refl _) _
      have hy2 : y / 256 = n / 256 ^ (m - k) := by rw [hy, pow_step, ← e1]
      have Hy2 := Lib.hid hy2
      clear hset hy hy2 hL e1 hown hz
      go_wp2
      go_roundw
      case rel => exact ⟨k, y / 256, (k : Int) - 1, by go_num, by omega, by omega, by go_num, Hy2.out, by omega, by omega, hnew, hbel2⟩
      case measure => simp [intOf]

theorem okI_no {n : Int} {m : Nat} (h1 : 1 ≤ m) (h2 : m ≤ 3) (h : okI n (m : Int) = false) : n < 0 ∨ 256 ^ m ≤ n := by
  rcases Int.lt_or_le n 0 with h0 | h0
  · exact .inl h0
  · rcases Int.lt_or_le n (256 ^ m) with h4 | h4
    · rw [okI_mk h1 h2 h0 h4] at h; cases h
    · exact .inr h4

theorem shr_test {n : Int} {m : Nat} (h1 : 1 ≤ m) (h2 : m ≤ 3) (h0 : 0 ≤ n) : (n / 256 ^ m != 0) = !okI n (m : Int) := by
  cases hok : okI n (m : Int) with
  | true =>
    obtain ⟨_, _, n0, n1⟩ := okI_yes hok
    rw [Int.ediv_eq_zero_of_lt n0 n1]; rfl
  | false =>
    rcases okI_no h1 h2 hok with h | h
    · omega
    · have := Int.le_ediv_of_mul_le (a := 1) (b := n) (c := 256 ^ m) (Int.pow_pos (by omega)) (by omega)
      rw [Bool.not_false, bne_iff_ne]
      omega

set_option maxHeartbeats 2000000 in
theorem impl_IntBytes (n many : Int) (w : World) (hn : I64 n) (hm : I64 many) :
    Calls Try.prog 114 #[.int .i64 n, .int .i64 many] w (NewInts w (intB n many) (okI n many)) := by
  obtain ⟨ha, hb⟩ := hn
  have C1 := Lib.hid (impl_isIntSize many w hm)
  obtain ⟨ma, mb⟩ := hm
  by_cases hin : 1 ≤ many ∧ many ≤ 3
  · rw [sizeB_yes hin.1 hin.2] at C1
    by_cases hneg : n < 0
    · rw [okI_neg hneg, intB_no (okI_neg hneg)]
      go_enter Try.func114, Try.ntmps114
      go_wp2_with fail
      refine C1.out.mono ?_
      rintro e w1 ⟨rfl, rfl⟩
      go_wp2_with fail
      go_ret2
      exact ⟨_, rfl, own_nil _ _, Below.refl _ _⟩
    · have ht : (many = 1 ∧ (n / 256 != 0) = !okI n many) ∨ (many = 2 ∧ (n / 65536 != 0) = !okI n many) ∨ (many = 3 ∧ (n / 16777216 != 0) = !okI n many) := by
        rcases (show many = 1 ∨ many = 2 ∨ many = 3 by omega) with rfl | rfl | rfl
        · exact .inl ⟨rfl, shr_test (m := 1) (by omega) (by omega) (by omega)⟩
        · exact .inr (.inl ⟨rfl, shr_test (m := 2) (by omega) (by omega) (by omega)⟩)
        · exact .inr (.inr ⟨rfl, shr_test (m := 3) (by omega) (by omega) (by omega)⟩)
      cases hok : okI n many with
      | false =>
        rw [intB_no hok]
        rw [hok, Bool.not_false] at ht
        clear hok hin
        have d0 : decide (n < 0) = false := decide_eq_false hneg
        rcases ht with ⟨rfl, ht⟩ | ⟨rfl, ht⟩ | ⟨rfl, ht⟩
        all_goals
          go_enter Try.func114, Try.ntmps114
          go_wp2_with fail
          refine C1.out.mono ?_
          rintro e w1 ⟨rfl, rfl⟩
          go_wp2_with fail
          go_ret2
          exact ⟨_, rfl, own_nil _ _, Below.refl _ _⟩
      | true =>
        rw [hok, Bool.not_true] at ht
        have hm := okI_many hok
        obtain ⟨m, hmm, m1, m3⟩ := hm
        have hb2 : 0 ≤ n ∧ n ≤ 16777215 := by
          rw [hmm] at hok
          obtain ⟨_, _, n0, n1⟩ := okI_yes hok
          have := pow256_le m m3
          exact ⟨n0, by omega⟩
        obtain ⟨n0, n1⟩ := hb2
        rw [intB_yes hok]
        clear hok hin hneg
        have e : many.toNat = m := by omega
        rw [e]
        clear e
        have d0 : decide (n < 0) = false := decide_eq_false (by omega)
        have Hmm := Lib.hid hmm
        clear hmm
        go_enter Try.func114, Try.ntmps114
        go_wp2_with fail
        refine C1.out.mono ?_
        rintro e w1 ⟨rfl, rfl⟩
        rcases ht with ⟨he, ht⟩ | ⟨he, ht⟩ | ⟨he, ht⟩
        all_goals
          obtain rfl : many = _ := he
          go_wp2_with (at_make; refine wp_makeN rfl _ _ rfl w.heap.size _ _ m rfl rfl Hmm.out Hmm.out (by omega) (Nat.le_refl _) ?_; intro w0 hown0 hgrow0)
          have hb0 : Below w.heap.size w w0 := (Below.refl _ _).grown hgrow0 (Nat.le_refl _) (fun k hk => by cases hk)
          go_loopw [0, 7] (fun n' i wr => ∃ (k : Nat) (y z : Int), i = .int .i64 z ∧ z + 1 = k ∧ k ≤ m ∧ n' = .int .i64 y ∧ y = n / 256 ^ (m - k) ∧ 0 ≤ y ∧ y ≤ 16777215 ∧ Own wr w.heap.size (.slice (some ⟨w.heap.size, 0, none⟩) m m) (List.replicate k 0 ++ sfx (m - k) n) ∧ Below w.heap.size w wr) (fun _ i _ => (intOf i + 1).toNat)
          case atStart => exact ⟨m, n, _, rfl, by have := Hmm.out; omega, Nat.le_refl _, rfl, by simp, n0, n1, by simpa [sfx] using hown0, hb0⟩
          case round =>
            obtain ⟨k, y, z, rfl, hz, hk, rfl, hy, y0, y1, hown, hbel⟩ := hrel
            cases k with
            | zero =>
              clear hy
              obtain rfl : z = -1 := by omega
              go_wp2
              go_ret2
              exact ⟨_, rfl, by simpa using hown, hbel⟩
            | succ k =>
              obtain rfl : z = (k : Int) := by omega
              have hL : m = (List.replicate (k + 1) 0 ++ sfx (m - (k + 1)) n).length := by simp [sfx_len]; omega
              have e1 : m - k = m - (k + 1) + 1 := by omega
              have hset := sfx_set m (m - (k + 1)) n (y % 256) (by omega) (by rw [hy])
              rw [show m - (m - (k + 1)) = k + 1 by omega, show m - 1 - (m - (k + 1)) = k by omega, show m - (m - (k + 1) + 1) = k by omega, ← e1] at hset
              obtain ⟨⟨old, hold⟩, hf, hnew, hgr⟩ := hown.store hL k (by omega) (y % 256)
              rw [hset] at hnew
              have hbel2 : Below w.heap.size w (wr.setCell ⟨w.heap.size, k, none⟩ (.int .i64 (y % 256))) := hbel.setCell (Nat.le_refl _) _
              have hy2 : y / 256 = n / 256 ^ (m - k) := by rw [hy, pow_step, ← e1]
              have Hy2 := Lib.hid hy2
              have hand := and255 y (by omega) (by omega)
              clear hset hy hy2 hL e1 hown hz
              go_wp2
              go_roundw
              case rel => exact ⟨k, y / 256, (k : Int) - 1, by go_num, by omega, by omega, by go_num, Hy2.out, by omega, by omega, hnew, hbel2⟩
              case measure => simp [intOf]
  · have hC1 : sizeB many = false := sizeB_no (by omega)
    have hok : okI n many = false := okI_off (by omega)
    rw [hC1] at C1
    rw [hok, intB_no hok]
    clear hin hC1 hok
    go_enter Try.func114, Try.ntmps114
    go_wp2_with fail
    refine C1.out.mono ?_
    rintro e w1 ⟨rfl, rfl⟩
    go_wp2_with fail
    go_ret2
    exact ⟨_, rfl, own_nil _ _, Below.refl _ _⟩
-- W2b

/-- what IntFrom answers -/
def okF (xs : List Int) (k many : Int) : Bool := decide (1 ≤ many) && decide (many ≤ 3) && okBs xs && decide (0 ≤ k) && decide (k ≤ (xs.length : Int) - many)
def numF (xs : List Int) (k many : Int) : Int := if okF xs k many = true then fromB ((xs.drop k.toNat).take many.toNat) else 0
theorem numF_no {xs : List Int} {k many : Int} (h : okF xs k many = false) : numF xs k many = 0 := by unfold numF; rw [h]; rfl
theorem numF_yes {xs : List Int} {k many : Int} (h : okF xs k many = true) : numF xs k many = fromB ((xs.drop k.toNat).take many.toNat) := if_pos h
theorem okF_size {xs : List Int} {k many : Int} (h : many < 1 ∨ 3 < many) : okF xs k many = false := by
  unfold okF
  rcases h with h | h
  · rw [decide_eq_false (show ¬ 1 ≤ many by omega)]; rfl
  · rw [decide_eq_false (show ¬ many ≤ 3 by omega)]; simp
theorem okF_bytes {xs : List Int} {k many : Int} (h : okBs xs = false) : okF xs k many = false := by unfold okF; rw [h]; simp
theorem okF_neg {xs : List Int} {k many : Int} (h : k < 0) : okF xs k many = false := by unfold okF; rw [decide_eq_false (show ¬ 0 ≤ k by omega)]; simp
theorem okF_end {xs : List Int} {k many : Int} (h : (xs.length : Int) - many < k) : okF xs k many = false := by unfold okF; rw [decide_eq_false (show ¬ k ≤ (xs.length : Int) - many by omega)]; simp
theorem okF_mk {xs : List Int} {k many : Int} (h1 : 1 ≤ many) (h2 : many ≤ 3) (hb : okBs xs = true) (h3 : 0 ≤ k) (h4 : k ≤ (xs.length : Int) - many) : okF xs k many = true := by
  unfold okF; rw [decide_eq_true h1, decide_eq_true h2, hb, decide_eq_true h3, decide_eq_true h4]; rfl
theorem okF_yes {xs : List Int} {k many : Int} (h : okF xs k many = true) : ∃ q m : Nat, k = (q : Int) ∧ many = (m : Int) ∧ 1 ≤ m ∧ m ≤ 3 ∧ q + m ≤ xs.length ∧ okBs xs = true := by
  unfold okF at h
  simp only [Bool.and_eq_true, decide_eq_true_eq] at h
  exact ⟨k.toNat, many.toNat, by omega, by omega, by omega, by omega, by omega, h.1.1.2⟩

def GotRes (x : Int) (b : Bool) (w : World) (e : Ending) (w' : World) : Prop := e = .returned (.tuple #[.int .i64 x, .bool b]) ∧ w = w'

theorem or8 (y b : Int) (hy : 0 ≤ y) (hy1 : y ≤ 16777215) (hb : 0 ≤ b) (hb1 : b ≤ 255) : bits .or .i64 (y * 256) b = 256 * y + b := by
  have h := bits_join .i64 62 (by decide) wraps_i64 8 (y * 256) b (by omega) (by omega) (by omega) hb (by omega) (by omega)
  rw [h]; omega

def sumV (xs : List Int) : Int := if okBs xs = true then sumB xs else -1
theorem sumV_no {xs : List Int} (h : okBs xs = false) : sumV xs = -1 := by unfold sumV; rw [h]; rfl
theorem sumV_yes {xs : List Int} (h : okBs xs = true) : sumV xs = sumB xs := if_pos h

theorem impl_sum_with (s b : Int) (w : World) (h0 : 0 ≤ s) (h1 : s < 65521) (h2 : 0 ≤ b) (h3 : b ≤ 255) :
    Calls Try.prog 120 #[.int .i64 s, .int .i64 b] w fun e w' => e = .returned (.int .i64 ((257 * s + b) % 65521)) ∧ w = w' := by
  go_enter Try.func120, Try.ntmps120
  go_wp2
  go_ret
  exact ⟨ret_int (by rw [Int.mul_comm 257]), rfl⟩

theorem impl_sum_withAll (v : Value) (xs : List Int) (w : World) (h : Ints w v xs) (hb : okBs xs = true) :
    Calls Try.prog 115 #[.int .i64 1, v] w fun e w' => e = .returned (.int .i64 (sumB xs)) ∧ w = w' := by
  obtain ⟨a, cap, rfl, hl, hm, hc⟩ := h
  unfold maxLen at hm
  have Hc := Lib.hid hc
  have Hb := Lib.hid hb
  clear hc hb
  go_enter Try.func115, Try.ntmps115
  go_wp2
  go_loop [0, 9] (fun s i => ∃ k : Nat, k ≤ xs.length ∧ i = .int .i64 k ∧ s = .int .i64 (sumB (xs.take k))) (fun _ i => xs.length - (intOf i).toNat)
  case atStart => exact ⟨0, Nat.zero_le _, rfl, by simp [sumB, sumF]⟩
  case round =>
    obtain ⟨k, hk, rfl, rfl⟩ := hrel
    by_cases hlt : k < xs.length
    · obtain ⟨b, off, rfl, hcell⟩ := Hc.out (by omega)
      have hx := hcell k hlt
      have hxb := okBs_at Hb.out k hlt
      have hs := sumB_bound (xs.take k)
      clear hcell
      obtain ⟨x, ex⟩ : ∃ x, xs.getD k 0 = x := ⟨_, rfl⟩
      rw [ex] at hx hxb
      have hsn := sumB_snoc (xs.take k) x
      rw [← take_snoc0 xs k hlt x ex] at hsn
      obtain ⟨s, es⟩ : ∃ s, sumB (xs.take k) = s := ⟨_, rfl⟩
      rw [es] at hsn hs ⊢
      have C := Lib.hid (impl_sum_with s x w hs.1 hs.2 hxb.1 hxb.2)
      have Hsn := Lib.hid hsn
      clear hsn ex es hs
      go_wp2_with fail
      refine C.out.mono ?_
      rintro e w1 ⟨rfl, rfl⟩
      go_wp2_with fail
      go_round
      case rel => exact ⟨k + 1, by omega, by go_num, by rw [Hsn.out]⟩
      case measure => simp [intOf]; omega
    · obtain rfl : k = xs.length := by omega
      rw [List.take_length]
      go_wp2
      go_ret
      exact ⟨rfl, rfl⟩

theorem impl_SumOf (v : Value) (xs : List Int) (w : World) (h : Ints w v xs) :
    Calls Try.prog 108 #[v] w fun e w' => e = .returned (.int .i64 (sumV xs)) ∧ w = w' := by
  have C1 := Lib.hid (impl_areBytes v xs w h)
  cases hok : okBs xs with
  | false =>
    rw [sumV_no hok]
    rw [hok] at C1
    clear hok
    go_enter Try.func108, Try.ntmps108
    go_wp2_with fail
    refine C1.out.mono ?_
    rintro e w1 ⟨rfl, rfl⟩
    go_wp2_with fail
    go_ret
    exact ⟨rfl, rfl⟩
  | true =>
    have C2 := Lib.hid (impl_sum_withAll v xs w h hok)
    rw [sumV_yes hok]
    rw [hok] at C1
    clear hok
    go_enter Try.func108, Try.ntmps108
    go_wp2_with fail
    refine C1.out.mono ?_
    rintro e w1 ⟨rfl, rfl⟩
    go_wp2_with fail
    refine C2.out.mono ?_
    rintro e w1 ⟨rfl, rfl⟩
    go_wp2_with fail
    go_ret
    exact ⟨rfl, rfl⟩

theorem spec_l2Sum (v : Value) (xs : List Int) (w : World) (h : Ints w v xs) (hb : okBs xs = true) :
    Calls Try.prog 77 #[v] w fun e w' => e = .returned (.int .i64 (sumB xs)) ∧ w = w' := by
  obtain ⟨a, cap, rfl, hl, hm, hc⟩ := h
  unfold maxLen at hm
  have Hc := Lib.hid hc
  have Hb := Lib.hid hb
  clear hc hb
  go_enter Try.func77, Try.ntmps77
  go_wp2
  go_loop [3, 4] (fun s i => ∃ k : Nat, k ≤ xs.length ∧ i = .int .i64 k ∧ s = .int .i64 (sumB (xs.take k))) (fun _ i => xs.length - (intOf i).toNat)
  case atStart => exact ⟨0, Nat.zero_le _, rfl, by simp [sumB, sumF]⟩
  case round =>
    obtain ⟨k, hk, rfl, rfl⟩ := hrel
    by_cases hlt : k < xs.length
    · obtain ⟨b, off, rfl, hcell⟩ := Hc.out (by omega)
      have hx := hcell k hlt
      have hxb := okBs_at Hb.out k hlt
      have hs := sumB_bound (xs.take k)
      clear hcell
      obtain ⟨x, ex⟩ : ∃ x, xs.getD k 0 = x := ⟨_, rfl⟩
      rw [ex] at hx hxb
      have hsn := sumB_snoc (xs.take k) x
      rw [← take_snoc0 xs k hlt x ex] at hsn
      obtain ⟨s, es⟩ : ∃ s, sumB (xs.take k) = s := ⟨_, rfl⟩
      rw [es] at hsn hs ⊢
      have Hsn := Lib.hid hsn
      obtain ⟨s0, s1⟩ := hs
      obtain ⟨x0, x1⟩ := hxb
      clear hsn ex es
      go_wp2
      go_round
      case rel => exact ⟨k + 1, by omega, by go_num, by rw [Hsn.out]⟩
      case measure => simp [intOf]; omega
    · obtain rfl : k = xs.length := by omega
      rw [List.take_length]
      go_wp2
      go_ret
      exact ⟨rfl, rfl⟩

theorem spec_l3Part (has : Bool) (v : Value) (xs : List Int) (w : World) (h : Ints w v xs) :
    Calls Try.prog 93 #[.bool has, v] w fun e w' => e = .returned (.bool (partOk has xs)) ∧ w = w' := by
  have C1 := Lib.hid (spec_l1Ok v xs w h)
  obtain ⟨a, cap, rfl, hl, hm, hc⟩ := h
  unfold maxLen at hm
  clear hc
  cases has with
  | true =>
    have e0 : partOk true xs = (okBs xs && decide (xs.length ≤ 12)) := by unfold partOk; simp
    rw [e0]
    clear e0
    cases hok : okBs xs with
    | false =>
      rw [hok] at C1
      clear hok
      go_enter Try.func93, Try.ntmps93
      go_wp2_with fail
      refine C1.out.mono ?_
      rintro e w1 ⟨rfl, rfl⟩
      go_wp2_with fail
      go_ret
      exact ⟨rfl, rfl⟩
    | true =>
      rw [hok] at C1
      clear hok
      by_cases h12 : xs.length ≤ 12
      · have d1 : decide ((xs.length : Int) ≤ 12) = true := decide_eq_true (by omega)
        rw [decide_eq_true h12]
        go_enter Try.func93, Try.ntmps93
        go_wp2_with fail
        refine C1.out.mono ?_
        rintro e w1 ⟨rfl, rfl⟩
        go_wp2_with fail
        go_ret
        exact ⟨rfl, rfl⟩
      · have d1 : decide ((xs.length : Int) ≤ 12) = false := decide_eq_false (by omega)
        rw [decide_eq_false h12]
        go_enter Try.func93, Try.ntmps93
        go_wp2_with fail
        refine C1.out.mono ?_
        rintro e w1 ⟨rfl, rfl⟩
        go_wp2_with fail
        go_ret
        exact ⟨rfl, rfl⟩
  | false =>
    by_cases h0 : xs.length = 0
    · obtain rfl : xs = [] := List.eq_nil_of_length_eq_zero h0
      rw [show okBs [] = true from rfl] at C1
      clear h0
      go_enter Try.func93, Try.ntmps93
      go_wp2_with fail
      refine C1.out.mono ?_
      rintro e w1 ⟨rfl, rfl⟩
      go_wp2_with fail
      go_ret
      exact ⟨rfl, rfl⟩
    · have e0 : partOk false xs = false := by unfold partOk; rw [decide_eq_false h0]; rfl
      rw [e0]
      have d0 : ((xs.length : Int) == 0) = false := by rw [beq_eq_false_iff_ne]; omega
      have d1 : (xs.length == 0) = false := by rw [beq_eq_false_iff_ne]; exact h0
      clear e0 C1
      go_enter Try.func93, Try.ntmps93
      go_wp2_with fail
      go_ret
      exact ⟨rfl, rfl⟩

theorem spec_l3Put (has : Bool) (v : Value) (xs : List Int) (w : World) (h : Ints w v xs) (hl : xs.length ≤ 1000) :
    Calls Try.prog 95 #[.bool has, v] w (NewInts1 w (putP has xs)) := by
  cases has with
  | false =>
    have C1 := Lib.hid (spec_l1Bytes (-1) w (by omega) (by omega))
    rw [show putP false xs = varB (-1) from rfl, varB_in (by omega) (by omega)]
    go_enter Try.func95, Try.ntmps95
    go_wp2_with fail
    refine C1.out.mono ?_
    rintro e w1 ⟨u, rfl, own, bel⟩
    go_wp2_with fail
    go_ret
    exact ⟨_, rfl, own, bel⟩
  | true =>
    have hv := h
    obtain ⟨a, cap, rfl, hl1, hm, hc⟩ := h
    unfold maxLen at hm
    clear hc
    have C1 := Lib.hid (spec_l1Bytes (xs.length : Int) w (by omega) (by omega))
    have hlen := varB_len (xs.length : Int)
    rw [show putP true xs = varB xs.length ++ xs from rfl]
    rw [varB_in (by omega) (by omega)] at hlen ⊢
    obtain ⟨ys, hys⟩ : ∃ ys, varF 2 (foldP (xs.length : Int)) = ys := ⟨_, rfl⟩
    rw [hys] at C1 hlen ⊢
    clear hys
    go_enter Try.func95, Try.ntmps95
    go_wp2_with fail
    refine C1.out.mono ?_
    rintro e w1 ⟨u, rfl, own, bel⟩
    go_wp2_with (at_builtin; refine wp_appI rfl _ _ rfl w.heap.size _ _ ys xs rfl rfl own (hv.below bel) (by omega) bel.size ?_; intro v2 w2 own2 g2)
    go_ret
    exact ⟨_, rfl, own2, bel.grown g2 bel.size own.lt⟩

/-- a function that reads a record and answers a bool -/
def SaysB (b : Bool) (w : World) (e : Ending) (w' : World) : Prop := e = .returned (.bool b) ∧ Below w.heap.size w w'

theorem spec_RecordValid (v : Value) (r : Rec) (w : World) (h : RecV w v r) :
    Calls Try.prog 86 #[v] w (SaysB (recOk r) w) := by
  obtain ⟨kv, vv, rfl, ik, iv⟩ := h
  obtain ⟨off, time, hk, key, hv, val⟩ := r
  have C1 : Hid (∀ wn, Calls Try.prog 43 #[.int .i64 off, .int .i64 0, .int .i64 99999] wn fun e w' => e = .returned (.bool (inR off 0 99999)) ∧ wn = w') := fun wn => spec_l6In off 0 99999 wn
  have C2 : Hid (∀ wn, Calls Try.prog 43 #[.int .i64 time, .int .i64 0, .int .i64 99999] wn fun e w' => e = .returned (.bool (inR time 0 99999)) ∧ wn = w') := fun wn => spec_l6In time 0 99999 wn
  have C3 : Hid (∀ wn, Ints wn kv key → Calls Try.prog 93 #[.bool hk, kv] wn fun e w' => e = .returned (.bool (partOk hk key)) ∧ wn = w') := fun wn hi => spec_l3Part hk kv key wn hi
  have C4 : Hid (∀ wn, Ints wn vv val → Calls Try.prog 93 #[.bool hv, vv] wn fun e w' => e = .returned (.bool (partOk hv val)) ∧ wn = w') := fun wn hi => spec_l3Part hv vv val wn hi
  unfold recOk
  simp only
  have bel : Hid (∀ o : Obj, Below w.heap.size w (w.alloc o)) := fun o => (Below.refl _ _).alloc (Nat.le_refl _) _
  have iK : Hid (∀ o : Obj, Ints (w.alloc o) kv key) := fun o => ik.below (bel.out o)
  have iV : Hid (∀ o : Obj, Ints (w.alloc o) vv val) := fun o => iv.below (bel.out o)
  cases h1 : inR off 0 99999 with
  | false =>
    rw [h1] at C1
    clear h1
    go_enter Try.func86, Try.ntmps86
    go_wp2_with fail
    refine (C1.out _).mono ?_
    rintro e w1 ⟨rfl, rfl⟩
    go_wp2_with fail
    go_ret
    exact ⟨rfl, bel.out _⟩
  | true =>
    rw [h1] at C1
    cases h2 : inR time 0 99999 with
    | false =>
      rw [h2] at C2
      clear h1 h2
      go_enter Try.func86, Try.ntmps86
      go_wp2_with fail
      refine (C1.out _).mono ?_
      rintro e w1 ⟨rfl, rfl⟩
      go_wp2_with fail
      refine (C2.out _).mono ?_
      rintro e w1 ⟨rfl, rfl⟩
      go_wp2_with fail
      go_ret
      exact ⟨rfl, bel.out _⟩
    | true =>
      rw [h2] at C2
      cases h3 : partOk hk key with
      | false =>
        rw [h3] at C3
        clear h1 h2 h3
        go_enter Try.func86, Try.ntmps86
        go_wp2_with fail
        refine (C1.out _).mono ?_
        rintro e w1 ⟨rfl, rfl⟩
        go_wp2_with fail
        refine (C2.out _).mono ?_
        rintro e w1 ⟨rfl, rfl⟩
        go_wp2_with fail
        refine (C3.out _ (iK.out _)).mono ?_
        rintro e w1 ⟨rfl, rfl⟩
        go_wp2_with fail
        go_ret
        exact ⟨rfl, bel.out _⟩
      | true =>
        rw [h3] at C3
        cases h4 : partOk hv val
        all_goals
          rw [h4] at C4
          clear h1 h2 h3 h4
          go_enter Try.func86, Try.ntmps86
          go_wp2_with fail
          refine (C1.out _).mono ?_
          rintro e w1 ⟨rfl, rfl⟩
          go_wp2_with fail
          refine (C2.out _).mono ?_
          rintro e w1 ⟨rfl, rfl⟩
          go_wp2_with fail
          refine (C3.out _ (iK.out _)).mono ?_
          rintro e w1 ⟨rfl, rfl⟩
          go_wp2_with fail
          refine (C4.out _ (iV.out _)).mono ?_
          rintro e w1 ⟨rfl, rfl⟩
          go_wp2_with fail
          go_ret
          exact ⟨rfl, bel.out _⟩
-- W3b

theorem cell_of_block {w : World} {B : Nat} {cs : Array Value} {t : TypeId} {fr : Nat × Nat} (h : w.heap[B]? = some (.cells cs t fr)) (i : Nat) : w.cell? ⟨B, i, none⟩ = cs[i]? := by simp [World.cell?, h]
/-- the box of a record in block B holds its six fields -/
def BoxR (W : World) (B : Nat) (off time : Int) (hk : Bool) (kv : Value) (hv : Bool) (vv : Value) : Prop :=
  W.cell? ⟨B, 0, none⟩ = some (.int .i64 off) ∧ W.cell? ⟨B, 1, none⟩ = some (.int .i64 time) ∧ W.cell? ⟨B, 2, none⟩ = some (.bool hk) ∧ W.cell? ⟨B, 3, none⟩ = some kv ∧ W.cell? ⟨B, 4, none⟩ = some (.bool hv) ∧ W.cell? ⟨B, 5, none⟩ = some vv
theorem BoxR.made (w : World) (t : TypeId) (off time : Int) (hk : Bool) (kv : Value) (hv : Bool) (vv : Value) :
    BoxR (w.alloc (.cells #[.int .i64 off, .int .i64 time, .bool hk, kv, .bool hv, vv] t)) w.heap.size off time hk kv hv vv := by
  have hb := heap_alloc_new w (.cells #[.int .i64 off, .int .i64 time, .bool hk, kv, .bool hv, vv] t)
  exact ⟨cell_of_block hb 0, cell_of_block hb 1, cell_of_block hb 2, cell_of_block hb 3, cell_of_block hb 4, cell_of_block hb 5⟩
theorem BoxR.below {w W : World} {B : Nat} {off time : Int} {hk : Bool} {kv : Value} {hv : Bool} {vv : Value} (h : BoxR w B off time hk kv hv vv) (hB : B < w.heap.size) (hb : Below w.heap.size w W) : BoxR W B off time hk kv hv vv := by
  obtain ⟨h0, h1, h2, h3, h4, h5⟩ := h
  have k : ∀ i, W.cell? ⟨B, i, none⟩ = w.cell? ⟨B, i, none⟩ := fun i => hb.cell (p := ⟨B, i, none⟩) hB
  exact ⟨(k 0).trans h0, (k 1).trans h1, (k 2).trans h2, (k 3).trans h3, (k 4).trans h4, (k 5).trans h5⟩

set_option maxHeartbeats 1000000 in
theorem spec_l3BytesG (v : Value) (r : Rec) (o t : Int) (w : World) (h : RecV w v r) (hr : recOk r = true) (d1 : -1000000 ≤ r.time - t) (d2 : r.time - t ≤ 1000000) (d3 : -1000000 ≤ r.off - o) (d4 : r.off - o ≤ 1000000) :
    Calls Try.prog 87 #[v, .int .i64 o, .int .i64 t] w (NewInts1 w (recBytes r o t)) := by
  have hlen := recBody_len (o := o) (t := t) hr
  obtain ⟨⟨r0, r1⟩, ⟨q0, q1⟩, pk, pv⟩ := recOk_iff.1 hr
  have lk := (partOk_iff.1 pk).2.2
  have lv := (partOk_iff.1 pv).2.2
  obtain ⟨kv, vv, rfl, ik, iv⟩ := h
  unfold recBytes
  unfold recBody at hlen ⊢
  obtain ⟨off, time, hk, key, hv, val⟩ := r
  simp only at hlen r0 r1 q0 q1 lk lv ik iv d1 d2 d3 d4 ⊢
  have e1 := varB_len (time - t)
  have e2 := varB_len (off - o)
  have e3 := putP_len (has := hk) lk
  have e4 := putP_len (has := hv) lv
  have P1 : Hid (∀ wn, Calls Try.prog 94 #[.int .i64 (time - t)] wn (NewInts1 wn (varB (time - t)))) := fun wn => by
    have := spec_l1Bytes (time - t) wn (by omega) (by omega)
    rwa [← varB_in (by omega) (by omega)] at this
  have P2 : Hid (∀ wn, Calls Try.prog 94 #[.int .i64 (off - o)] wn (NewInts1 wn (varB (off - o)))) := fun wn => by
    have := spec_l1Bytes (off - o) wn (by omega) (by omega)
    rwa [← varB_in (by omega) (by omega)] at this
  have P3 : Hid (∀ wn, Ints wn kv key → Calls Try.prog 95 #[.bool hk, kv] wn (NewInts1 wn (putP hk key))) := fun wn hi => spec_l3Put hk kv key wn hi (by omega)
  have P4 : Hid (∀ wn, Ints wn vv val → Calls Try.prog 95 #[.bool hv, vv] wn (NewInts1 wn (putP hv val))) := fun wn hi => spec_l3Put hv vv val wn hi (by omega)
  obtain ⟨x1, hx1⟩ : ∃ x, varB (time - t) = x := ⟨_, rfl⟩
  obtain ⟨x2, hx2⟩ : ∃ x, varB (off - o) = x := ⟨_, rfl⟩
  obtain ⟨x3, hx3⟩ : ∃ x, putP hk key = x := ⟨_, rfl⟩
  obtain ⟨x4, hx4⟩ : ∃ x, putP hv val = x := ⟨_, rfl⟩
  rw [hx1] at P1 e1 hlen ⊢
  rw [hx2] at P2 e2 hlen ⊢
  rw [hx3] at P3 e3 hlen ⊢
  rw [hx4] at P4 e4 hlen ⊢
  obtain ⟨body, hbody⟩ : ∃ ys, x1 ++ x2 ++ x3 ++ x4 = ys := ⟨_, rfl⟩
  rw [hbody] at hlen ⊢
  have Hbody := Lib.hid hbody
  clear hbody
  have P5 : Hid (∀ wn, Calls Try.prog 94 #[.int .i64 (body.length : Int)] wn (NewInts1 wn (varB body.length))) := fun wn => by
    have := spec_l1Bytes (body.length : Int) wn (by omega) (by omega)
    rwa [← varB_in (by omega) (by omega)] at this
  have e5 := varB_len (body.length : Int)
  clear hx1 hx2 hx3 hx4 hr pk pv
  go_enter Try.func87, Try.ntmps87
  go_wp2_with fail
  obtain ⟨wb, hwb⟩ : ∃ wb, w.alloc (.cells #[.int .i64 off, .int .i64 time, .bool hk, kv, .bool hv, vv] 83) = wb := ⟨_, rfl⟩
  have box : BoxR wb w.heap.size off time hk kv hv vv := by rw [← hwb]; exact BoxR.made _ _ _ _ _ _ _ _
  have belw : Below w.heap.size w wb := by rw [← hwb]; exact (Below.refl _ _).alloc (Nat.le_refl _) _
  have hBlt : w.heap.size < wb.heap.size := by rw [← hwb]; simp
  rw [hwb]
  have keep : Hid (∀ W, Below wb.heap.size wb W → (W.cell? ⟨w.heap.size, 0, none⟩ = some (.int .i64 off) ∧ W.cell? ⟨w.heap.size, 1, none⟩ = some (.int .i64 time) ∧ Below wb.heap.size wb W)) := fun W hW => by
    obtain ⟨b0, b1, _⟩ := box.below hBlt hW
    exact ⟨b0, b1, hW⟩
  have A1 : Hid (∀ W, (W.cell? ⟨w.heap.size, 0, none⟩ = some (.int .i64 off) ∧ W.cell? ⟨w.heap.size, 1, none⟩ = some (.int .i64 time) ∧ Below wb.heap.size wb W) → Calls Try.prog 94 #[.int .i64 (time - t)] W fun e W' => ∃ v1, e = .returned v1 ∧ Own W' wb.heap.size v1 x1 ∧
      (W'.cell? ⟨w.heap.size, 0, none⟩ = some (.int .i64 off) ∧ W'.cell? ⟨w.heap.size, 1, none⟩ = some (.int .i64 time) ∧ Below wb.heap.size wb W')) := fun W h => (P1.out W).mono fun e W' ⟨v1, he, own, bel⟩ => ⟨v1, he, own.base h.2.2.size, keep.out W' (Bstep h.2.2 bel)⟩
  have A2 : Hid (∀ W v1, Own W wb.heap.size v1 x1 → (W.cell? ⟨w.heap.size, 0, none⟩ = some (.int .i64 off) ∧ W.cell? ⟨w.heap.size, 1, none⟩ = some (.int .i64 time) ∧ Below wb.heap.size wb W) → Calls Try.prog 94 #[.int .i64 (off - o)] W fun e W' => ∃ v2, e = .returned v2 ∧ Own W' wb.heap.size v2 x2 ∧ Own W' wb.heap.size v1 x1 ∧
      (W'.cell? ⟨w.heap.size, 0, none⟩ = some (.int .i64 off) ∧ W'.cell? ⟨w.heap.size, 1, none⟩ = some (.int .i64 time) ∧ Below wb.heap.size wb W')) := fun W v1 hv1 h => (P2.out W).mono fun e W' ⟨v2, he, own, bel⟩ => ⟨v2, he, own.base h.2.2.size, hv1.below bel, keep.out W' (Bstep h.2.2 bel)⟩
  have s1 : IntKind.i64.wrap (time - t) = time - t := IntWalk.i64_in _ ⟨by omega, by omega⟩
  have s2 : IntKind.i64.wrap (off - o) = off - o := IntWalk.i64_in _ ⟨by omega, by omega⟩
  have S0 := keep.out wb (Below.refl _ _)
  have S1 : wb.drew.cell? ⟨w.heap.size, 0, none⟩ = some (.int .i64 off) ∧ wb.drew.cell? ⟨w.heap.size, 1, none⟩ = some (.int .i64 time) ∧ Below wb.heap.size wb wb.drew := keep.out wb.drew (below_drewN (Below.refl _ _) 1)
  have h12 : x1.length + x2.length < 10000000000 := by omega
  clear hwb
  go_region_held3 (fun W => W.cell? ⟨w.heap.size, 0, none⟩ = some (.int .i64 off) ∧ W.cell? ⟨w.heap.size, 1, none⟩ = some (.int .i64 time) ∧ Below wb.heap.size wb W) (first | assumption | go_keep)
    (first
      | (go_at_call 94; ((with_reducible refine (A1.out _ (by assumption)).mono ?_); rintro e W1 ⟨v1, rfl, own1, hS1⟩))
      | (go_at_call 94; ((with_reducible refine (A2.out _ _ own1 (by assumption)).mono ?_); rintro e W2 ⟨v2, rfl, own2, own1', hS2⟩))
      | (refine step_appI rfl (.tmp 12) (.tmp 17) rfl wb.heap.size v1 v2 x1 x2 rfl rfl own1' own2.ints h12 hS2.2.2.size ?_; intro v3 W3 own3 g3; have hS3 := keep.out W3 (hS2.2.2.grown g3 hS2.2.2.size own1'.lt)))
  have B3 := hS3.2.2
  obtain ⟨_, _, b2, b3, _, _⟩ := box.below hBlt B3
  have iK3 := ik.below (Bstep belw B3)
  clear S0 S1 s1 s2 hS1 hS2 own1 own1' own2 A1 A2 b2 b3 hS3
  obtain ⟨_, _, b2, b3, _, _⟩ := box.below hBlt B3
  go_wp2_with fail
  (with_reducible refine (P3.out _ iK3).mono ?_)
  rintro e W4 ⟨v4, rfl, own4, bel4⟩
  have B4 := Bstep B3 bel4
  have own34 := own3.below bel4
  clear b2 b3
  go_wp2_with (
    at_builtin
    refine wp_appI rfl _ _ rfl wb.heap.size v3 v4 (x1 ++ x2) x3 rfl rfl own34 own4.ints (by rw [List.length_append]; omega) B4.size ?_
    intro v5 W5 own5 g5
    have B5 := B4.grown g5 B4.size own34.lt
    obtain ⟨_, _, _, _, b4, b5⟩ := box.below hBlt B5)
  (with_reducible refine (P4.out _ (iv.below (Bstep belw B5))).mono ?_)
  rintro e W6 ⟨v6, rfl, own6, bel6⟩
  have B6 := Bstep B5 bel6
  have own56 := own5.below bel6
  clear b4 b5
  go_wp2_with (
    at_builtin
    refine wp_appI rfl _ _ rfl wb.heap.size v5 v6 (x1 ++ x2 ++ x3) x4 rfl rfl own56 own6.ints (by rw [List.length_append, List.length_append]; omega) B6.size ?_
    intro v7 W7 own7 g7
    have B7 := B6.grown g7 B6.size own56.lt
    rw [Hbody.out] at own7
    have i7 := own7.ints
    obtain ⟨a7, cap7, rfl, hl7, hm7, hc7⟩ := i7
    unfold maxLen at hm7
    clear hc7)
  (with_reducible refine (P5.out _).mono ?_)
  rintro e W8 ⟨v8, rfl, own8, bel8⟩
  have B8 := Bstep B7 bel8
  go_wp2_with (at_builtin; refine wp_appI rfl _ _ rfl W7.heap.size v8 _ _ body rfl rfl own8 (own7.ints.below bel8) (by omega) bel8.size ?_; intro v9 W9 own9 g9)
  go_ret
  have B9 := B8.grown g9 B8.size (fun k hk => Nat.le_trans B7.size (own8.lt k hk))
  have hsz : w.heap.size ≤ W7.heap.size := Nat.le_trans belw.size B7.size
  exact ⟨_, rfl, own9.base hsz, Bstep belw B9⟩
theorem spec_l3Bytes (v : Value) (r : Rec) (o t : Int) (w : World) (h : RecV w v r) (hr : recOk r = true) (hb : baseOk o t = true) :
    Calls Try.prog 87 #[v, .int .i64 o, .int .i64 t] w (NewInts1 w (recBytes r o t)) := by
  obtain ⟨⟨o0, o1⟩, t0, t1⟩ := baseOk_iff.1 hb
  obtain ⟨⟨r0, r1⟩, ⟨q0, q1⟩, pk, pv⟩ := recOk_iff.1 hr
  exact spec_l3BytesG v r o t w h hr (by omega) (by omega) (by omega) (by omega)
-- W3c

def GetRes (g : Bool × List Int × Int × Bool) (w : World) (e : Ending) (w' : World) : Prop :=
  ∃ u, e = .returned (.tuple #[.bool g.1, u, .int .i64 g.2.2.1, .bool g.2.2.2]) ∧ Own w' w.heap.size u g.2.1 ∧ Below w.heap.size w w'

theorem sameAt_short {xs ys : List Int} {k : Nat} (h : xs.length < k + ys.length) : sameAt xs k ys = false := by unfold sameAt; rw [decide_eq_false (by omega)]; rfl
theorem sameAt_no {xs ys : List Int} {k j : Nat} {x y : Int} (hj : j < ys.length) (hx : xs.getD (k + j) 0 = x) (hy : ys.getD j 0 = y) (h : x ≠ y) : sameAt xs k ys = false := by
  unfold sameAt
  have : ((xs.drop k).take ys.length == ys) = false := by
    refine beq_no_at (k := j) (x := x) (y := y) ?_ hy h
    rw [← hx]
    simp [List.getD, hj]
  rw [this]; simp
theorem sameAt_all {xs ys : List Int} {k : Nat} (h : k + ys.length ≤ xs.length) (he : ∀ i, i < ys.length → xs.getD (k + i) 0 = ys.getD i 0) : sameAt xs k ys = true := by
  unfold sameAt
  rw [decide_eq_true h, Bool.true_and]
  have hl : ((xs.drop k).take ys.length).length = ys.length := by rw [List.length_take, List.length_drop]; omega
  refine beq_yes hl fun i hi => ?_
  rw [hl] at hi
  rw [← he i hi]
  simp [List.getD, hi]

/-- a record of the call's own, a place, and whether there is one -/
def RecOut (w : World) (g : Rec × Int × Bool) (e : Ending) (w' : World) : Prop :=
  ∃ kv vv, e = .returned (.tuple #[.agg #[.int .i64 g.1.off, .int .i64 g.1.time, .bool g.1.hk, kv, .bool g.1.hv, vv], .int .i64 g.2.1, .bool g.2.2]) ∧
    Own w' w.heap.size kv g.1.key ∧ Own w' w.heap.size vv g.1.val ∧ (∀ k, vv.ownBlock = some k → kv.ownBlock ≠ some k) ∧ Below w.heap.size w w'
theorem RecOut.none {w w' : World} {e : Ending} (he : e = .returned (.tuple #[.agg #[.int .i64 0, .int .i64 0, .bool false, .slice none 0 0, .bool false, .slice none 0 0], .int .i64 0, .bool false])) (hb : Below w.heap.size w w') : RecOut w (Rec.zero, 0, false) e w' :=
  ⟨_, _, he, own_nil _ _, own_nil _ _, fun k hk => by simp [Value.ownBlock] at hk, hb⟩

theorem frozen_of_block {w : World} {B : Nat} {cs : Array Value} {t : TypeId} (h : w.heap[B]? = some (.cells cs t (0, 0))) (i : Nat) : w.frozen? ⟨B, i, none⟩ = false := by simp [World.frozen?, h]
theorem rdVar_place {xs : List Int} (hok : okBs xs = true) (k : Nat) : ∃ (n : Int) (a : Nat) (b : Bool), rdVar xs k = (n, (a : Int), b) ∧ -1000000 ≤ n ∧ n ≤ 1000000 ∧ (b = true → k < a ∧ a ≤ xs.length) ∧ a ≤ xs.length := by
  obtain ⟨⟨n, nx, b⟩, hg⟩ : ∃ g, rdVar xs k = g := ⟨_, rfl⟩
  cases b with
  | false =>
    have := rdVar_no (xs := xs) (k := k) (by rw [hg])
    exact ⟨0, 0, false, this, by omega, by omega, by simp, by omega⟩
  | true =>
    obtain ⟨a1, a2, a3, _, a5⟩ := rdVar_yes hok hg
    have := varB_pos a1 a2
    exact ⟨n, k + (varB n).length, true, by rw [hg, a3], a1, a2, fun _ => ⟨by omega, by omega⟩, by omega⟩
theorem getP_place {xs : List Int} (hok : okBs xs = true) (c : Nat) : ∃ (h : Bool) (ys : List Int) (d : Nat) (b : Bool), getP xs c = (h, ys, (d : Int), b) ∧ d ≤ xs.length := by
  obtain ⟨⟨h, ys, d, b⟩, hg⟩ : ∃ g, getP xs c = g := ⟨_, rfl⟩
  cases b with
  | true =>
    obtain ⟨_, _, a3, a4⟩ := getP_yes hok hg
    exact ⟨h, ys, _, true, by rw [hg, a3], a4⟩
  | false =>
    refine ⟨h, ys, 0, false, ?_, by omega⟩
    rw [hg]
    have hd : d = 0 := by
      unfold getP at hg
      simp only at hg
      split at hg
      · simp at hg; omega
      split at hg
      · simp at hg; omega
      split at hg
      · simp at hg; omega
      split at hg
      · simp at hg; omega
      split at hg
      · simp at hg
      · simp at hg
    rw [hd]; rfl

theorem frozen_made (w : World) {cs : Array Value} {t : TypeId} (i : Nat) : (w.alloc (.cells cs t (0, 0))).frozen? ⟨w.heap.size, i, none⟩ = false := by
  have hb := heap_alloc_new w (.cells cs t (0, 0))
  exact frozen_of_block hb i
theorem bel_six {n : Nat} {w W : World} (h : Below n w W) {B : Nat} (hB : n ≤ B) (v0 v1 v2 v3 v4 v5 : Value) :
    Below n w ((((((W.setCell ⟨B, 0, none⟩ v0).setCell ⟨B, 1, none⟩ v1).setCell ⟨B, 2, none⟩ v2).setCell ⟨B, 3, none⟩ v3).setCell ⟨B, 4, none⟩ v4).setCell ⟨B, 5, none⟩ v5) :=
  (((((h.setCell hB _).setCell hB _).setCell hB _).setCell hB _).setCell hB _).setCell hB _
theorem Own.six {w : World} {base : Nat} {v : Value} {xs : List Int} (h : Own w base v xs) {B : Nat} (hB : B < base) (v0 v1 v2 v3 v4 v5 : Value) :
    Own ((((((w.setCell ⟨B, 0, none⟩ v0).setCell ⟨B, 1, none⟩ v1).setCell ⟨B, 2, none⟩ v2).setCell ⟨B, 3, none⟩ v3).setCell ⟨B, 4, none⟩ v4).setCell ⟨B, 5, none⟩ v5) base v xs := by
  have k : ∀ (W : World) (i : Nat) (u : Value), W.grownBy (W.setCell ⟨B, i, none⟩ u) (some B) := fun W i u =>
    ⟨rfl, rfl, rfl, by simp, fun b hb hne => Below.heap_setCell W _ _ b fun e => hne (by rw [e])⟩
  have hne : v.ownBlock = none ∨ v.ownBlock ≠ some B := by
    cases e : v.ownBlock with
    | none => exact .inl rfl
    | some q => refine .inr fun e2 => ?_; have := h.lt q e; simp only [Option.some.injEq] at e2; omega
  exact (((((h.grown (k _ 0 v0) hne).grown (k _ 1 v1) hne).grown (k _ 2 v2) hne).grown (k _ 3 v3) hne).grown (k _ 4 v4) hne).grown (k _ 5 v5) hne

/-- six cells of a block -/
def Box6 (W : World) (B : Nat) (v0 v1 v2 v3 v4 v5 : Value) : Prop :=
  W.cell? ⟨B, 0, none⟩ = some v0 ∧ W.cell? ⟨B, 1, none⟩ = some v1 ∧ W.cell? ⟨B, 2, none⟩ = some v2 ∧ W.cell? ⟨B, 3, none⟩ = some v3 ∧ W.cell? ⟨B, 4, none⟩ = some v4 ∧ W.cell? ⟨B, 5, none⟩ = some v5
theorem Box6.store {w : World} {B : Nat} {u0 u1 u2 u3 u4 u5 : Value} (h : Box6 w B u0 u1 u2 u3 u4 u5) (v0 v1 v2 v3 v4 v5 : Value) :
    Box6 ((((((w.setCell ⟨B, 0, none⟩ v0).setCell ⟨B, 1, none⟩ v1).setCell ⟨B, 2, none⟩ v2).setCell ⟨B, 3, none⟩ v3).setCell ⟨B, 4, none⟩ v4).setCell ⟨B, 5, none⟩ v5) B v0 v1 v2 v3 v4 v5 := by
  obtain ⟨h0, h1, h2, h3, h4, h5⟩ := h
  have ne : ∀ (W : World) (i j : Nat) (v : Value), i ≠ j → (W.setCell ⟨B, i, none⟩ v).cell? ⟨B, j, none⟩ = W.cell? ⟨B, j, none⟩ := fun W i j v hij => by
    refine World.cell?_setCell_other _ _ _ _ (fun e => hij ?_)
    exact congrArg Addr.off e
  have same : ∀ (W : World) (i : Nat) (v u : Value), W.cell? ⟨B, i, none⟩ = some u → (W.setCell ⟨B, i, none⟩ v).cell? ⟨B, i, none⟩ = some v := fun W i v u h => World.cell?_setCell_same' W _ v (by rw [h]; rfl)
  refine ⟨?_, ?_, ?_, ?_, ?_, ?_⟩
  · rw [ne _ 5 0 _ (by decide), ne _ 4 0 _ (by decide), ne _ 3 0 _ (by decide), ne _ 2 0 _ (by decide), ne _ 1 0 _ (by decide)]
    exact same _ _ _ u0 h0
  · rw [ne _ 5 1 _ (by decide), ne _ 4 1 _ (by decide), ne _ 3 1 _ (by decide), ne _ 2 1 _ (by decide)]
    exact same _ _ _ u1 (by rw [ne _ 0 1 _ (by decide)]; exact h1)
  · rw [ne _ 5 2 _ (by decide), ne _ 4 2 _ (by decide), ne _ 3 2 _ (by decide)]
    exact same _ _ _ u2 (by rw [ne _ 1 2 _ (by decide), ne _ 0 2 _ (by decide)]; exact h2)
  · rw [ne _ 5 3 _ (by decide), ne _ 4 3 _ (by decide)]
    exact same _ _ _ u3 (by rw [ne _ 2 3 _ (by decide), ne _ 1 3 _ (by decide), ne _ 0 3 _ (by decide)]; exact h3)
  · rw [ne _ 5 4 _ (by decide)]
    exact same _ _ _ u4 (by rw [ne _ 3 4 _ (by decide), ne _ 2 4 _ (by decide), ne _ 1 4 _ (by decide), ne _ 0 4 _ (by decide)]; exact h4)
  · exact same _ _ _ u5 (by rw [ne _ 4 5 _ (by decide), ne _ 3 5 _ (by decide), ne _ 2 5 _ (by decide), ne _ 1 5 _ (by decide), ne _ 0 5 _ (by decide)]; exact h5)

/-- the record at a place, for all arguments -/
def rdRecI (xs : List Int) (k o t : Int) : Rec × Int × Bool := if okBs xs = true then if k < 0 then (Rec.zero, 0, false) else if baseOk o t = true then rdRec xs k.toNat o t else (Rec.zero, 0, false) else (Rec.zero, 0, false)
theorem rdRecI_bad {xs : List Int} {k o t : Int} (h : okBs xs = false) : rdRecI xs k o t = (Rec.zero, 0, false) := by unfold rdRecI; rw [h]; rfl
theorem rdRecI_neg {xs : List Int} {k o t : Int} (h : k < 0) : rdRecI xs k o t = (Rec.zero, 0, false) := by unfold rdRecI; rw [if_pos h]; split <;> rfl
theorem rdRecI_base {xs : List Int} {k o t : Int} (h : baseOk o t = false) : rdRecI xs k o t = (Rec.zero, 0, false) := by
  unfold rdRecI
  rw [h, if_neg (show ¬ (false = true) by simp)]
  split
  · split <;> rfl
  · rfl
theorem rdRecI_at {xs : List Int} {k : Nat} {o t : Int} (h : okBs xs = true) (hb : baseOk o t = true) : rdRecI xs (k : Int) o t = rdRec xs k o t := by unfold rdRecI; rw [if_pos h, if_neg (by omega), if_pos hb, Int.toNat_natCast]

/-- how many bytes a record has -/
def recS (r : Rec) (o t : Int) : Int := if (recOk r && baseOk o t) = true then ((recBytes r o t).length : Int) else -1

/-- a number, by a reader at a place: the number, the reader's place behind it, and whether it has failed -/
def numR (xs : List Int) (k : Int) (f : Bool) : Int × Int × Bool :=
  if f = true then (0, k, true) else if (rdV xs k).2.2 = true then ((rdV xs k).1, (rdV xs k).2.1, false) else (0, k, true)
/-- so many bytes, by a reader at a place -/
def takeR (xs : List Int) (k : Int) (f : Bool) (m : Int) : List Int × Int × Bool :=
  if f = true then ([], k, true) else if m < 0 then ([], k, true) else if k < 0 then ([], k, true) else if (xs.length : Int) - k < m then ([], k, true) else ((xs.drop k.toNat).take m.toNat, k + m, false)
/-- a part, by a reader -/
def partR (xs : List Int) (k : Int) (f : Bool) : Bool × List Int × Int × Bool :=
  if (numR xs k f).1 = -1 then (false, [], (numR xs k f).2.1, (numR xs k f).2.2) else
    (true, (takeR xs (numR xs k f).2.1 (numR xs k f).2.2 (numR xs k f).1).1, (takeR xs (numR xs k f).2.1 (numR xs k f).2.2 (numR xs k f).1).2.1, (takeR xs (numR xs k f).2.1 (numR xs k f).2.2 (numR xs k f).1).2.2)
/-- what follows the length of a record, by a reader -/
def bodyR (xs : List Int) (k : Int) (f : Bool) (o t : Int) : Rec × Int × Bool :=
  let a := numR xs k f
  let b := numR xs a.2.1 a.2.2
  let c := partR xs b.2.1 b.2.2
  let d := partR xs c.2.2.1 c.2.2.2
  (⟨o + b.1, t + a.1, c.1, c.2.1, d.1, d.2.1⟩, d.2.2.1, d.2.2.2)
/-- a record, by two readers -/
def fromR (xs : List Int) (k o t : Int) : Rec × Int × Bool :=
  let a := numR xs k false
  let b := takeR xs a.2.1 a.2.2 a.1
  let r := bodyR b.1 0 false o t
  if b.2.2 = true then (Rec.zero, 0, false) else if r.2.2 = true then (Rec.zero, 0, false) else if r.2.1 < (b.1.length : Int) then (Rec.zero, 0, false) else if recOk r.1 = false then (Rec.zero, 0, false) else (r.1, b.2.1, true)

theorem numR_f (xs : List Int) (k : Int) : numR xs k true = (0, k, true) := rfl
theorem takeR_f (xs : List Int) (k m : Int) : takeR xs k true m = ([], k, true) := rfl
theorem rdV_nat {xs : List Int} (hok : okBs xs = true) (k : Nat) : rdV xs (k : Int) = rdVar xs k := rdV_at k hok
theorem numR_yes {xs : List Int} (hok : okBs xs = true) {k : Nat} {f : Bool} {n nx : Int} (h : numR xs (k : Int) f = (n, nx, false)) :
    f = false ∧ -1000000 ≤ n ∧ n ≤ 1000000 ∧ nx = ((k + (varB n).length : Nat) : Int) ∧ xs.drop k = varB n ++ xs.drop (k + (varB n).length) ∧ k + (varB n).length ≤ xs.length := by
  cases f with
  | true => simp [numR] at h
  | false =>
    refine ⟨rfl, ?_⟩
    unfold numR at h
    rw [if_neg (by simp), rdV_nat hok] at h
    obtain ⟨⟨n', nx', b⟩, hg⟩ : ∃ g, rdVar xs k = g := ⟨_, rfl⟩
    rw [hg] at h
    cases b with
    | false => simp at h
    | true =>
      simp only [if_true, Prod.mk.injEq, and_true] at h
      obtain ⟨rfl, rfl⟩ := h
      exact rdVar_yes hok hg
theorem numR_app {xs rest : List Int} (hok : okBs xs = true) {k : Nat} {n : Int} (h0 : -1000000 ≤ n) (h1 : n ≤ 1000000) (h : xs.drop k = varB n ++ rest) : numR xs (k : Int) false = (n, ((k + (varB n).length : Nat) : Int), false) := by
  have := rdVar_app h0 h1 h
  unfold numR
  rw [if_neg (by simp), rdV_nat hok, this]
  rfl
theorem takeR_yes {xs : List Int} {k : Nat} {f : Bool} {m nx : Int} {ys : List Int} (h : takeR xs (k : Int) f m = (ys, nx, false)) :
    f = false ∧ ∃ j : Nat, m = (j : Int) ∧ ys = (xs.drop k).take j ∧ ys.length = j ∧ nx = ((k + j : Nat) : Int) ∧ k + j ≤ xs.length := by
  cases f with
  | true => simp [takeR] at h
  | false =>
    refine ⟨rfl, ?_⟩
    unfold takeR at h
    rw [if_neg (by simp)] at h
    split at h
    · simp at h
    split at h
    · simp at h
    split at h
    · simp at h
    · simp only [Prod.mk.injEq, and_true] at h
      obtain ⟨rfl, rfl⟩ := h
      obtain ⟨j, rfl⟩ := Int.eq_ofNat_of_zero_le (show 0 ≤ m by omega)
      rw [Int.toNat_natCast, Int.toNat_natCast]
      exact ⟨j, rfl, rfl, by rw [List.length_take, List.length_drop]; omega, by simp, by omega⟩
theorem takeR_app {xs ys rest : List Int} {k : Nat} (hk : k ≤ xs.length) (h : xs.drop k = ys ++ rest) : takeR xs (k : Int) false (ys.length : Int) = (ys, ((k + ys.length : Nat) : Int), false) := by
  have hl : (xs.drop k).length = ys.length + rest.length := by rw [h, List.length_append]
  rw [List.length_drop] at hl
  unfold takeR
  rw [if_neg (by simp), if_neg (by omega), if_neg (by omega), if_neg (by omega), Int.toNat_natCast, Int.toNat_natCast, h, List.take_left]
  simp
theorem partR_yes {xs : List Int} (hok : okBs xs = true) {k : Nat} {f h : Bool} {ys : List Int} {nx : Int} (hp : partR xs (k : Int) f = (h, ys, nx, false)) :
    f = false ∧ xs.drop k = putP h ys ++ xs.drop (k + (putP h ys).length) ∧ nx = ((k + (putP h ys).length : Nat) : Int) ∧ k + (putP h ys).length ≤ xs.length := by
  unfold partR at hp
  obtain ⟨⟨n, n1, b⟩, hg⟩ : ∃ g, numR xs k f = g := ⟨_, rfl⟩
  rw [hg] at hp
  simp only at hp
  split at hp
  · simp only [Prod.mk.injEq] at hp
    obtain ⟨rfl, rfl, rfl, rfl⟩ := hp
    obtain ⟨a0, a1, a2, a3, a4, a5⟩ := numR_yes hok hg
    rename_i e
    subst e
    exact ⟨a0, a4, a3, a5⟩
  · cases b with
    | true => simp [takeR] at hp
    | false =>
      obtain ⟨a0, a1, a2, a3, a4, a5⟩ := numR_yes hok hg
      subst a3
      obtain ⟨⟨zs, z1, z2⟩, ht⟩ : ∃ g, takeR xs ((k + (varB n).length : Nat) : Int) false n = g := ⟨_, rfl⟩
      rw [ht] at hp
      simp only [Prod.mk.injEq] at hp
      obtain ⟨rfl, rfl, rfl, rfl⟩ := hp
      obtain ⟨_, j, rfl, c1, c2, c3, c4⟩ := takeR_yes ht
      have e : putP true zs = varB (j : Int) ++ zs := by unfold putP; rw [if_pos rfl, c2]
      refine ⟨a0, ?_, ?_, ?_⟩
      · rw [e, List.append_assoc, List.length_append, c2, ← Nat.add_assoc, ← List.drop_drop (i := j), c1, List.take_append_drop]
        exact a4
      · rw [e, List.length_append, c2, c3]; omega
      · rw [e, List.length_append, c2]; omega
theorem partR_app {xs rest ys : List Int} {k : Nat} {h : Bool} (hok : okBs xs = true) (hp : partOk h ys = true) (hk : k ≤ xs.length) (hd : xs.drop k = putP h ys ++ rest) :
    partR xs (k : Int) false = (h, ys, ((k + (putP h ys).length : Nat) : Int), false) := by
  obtain ⟨h1, h2, h3⟩ := partOk_iff.1 hp
  unfold partR
  cases h with
  | false =>
    have hy := h1 rfl
    subst hy
    have e : putP false [] = varB (-1) := rfl
    rw [e] at hd ⊢
    rw [numR_app hok (by omega) (by omega) hd, if_pos rfl]
  | true =>
    have e : putP true ys = varB (ys.length : Int) ++ ys := by unfold putP; rw [if_pos rfl]
    rw [e] at hd ⊢
    rw [List.append_assoc] at hd
    have hl : (xs.drop k).length = (varB (ys.length : Int)).length + (ys.length + rest.length) := by rw [hd, List.length_append, List.length_append]
    rw [List.length_drop] at hl
    rw [numR_app hok (by omega) (by omega) hd, if_neg (by simp only; omega)]
    have hd2 : xs.drop (k + (varB (ys.length : Int)).length) = ys ++ rest := by rw [← List.drop_drop, hd, List.drop_left]
    simp only
    rw [takeR_app (by omega) hd2, List.length_append, Nat.add_assoc]

theorem bodyR_app {r : Rec} {o t : Int} (hr : recOk r = true) (hb : baseOk o t = true) (hok : okBs (recBody r o t) = true) :
    bodyR (recBody r o t) 0 false o t = (r, ((recBody r o t).length : Int), false) := by
  obtain ⟨⟨o0, o1⟩, t0, t1⟩ := baseOk_iff.1 hb
  obtain ⟨⟨r0, r1⟩, ⟨q0, q1⟩, pk, pv⟩ := recOk_iff.1 hr
  obtain ⟨xs, hxs⟩ : ∃ xs, recBody r o t = xs := ⟨_, rfl⟩
  have e : xs = varB (r.time - t) ++ (varB (r.off - o) ++ (putP r.hk r.key ++ (putP r.hv r.val ++ []))) := by rw [← hxs]; simp [recBody]
  rw [hxs] at hok ⊢
  have hlen : xs.length = (varB (r.time - t)).length + ((varB (r.off - o)).length + ((putP r.hk r.key).length + (putP r.hv r.val).length)) := by rw [e]; simp
  have g1 := numR_app (k := 0) hok (by omega) (by omega) (show xs.drop 0 = varB (r.time - t) ++ _ by rw [List.drop_zero]; exact e)
  obtain ⟨a, ha⟩ : ∃ a, 0 + (varB (r.time - t)).length = a := ⟨_, rfl⟩
  rw [ha] at g1
  have d1 : xs.drop a = varB (r.off - o) ++ (putP r.hk r.key ++ (putP r.hv r.val ++ [])) := by rw [← ha, Nat.zero_add, e, List.drop_left]
  have g2 := numR_app hok (by omega) (by omega) d1
  obtain ⟨b, hb2⟩ : ∃ b, a + (varB (r.off - o)).length = b := ⟨_, rfl⟩
  rw [hb2] at g2
  have d2 : xs.drop b = putP r.hk r.key ++ (putP r.hv r.val ++ []) := by rw [← hb2, ← List.drop_drop, d1, List.drop_left]
  have g3 := partR_app hok pk (by omega) d2
  obtain ⟨c, hc⟩ : ∃ c, b + (putP r.hk r.key).length = c := ⟨_, rfl⟩
  rw [hc] at g3
  have d3 : xs.drop c = putP r.hv r.val ++ [] := by rw [← hc, ← List.drop_drop, d2, List.drop_left]
  have g4 := partR_app hok pv (by omega) d3
  have er : (⟨o + (r.off - o), t + (r.time - t), r.hk, r.key, r.hv, r.val⟩ : Rec) = r := by
    rw [show o + (r.off - o) = r.off by omega, show t + (r.time - t) = r.time by omega]
  have g1' : numR xs 0 false = (r.time - t, (a : Int), false) := g1
  unfold bodyR
  simp only [g1', g2, g3, g4, er]
  rw [show ((c + (putP r.hv r.val).length : Nat) : Int) = (xs.length : Int) by omega]
theorem bodyR_yes {xs : List Int} {o t nx : Int} {r : Rec} (hok : okBs xs = true) (h : bodyR xs 0 false o t = (r, nx, false)) (hn : ¬ nx < (xs.length : Int)) : xs = recBody r o t := by
  unfold bodyR at h
  simp only at h
  obtain ⟨⟨dt, a, f1⟩, hg1⟩ : ∃ g, numR xs 0 false = g := ⟨_, rfl⟩
  rw [hg1] at h
  simp only at h
  obtain ⟨⟨dd, b, f2⟩, hg2⟩ : ∃ g, numR xs a f1 = g := ⟨_, rfl⟩
  rw [hg2] at h
  simp only at h
  obtain ⟨⟨hk, key, c, f3⟩, hg3⟩ : ∃ g, partR xs b f2 = g := ⟨_, rfl⟩
  rw [hg3] at h
  simp only at h
  obtain ⟨⟨hv, val, d, f4⟩, hg4⟩ : ∃ g, partR xs c f3 = g := ⟨_, rfl⟩
  rw [hg4] at h
  simp only [Prod.mk.injEq] at h
  obtain ⟨rfl, rfl, rfl⟩ := h
  have hf3 : f3 = false := by
    cases f3 with
    | false => rfl
    | true => exact absurd hg4 (by simp [partR, numR, takeR])
  subst hf3
  have hf2 : f2 = false := by
    cases f2 with
    | false => rfl
    | true => exact absurd hg3 (by simp [partR, numR, takeR])
  subst hf2
  have hf1 : f1 = false := by
    cases f1 with
    | false => rfl
    | true => exact absurd hg2 (by simp [numR])
  subst hf1
  obtain ⟨_, b1, b2, rfl, e1, l1⟩ := numR_yes (k := 0) hok hg1
  obtain ⟨_, c1, c2, rfl, e2, l2⟩ := numR_yes hok hg2
  obtain ⟨_, e3, rfl, l3⟩ := partR_yes hok hg3
  obtain ⟨_, e4, rfl, l4⟩ := partR_yes hok hg4
  have e5 : xs.drop (0 + (varB dt).length + (varB dd).length + (putP hk key).length + (putP hv val).length) = [] := List.drop_eq_nil_of_le (by omega)
  rw [e5] at e4
  rw [List.drop_zero] at e1
  rw [e4] at e3
  rw [e3] at e2
  rw [e2] at e1
  rw [e1]
  unfold recBody
  rw [show t + dt - t = dt by omega, show o + dd - o = dd by omega]
  simp

theorem okBs_app {xs ys : List Int} (h : okBs (xs ++ ys) = true) : okBs xs = true ∧ okBs ys = true := by
  unfold okBs at h ⊢
  rw [List.all_append, Bool.and_eq_true] at h
  exact h
theorem fromR_eq {xs : List Int} (hok : okBs xs = true) {k : Nat} {o t : Int} (hb : baseOk o t = true) : fromR xs (k : Int) o t = rdRec xs k o t := by
  by_cases hk : k ≤ xs.length
  · by_cases hx : ∃ r, RecAt xs k o t r
    · obtain ⟨r, hr⟩ := hx
      rw [rdRec_at hb hk hr]
      obtain ⟨hrok, rest, hd⟩ := hr
      have hl := recBody_len (o := o) (t := t) hrok
      have e0 : xs.drop k = varB ((recBody r o t).length : Int) ++ (recBody r o t ++ rest) := by rw [hd]; simp [recBytes]
      have g1 := numR_app hok (by omega) (by omega) e0
      have hlen : (xs.drop k).length = (varB ((recBody r o t).length : Int)).length + ((recBody r o t).length + rest.length) := by rw [e0, List.length_append, List.length_append]
      rw [List.length_drop] at hlen
      have e1 : xs.drop (k + (varB ((recBody r o t).length : Int)).length) = recBody r o t ++ rest := by rw [← List.drop_drop, e0, List.drop_left]
      have g2 := takeR_app (by omega) e1
      have hob : okBs (recBody r o t) = true := by
        have h1 := okBs_drop hok k
        rw [e0] at h1
        exact (okBs_app (okBs_app h1).2).1
      have g3 := bodyR_app hrok hb hob
      unfold fromR
      simp only [g1, g2, g3]
      rw [if_neg (by simp), if_neg (by simp), if_neg (by omega), if_neg (by simp [hrok]), show (recBytes r o t).length = (varB ((recBody r o t).length : Int)).length + (recBody r o t).length by simp [recBytes], Nat.add_assoc]
    · rw [rdRec_no hb hk (fun r hr => hx ⟨r, hr⟩)]
      unfold fromR
      simp only
      obtain ⟨⟨n, a, f1⟩, hg1⟩ : ∃ g, numR xs k false = g := ⟨_, rfl⟩
      rw [hg1]
      simp only
      obtain ⟨⟨bs, b, f2⟩, hg2⟩ : ∃ g, takeR xs a f1 n = g := ⟨_, rfl⟩
      rw [hg2]
      simp only
      obtain ⟨⟨r, c, f3⟩, hg3⟩ : ∃ g, bodyR bs 0 false o t = g := ⟨_, rfl⟩
      rw [hg3]
      simp only
      split
      · rfl
      split
      · rfl
      split
      · rfl
      split
      · rfl
      · rename_i hf2 hf3 hc hrok
        exfalso
        obtain rfl : f2 = false := by simpa using hf2
        obtain rfl : f3 = false := by simpa using hf3
        have hf1 : f1 = false := by
          cases f1 with
          | false => rfl
          | true => exact absurd hg2 (by simp [takeR])
        subst hf1
        obtain ⟨_, b1, b2, rfl, e1, l1⟩ := numR_yes hok hg1
        obtain ⟨_, j, rfl, c1, c2, c3, c4⟩ := takeR_yes hg2
        have hbs : okBs bs = true := by rw [c1]; exact okBs_take (okBs_drop hok _) _
        have hbody := bodyR_yes hbs hg3 hc
        refine hx ⟨r, by simpa using hrok, xs.drop (k + (varB (j : Int)).length + j), ?_⟩
        unfold recBytes
        rw [← hbody, c2, List.append_assoc, ← List.drop_drop (i := j), c1, List.take_append_drop]
        exact e1
  · have e : numR xs (k : Int) false = (0, (k : Int), true) := by
      unfold numR
      rw [if_neg (by simp), rdV_nat hok]
      have : rdVar xs k = (0, 0, false) := by
        unfold rdVar
        rw [List.drop_eq_nil_of_le (by omega)]
        exact rdR_no rfl
      rw [this]
      rfl
    rw [rdRec_end (by omega)]
    unfold fromR
    simp only [e, takeR_f]
    rw [if_pos trivial]
theorem numR_range {xs : List Int} (hok : okBs xs = true) (k : Int) (f : Bool) : -1000000 ≤ (numR xs k f).1 ∧ (numR xs k f).1 ≤ 1000000 ∧ (k ≤ (numR xs k f).2.1) ∧ ((numR xs k f).2.1 = k ∨ (numR xs k f).2.1 ≤ xs.length) := by
  cases f with
  | true => rw [numR_f]; exact ⟨by simp, by simp, by simp, .inl rfl⟩
  | false =>
    by_cases hk : k < 0
    · have : numR xs k false = (0, k, true) := by unfold numR; rw [if_neg (by simp), rdV_neg hk]; rfl
      rw [this]
      exact ⟨by simp, by simp, by simp, .inl rfl⟩
    · obtain ⟨k, rfl⟩ := Int.eq_ofNat_of_zero_le (Int.not_lt.1 hk)
      obtain ⟨⟨n, nx, b⟩, hg⟩ : ∃ g, numR xs k false = g := ⟨_, rfl⟩
      rw [hg]
      cases b with
      | false =>
        obtain ⟨_, a1, a2, rfl, _, a5⟩ := numR_yes hok hg
        exact ⟨a1, a2, by simp only; omega, .inr (by simp only; omega)⟩
      | true =>
        unfold numR at hg
        rw [if_neg (by simp)] at hg
        split at hg
        · simp at hg
        · simp only [Prod.mk.injEq, and_true] at hg
          obtain ⟨rfl, rfl⟩ := hg
          exact ⟨by simp, by simp, by simp, .inl rfl⟩
theorem takeR_range (xs : List Int) (k : Int) (f : Bool) (m : Int) : k ≤ (takeR xs k f m).2.1 ∧ ((takeR xs k f m).2.1 = k ∨ (takeR xs k f m).2.1 ≤ xs.length) := by
  unfold takeR
  split
  · exact ⟨by simp, .inl rfl⟩
  split
  · exact ⟨by simp, .inl rfl⟩
  split
  · exact ⟨by simp, .inl rfl⟩
  split
  · exact ⟨by simp, .inl rfl⟩
  · exact ⟨by simp only; omega, .inr (by simp only; omega)⟩
-- P3d

theorem okBs_append {xs ys : List Int} (h : okBs xs = true) (g : okBs ys = true) : okBs (xs ++ ys) = true := by
  unfold okBs at h g ⊢
  rw [List.all_append, h, g]
  rfl
theorem putP_ok {h : Bool} {ys : List Int} (hp : partOk h ys = true) : okBs (putP h ys) = true := by
  obtain ⟨_, h2, h3⟩ := partOk_iff.1 hp
  unfold putP
  split
  · exact okBs_append (varB_ok (by omega) (by omega)) h2
  · exact varB_ok (by omega) (by omega)
theorem recBody_ok {r : Rec} {o t : Int} (hr : recOk r = true) (hb : baseOk o t = true) : okBs (recBody r o t) = true := by
  obtain ⟨⟨o0, o1⟩, t0, t1⟩ := baseOk_iff.1 hb
  obtain ⟨⟨r0, r1⟩, ⟨q0, q1⟩, pk, pv⟩ := recOk_iff.1 hr
  exact okBs_append (okBs_append (okBs_append (varB_ok (by omega) (by omega)) (varB_ok (by omega) (by omega))) (putP_ok pk)) (putP_ok pv)
theorem recBytes_ok {r : Rec} {o t : Int} (hr : recOk r = true) (hb : baseOk o t = true) : okBs (recBytes r o t) = true := by
  have hl := recBody_len (o := o) (t := t) hr
  exact okBs_append (varB_ok (by omega) (by omega)) (recBody_ok hr hb)
theorem rdRecI_bytes {r : Rec} {o t : Int} (hr : recOk r = true) (hb : baseOk o t = true) : rdRecI (recBytes r o t) 0 o t = (r, ((recBytes r o t).length : Int), true) := by
  have h := rdRec_at (xs := recBytes r o t) (k := 0) hb (Nat.zero_le _) ⟨hr, [], by simp⟩
  have := rdRecI_at (k := 0) (recBytes_ok hr hb) hb
  rw [h, Nat.zero_add] at this
  exact this
theorem varB_small {n : Int} (h0 : -64 ≤ n) (h1 : n ≤ 63) : (varB n).length = 1 := by
  rw [varB_in (by omega) (by omega)]
  have : 0 ≤ foldP n ∧ foldP n < 128 := by unfold foldP; split <;> omega
  unfold varF
  rw [if_pos (by omega)]
  rfl
theorem putP_len2 {h : Bool} {ys : List Int} (hl : ys.length ≤ 12) : (putP h ys).length ≤ 13 := by
  unfold putP
  split
  · rw [List.length_append, varB_small (by omega) (by omega)]; omega
  · rw [varB_small (by omega) (by omega)]; omega
theorem recBody_len2 {r : Rec} {o t : Int} (h : recOk r = true) : (recBody r o t).length ≤ 32 := by
  obtain ⟨_, _, hk, hv⟩ := recOk_iff.1 h
  have h1 := varB_len (r.time - t)
  have h2 := varB_len (r.off - o)
  have h3 := putP_len2 (h := r.hk) (partOk_iff.1 hk).2.2
  have h4 := putP_len2 (h := r.hv) (partOk_iff.1 hv).2.2
  unfold recBody
  simp only [List.length_append]
  omega
theorem recBytes_head {r : Rec} {o t : Int} (hr : recOk r = true) (hb : baseOk o t = true) : rdV (recBytes r o t) 0 = (((recBody r o t).length : Int), 1, true) ∧ (recBytes r o t).length = (recBody r o t).length + 1 ∧ (recBody r o t).length ≤ 32 := by
  have hl := recBody_len2 (o := o) (t := t) hr
  have h1 := varB_small (n := ((recBody r o t).length : Int)) (by omega) (by omega)
  have h2 := rdVar_app (xs := recBytes r o t) (k := 0) (n := ((recBody r o t).length : Int)) (rest := recBody r o t) (by omega) (by omega) (by rw [List.drop_zero]; rfl)
  have h3 := rdV_at (xs := recBytes r o t) 0 (recBytes_ok hr hb)
  refine ⟨?_, by unfold recBytes; rw [List.length_append, h1]; omega, hl⟩
  rw [h1] at h2
  exact h3.trans h2
theorem recBytes_shift (off time : Int) (hk : Bool) (key : List Int) (hv : Bool) (val : List Int) (o t : Int) : recBytes ⟨off + 1, time, hk, key, hv, val⟩ (o + 1) t = recBytes ⟨off, time, hk, key, hv, val⟩ o t := by
  have e : recBody ⟨off + 1, time, hk, key, hv, val⟩ (o + 1) t = recBody ⟨off, time, hk, key, hv, val⟩ o t := by
    unfold recBody
    simp only
    rw [show off + 1 - (o + 1) = off - o by omega]
  unfold recBytes
  rw [e]
theorem recBytes_missing (off time : Int) (hv : Bool) (val : List Int) (o t : Int) :
    (recBytes ⟨off, time, true, [], hv, val⟩ o t == recBytes ⟨off, time, false, [], hv, val⟩ o t) = false ∧ (recBytes ⟨off, time, true, [], hv, val⟩ o t).length = (recBytes ⟨off, time, false, [], hv, val⟩ o t).length := by
  have e1 : putP true [] = [0] := by decide
  have e2 : putP false [] = [1] := by decide
  have hl : (recBody ⟨off, time, true, [], hv, val⟩ o t).length = (recBody ⟨off, time, false, [], hv, val⟩ o t).length := by
    unfold recBody
    simp only [e1, e2, List.length_append, List.length_cons, List.length_nil]
  refine ⟨?_, by unfold recBytes; rw [hl, List.length_append, List.length_append, hl]⟩
  rw [beq_eq_false_iff_ne]
  intro h
  unfold recBytes at h
  rw [hl] at h
  have h2 := List.append_cancel_left h
  unfold recBody at h2
  simp only [e1, e2, List.append_assoc] at h2
  have h3 := List.append_cancel_left (List.append_cancel_left h2)
  simp at h3
/-- a part of a record is none -/
theorem rdRec_torn {xs : List Int} (hok : okBs xs = true) {k : Nat} {o t nx : Int} {r : Rec} (hb : baseOk o t = true) (h : rdRecI xs (k : Int) o t = (r, nx, true)) :
    rdRecI (xs.take (nx - 1).toNat) (k : Int) o t = (Rec.zero, 0, false) ∧ (k : Int) < nx ∧ nx ≤ xs.length ∧ recOk r = true ∧ recBytes r o t = (xs.drop k).take (nx.toNat - k) := by
  rw [rdRecI_at hok hb] at h
  have hk : k ≤ xs.length := by
    rcases Nat.lt_or_ge xs.length k with hlt | hge
    · rw [rdRec_end (by omega)] at h; simp at h
    · exact hge
  obtain ⟨hat, hnx, hle⟩ := rdRec_yes hb hk h
  obtain ⟨hr, rest, hd⟩ := hat
  have hpos : 1 ≤ (recBytes r o t).length := by
    have := varB_pos (n := ((recBody r o t).length : Int)) (by omega) (by have := recBody_len (o := o) (t := t) hr; omega)
    unfold recBytes
    rw [List.length_append]
    omega
  refine ⟨?_, by omega, by omega, hr, ?_⟩
  · rw [rdRecI_at (okBs_take hok _) hb]
    have hlen : (xs.take (nx - 1).toNat).length = k + (recBytes r o t).length - 1 := by rw [List.length_take]; omega
    refine rdRec_no hb (by omega) fun s hs => ?_
    obtain ⟨hs1, rest2, hs2⟩ := hs
    have hat2 : RecAt xs k o t s := by
      refine ⟨hs1, rest2 ++ xs.drop (nx - 1).toNat, ?_⟩
      rw [← List.append_assoc, ← hs2, ← List.take_append_drop (nx - 1).toNat xs]
      rw [List.take_append_drop]
      conv => lhs; rw [← List.take_append_drop (nx - 1).toNat xs]
      rw [List.drop_append_of_le_length (by omega)]
    have hsr := recAt_inj hb hk hat2 ⟨hr, rest, hd⟩
    have hl2 : ((xs.take (nx - 1).toNat).drop k).length = (recBytes s o t).length + rest2.length := by rw [hs2, List.length_append]
    rw [List.length_drop, hlen, hsr] at hl2
    omega
  · rw [hd, hnx, Int.toNat_natCast, Nat.add_sub_cancel_left, List.take_left]
end Go.Proofs.Ytfapeppocfodpaa
