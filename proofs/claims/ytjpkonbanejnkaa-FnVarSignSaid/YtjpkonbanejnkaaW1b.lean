import Derived.Test.YtjpkonbanejnkaaW1
import Derived.Test.YtjpkonbanejnkaaL0
namespace Go.Proofs.Ytjpkonbanejnkaa
open Go.ChangeShapes Go.WideShapes Go.ChangeAt Go.RowKit
set_option linter.unusedVariables false

def FirstOk (xs : List Int) (k : Nat) : Prop := ∀ i, i < k → 0 ≤ xs.getD i 0 ∧ xs.getD i 0 ≤ 255
theorem FirstOk.snoc {xs : List Int} {k : Nat} {x : Int} (h : FirstOk xs k) (hx : xs.getD k 0 = x) (h0 : ¬ x < 0) (h1 : ¬ 255 < x) : FirstOk xs (k + 1) := fun i hi => by
  by_cases e : i = k
  · subst e; omega
  · exact h i (by omega)

theorem impl_areBytes (v : Value) (xs : List Int) (w : World) (h : Ints w v xs) :
    Calls Try.prog 44 #[v] w fun e w' => e = .returned (.bool (okBs xs)) ∧ w = w' := by
  obtain ⟨a, cap, rfl, hl, hm, hc⟩ := h
  unfold maxLen at hm
  go_enter Try.func44, Try.ntmps44
  go_wp2
  go_loop [7] (fun i => ∃ k : Nat, k ≤ xs.length ∧ i = .int .i64 k ∧ FirstOk xs k) (fun i => xs.length - (intOf i).toNat)
  case atStart => exact ⟨0, Nat.zero_le _, rfl, fun i hi => by omega⟩
  case round =>
    obtain ⟨k, hk, rfl, hrel⟩ := hrel
    by_cases hlt : k < xs.length
    · obtain ⟨b, off, rfl, hcell⟩ := hc (by omega)
      have hx := hcell k hlt
      clear hcell
      obtain ⟨x, ex⟩ : ∃ x, xs.getD k 0 = x := ⟨_, rfl⟩
      rw [ex] at hx
      have Hx := Lib.hid ex
      clear ex
      by_cases h0 : x < 0
      · go_wp2
        go_ret
        exact ⟨ret_bool (okBs_false hlt Hx.out (by omega)).symm, rfl⟩
      · by_cases h1 : 255 < x
        · go_wp2
          go_ret
          exact ⟨ret_bool (okBs_false hlt Hx.out (by omega)).symm, rfl⟩
        · have H1 := hrel.snoc Hx.out h0 h1
          go_wp2
          go_round
          case rel => exact ⟨k + 1, by omega, by go_num, H1⟩
          case measure => simp [intOf]; omega
    · go_wp2
      go_ret
      exact ⟨ret_bool (okBs_true fun i hi => hrel i (by omega)).symm, rfl⟩

theorem spec_l1Ok (v : Value) (xs : List Int) (w : World) (h : Ints w v xs) :
    Calls Try.prog 46 #[v] w fun e w' => e = .returned (.bool (okBs xs)) ∧ w = w' := by
  obtain ⟨a, cap, rfl, hl, hm, hc⟩ := h
  unfold maxLen at hm
  go_enter Try.func46, Try.ntmps46
  go_wp2
  go_loop [3] (fun i => ∃ k : Nat, k ≤ xs.length ∧ i = .int .i64 k ∧ FirstOk xs k) (fun i => xs.length - (intOf i).toNat)
  case atStart => exact ⟨0, Nat.zero_le _, rfl, fun i hi => by omega⟩
  case round =>
    obtain ⟨k, hk, rfl, hrel⟩ := hrel
    by_cases hlt : k < xs.length
    · obtain ⟨b, off, rfl, hcell⟩ := hc (by omega)
      have hx := hcell k hlt
      clear hcell
      obtain ⟨x, ex⟩ : ∃ x, xs.getD k 0 = x := ⟨_, rfl⟩
      rw [ex] at hx
      have Hx := Lib.hid ex
      clear ex
      by_cases h0 : x < 0
      · have d0 : decide (0 ≤ x) = false := decide_eq_false (by omega)
        go_wp2
        go_ret
        exact ⟨ret_bool (okBs_false hlt Hx.out (by omega)).symm, rfl⟩
      · have d0 : decide (0 ≤ x) = true := decide_eq_true (by omega)
        by_cases h1 : 255 < x
        · have d1 : decide (x ≤ 255) = false := decide_eq_false (by omega)
          go_wp2
          go_ret
          exact ⟨ret_bool (okBs_false hlt Hx.out (by omega)).symm, rfl⟩
        · have d1 : decide (x ≤ 255) = true := decide_eq_true (by omega)
          have H1 := hrel.snoc Hx.out h0 h1
          go_wp2
          go_round
          case rel => exact ⟨k + 1, by omega, by go_num, H1⟩
          case measure => simp [intOf]; omega
    · go_wp2
      go_ret
      exact ⟨ret_bool (okBs_true fun i hi => hrel i (by omega)).symm, rfl⟩

theorem spec_l1Bytes (n : Int) (w : World) (h1 : -1000000 ≤ n) (h2 : n ≤ 1000000) :
    Calls Try.prog 43 #[.int .i64 n] w (NewInts1 w (varF 2 (foldP n))) := by
  have hf := foldP_range h1 h2
  have hV := VR.start hf.1 hf.2
  have hfold := spec_l1Fold n w h1 h2
  obtain ⟨x, hx⟩ : ∃ x, foldP n = x := ⟨_, rfl⟩
  rw [hx] at hf hV hfold ⊢
  obtain ⟨hf1, hf2⟩ := hf
  have h0 : Own (w.alloc (.cells #[] 3)) w.heap.size (.slice (some ⟨w.heap.size, 0, none⟩) 0 0) [] := own_empty w _ (Nat.le_refl _)
  have Hfold := Lib.hid hfold
  clear hfold hx
  go_enter Try.func43, Try.ntmps43
  go_wp2_with (go_at_call 40; refine Hfold.out.mono ?_; rintro e w' ⟨rfl, rfl⟩)
  go_loopw [3, 4] (fun y v wr => ∃ (y' : Int) (pre : List Int), y = .int .i64 y' ∧ VR x pre y' ∧ Own wr w.heap.size v pre ∧ Below w.heap.size w wr) (fun y _ _ => (intOf y).toNat)
  case atStart => exact ⟨x, [], rfl, hV, h0, (Below.refl _ _).alloc (Nat.le_refl _) _⟩
  case round =>
    obtain ⟨y, pre, rfl, hR, hown, hbel⟩ := hrel
    obtain ⟨hb0, hb1, hb2⟩ := hR.bound
    have hsz := hbel.size
    by_cases hy : 127 < y
    · have hR' := hR.step (by omega)
      go_wp2_with (at_builtin; refine wp_app1 rfl _ _ rfl w.heap.size u4 pre _ rfl rfl hown (by omega) hsz ?_; intro v' w1 hown1 hgrow1 hv1)
      go_roundw
      case rel => exact ⟨y / 128, _, rfl, hR', hown1, hbel.grown hgrow1 hsz hown.lt⟩
      case measure => simp [intOf]; omega
    · have hR' := hR.stop (by omega)
      go_wp2_with (at_builtin; refine wp_app1 rfl _ _ rfl w.heap.size u4 pre _ rfl rfl hown (by omega) hsz ?_; intro v' w1 hown1 hgrow1 hv1)
      go_ret
      rw [hR'] at hown1
      exact ⟨_, rfl, hown1, hbel.grown hgrow1 hsz hown.lt⟩

theorem impl_VarBytes (n : Int) (w : World) (hn : I64 n) :
    Calls Try.prog 24 #[.int .i64 n] w (NewInts w (varB n) (inV n)) := by
  have hfold := impl_FoldNumber n w hn
  by_cases hin : -1000000 ≤ n ∧ n ≤ 1000000
  · have hf := foldP_range hin.1 hin.2
    have hV := VR.start hf.1 hf.2
    rw [foldN_in (by omega) (by omega)] at hfold
    have e1 : inV n = true := by unfold inV; simp [hin]
    rw [e1, varB_in (by omega) (by omega)]
    obtain ⟨x, hx⟩ : ∃ x, foldP n = x := ⟨_, rfl⟩
    rw [hx] at hf hV hfold ⊢
    obtain ⟨hf1, hf2⟩ := hf
    have Hfold := Lib.hid hfold
    clear hfold hx e1 hin
    go_enter Try.func24, Try.ntmps24
    go_wp2_with (first | (go_at_call 18; refine Hfold.out.mono ?_; rintro e w' ⟨rfl, rfl⟩) | (at_make; refine wp_make0 rfl _ _ rfl w.heap.size _ 3 rfl rfl rfl (by omega) (Nat.le_refl _) ?_; intro w0 hown0 hgrow0))
    have hb0 : Below w.heap.size w w0 := (Below.refl _ _).grown hgrow0 (Nat.le_refl _) (fun k hk => by cases hk)
    go_loopw [4, 5] (fun y v wr => ∃ (y' : Int) (pre : List Int), y = .int .i64 y' ∧ VR x pre y' ∧ Own wr w.heap.size v pre ∧ Below w.heap.size w wr) (fun y _ _ => (intOf y).toNat)
    case atStart => exact ⟨x, [], rfl, hV, hown0, hb0⟩
    case round =>
      obtain ⟨y, pre, rfl, hR, hown, hbel⟩ := hrel
      obtain ⟨hb0, hb1, hb2⟩ := hR.bound
      have hsz := hbel.size
      have ha : bits .and .i64 y 127 = y % 128 := and127 y (by omega) (by omega)
      have ho : bits .or .i64 (y % 128) 128 = 128 + y % 128 := by
        rw [or_small 7 (y % 128) 128 (by decide) (by omega) (by omega) (by omega) (by omega) (by decide)]; omega
      by_cases hy : 128 ≤ y
      · have hR' := hR.step (by omega)
        go_wp2_with (at_builtin; refine wp_app1 rfl _ _ rfl w.heap.size u5 pre _ rfl rfl hown (by omega) hsz ?_; intro v' w1 hown1 hgrow1 hv1)
        go_roundw
        case rel => exact ⟨y / 128, _, rfl, hR', hown1, hbel.grown hgrow1 hsz hown.lt⟩
        case measure => simp [intOf]; omega
      · have hR' := hR.stop (by omega)
        go_wp2_with (at_builtin; refine wp_app1 rfl _ _ rfl w.heap.size u5 pre _ rfl rfl hown (by omega) hsz ?_; intro v' w1 hown1 hgrow1 hv1)
        go_ret2
        rw [hR'] at hown1
        exact ⟨_, rfl, hown1, hbel.grown hgrow1 hsz hown.lt⟩
  · have e1 : inV n = false := by unfold inV; simp; omega
    have e2 : varB n = [] := by
      by_cases h : n < -1000000
      · exact varB_lo h
      · exact varB_hi h (by omega)
    have e3 : foldN n = -1 := by
      by_cases h : n < -1000000
      · exact foldN_lo h
      · exact foldN_hi h (by omega)
    rw [e3] at hfold
    rw [e1, e2]
    have Hfold := Lib.hid hfold
    clear hfold e1 e2 e3 hin
    go_enter Try.func24, Try.ntmps24
    go_wp2_with (first | (go_at_call 18; refine Hfold.out.mono ?_; rintro e w' ⟨rfl, rfl⟩))
    go_ret2
    exact ⟨_, rfl, own_nil _ _, Below.refl _ _⟩

theorem spec_VarBytes (n : Int) (w : World) (hn : I64 n) :
    Calls Try.prog 25 #[.int .i64 n] w (NewInts w (varB n) (inV n)) := by
  obtain ⟨ha, hb⟩ := hn
  by_cases h1 : n < -1000000
  · have h3 : decide (-1000000 ≤ n) = false := decide_eq_false (by omega)
    have e1 : inV n = false := by unfold inV; simp; omega
    rw [e1, varB_lo h1]
    clear e1
    go_enter Try.func25, Try.ntmps25
    go_wp2
    go_ret2
    exact ⟨_, rfl, own_empty _ _ (Nat.le_refl _), (Below.refl _ _).alloc (Nat.le_refl _) _⟩
  · have h5 : decide (-1000000 ≤ n) = true := decide_eq_true (by omega)
    by_cases h2 : 1000000 < n
    · have h3 : decide (n ≤ 1000000) = false := decide_eq_false (by omega)
      have e1 : inV n = false := by unfold inV; simp; omega
      rw [e1, varB_hi h1 h2]
      clear e1
      go_enter Try.func25, Try.ntmps25
      go_wp2
      go_ret2
      exact ⟨_, rfl, own_empty _ _ (Nat.le_refl _), (Below.refl _ _).alloc (Nat.le_refl _) _⟩
    · have h3 : decide (n ≤ 1000000) = true := decide_eq_true (by omega)
      have e1 : inV n = true := by unfold inV; simp; omega
      have H := Lib.hid (spec_l1Bytes n w (by omega) (by omega))
      rw [e1, varB_in h1 h2]
      clear e1
      go_enter Try.func25, Try.ntmps25
      go_wp2_with (first | (go_at_call 43; refine H.out.mono ?_; rintro e w' ⟨v, rfl, hown, hbel⟩) | go_in)
      go_ret2
      exact ⟨_, rfl, hown, hbel⟩

def varS (n : Int) : Int := if inV n = true then ((varB n).length : Int) else -1
theorem varS_no {n : Int} (h : inV n = false) : varS n = -1 := by unfold varS; rw [h]; rfl
theorem varS_yes {n : Int} (h : inV n = true) : varS n = ((varB n).length : Int) := by unfold varS; rw [if_pos h]

theorem impl_VarSize (n : Int) (w : World) (hn : I64 n) :
    Calls Try.prog 31 #[.int .i64 n] w fun e w' => e = .returned (.int .i64 (varS n)) ∧ Below w.heap.size w w' := by
  have H := Lib.hid (impl_VarBytes n w hn)
  by_cases h : inV n = true
  · rw [varS_yes h]
    rw [h] at H
    have hl := varB_len n
    go_enter Try.func31, Try.ntmps31
    go_wp2_with (first | (go_at_call 24; refine H.out.mono ?_; rintro e w' ⟨v, rfl, hown, hbel⟩; obtain ⟨a, cap, rfl, hi⟩ := hown.ints))
    go_ret
    exact ⟨rfl, hbel⟩
  · have h' : inV n = false := by simpa using h
    rw [varS_no h']
    rw [h'] at H
    go_enter Try.func31, Try.ntmps31
    go_wp2_with (first | (go_at_call 24; refine H.out.mono ?_; rintro e w' ⟨v, rfl, hown, hbel⟩))
    go_ret
    exact ⟨rfl, hbel⟩

theorem spec_VarSize (n : Int) (w : World) (hn : I64 n) :
    Calls Try.prog 32 #[.int .i64 n] w fun e w' => e = .returned (.int .i64 (varS n)) ∧ Below w.heap.size w w' := by
  obtain ⟨ha, hb⟩ := hn
  by_cases h1 : n < -1000000
  · have h3 : decide (-1000000 ≤ n) = false := decide_eq_false (by omega)
    have e1 : inV n = false := by unfold inV; simp; omega
    rw [varS_no e1]
    clear e1
    go_enter Try.func32, Try.ntmps32
    go_wp2
    go_ret
    exact ⟨rfl, Below.refl _ _⟩
  · have h5 : decide (-1000000 ≤ n) = true := decide_eq_true (by omega)
    by_cases h2 : 1000000 < n
    · have h3 : decide (n ≤ 1000000) = false := decide_eq_false (by omega)
      have e1 : inV n = false := by unfold inV; simp; omega
      rw [varS_no e1]
      clear e1
      go_enter Try.func32, Try.ntmps32
      go_wp2
      go_ret
      exact ⟨rfl, Below.refl _ _⟩
    · have h3 : decide (n ≤ 1000000) = true := decide_eq_true (by omega)
      have e1 : inV n = true := by unfold inV; simp; omega
      have H := Lib.hid (spec_l1Bytes n w (by omega) (by omega))
      rw [varS_yes e1, varB_in h1 h2]
      have hl := (varF_len 2 (foldP n)).1
      clear e1
      go_enter Try.func32, Try.ntmps32
      go_wp2_with (first | (go_at_call 43; refine H.out.mono ?_; rintro e w' ⟨v, rfl, hown, hbel⟩; obtain ⟨a, cap, rfl, hi⟩ := hown.ints) | go_in)
      go_ret
      exact ⟨rfl, hbel⟩
end Go.Proofs.Ytjpkonbanejnkaa
