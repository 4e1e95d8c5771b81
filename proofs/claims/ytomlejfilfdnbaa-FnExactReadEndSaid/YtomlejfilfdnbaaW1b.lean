import Derived.Test.YtomlejfilfdnbaaW1
import Derived.Test.YtomlejfilfdnbaaA0
namespace Go.Proofs.Ytomlejfilfdnbaa
open Go.ChangeShapes Go.WideShapes Go.ChangeAt Go.RowKit
set_option linter.unusedVariables false

theorem spec_l1Bytes (n : Int) (w : World) (h1 : -1000000 ≤ n) (h2 : n ≤ 1000000) :
    Calls Try.prog 55 #[.int .i64 n] w (NewInts1 w (varF 2 (foldP n))) := by
  have hf := foldP_range h1 h2
  have hV := VR.start hf.1 hf.2
  have hfold := spec_l1Fold n w h1 h2
  obtain ⟨x, hx⟩ : ∃ x, foldP n = x := ⟨_, rfl⟩
  rw [hx] at hf hV hfold ⊢
  obtain ⟨hf1, hf2⟩ := hf
  have h0 : Own (w.alloc (.cells #[] 3)) w.heap.size (.slice (some ⟨w.heap.size, 0, none⟩) 0 0) [] := own_empty w _ (Nat.le_refl _)
  have Hfold := Lib.hid hfold
  clear hfold hx
  go_enter Try.func55, Try.ntmps55
  go_wp2_with (go_at_call 65; refine Hfold.out.mono ?_; rintro e w' ⟨rfl, rfl⟩)
  go_loopw [3, 4] (fun y v wr => ∃ (y' : Int) (pre : List Int), y = .int .i64 y' ∧ VR x pre y' ∧ Own wr w.heap.size v pre ∧ Below w.heap.size w wr) (fun y _ _ => (intOf y).toNat)
  case atStart => exact ⟨x, [], rfl, hV, h0, (Below.refl _ _).alloc (Nat.le_refl _) _⟩
  case round =>
    obtain ⟨y, pre, rfl, hR, hown, hbel⟩ := hrel
    obtain ⟨hb0, hb1, hb2⟩ := hR.bound
    have hsz := hbel.size
    by_cases hy : 127 < y
    · have hR' := hR.step (by omega)
      go_wp2_with (at_builtin; refine wp_app1 rfl _ _ rfl w.heap.size u4 pre _ rfl rfl hown (by omega) hsz ?_; intro v' w1 hown1 hgrow1 hv1)
      go_roundw
      case rel => exact ⟨y / 128, _, rfl, hR', hown1, hbel.grown hgrow1 hsz hown.lt⟩
      case measure => simp [intOf]; omega
    · have hR' := hR.stop (by omega)
      go_wp2_with (at_builtin; refine wp_app1 rfl _ _ rfl w.heap.size u4 pre _ rfl rfl hown (by omega) hsz ?_; intro v' w1 hown1 hgrow1 hv1)
      go_ret
      rw [hR'] at hown1
      exact ⟨_, rfl, hown1, hbel.grown hgrow1 hsz hown.lt⟩

theorem impl_VarBytes (n : Int) (w : World) (hn : I64 n) :
    Calls Try.prog 73 #[.int .i64 n] w (NewInts w (varB n) (inV n)) := by
  have hfold := impl_FoldNumber n w hn
  by_cases hin : -1000000 ≤ n ∧ n ≤ 1000000
  · have hf := foldP_range hin.1 hin.2
    have hV := VR.start hf.1 hf.2
    rw [foldN_in (by omega) (by omega)] at hfold
    have e1 : inV n = true := by unfold inV; simp [hin]
    rw [e1, varB_in (by omega) (by omega)]
    obtain ⟨x, hx⟩ : ∃ x, foldP n = x := ⟨_, rfl⟩
    rw [hx] at hf hV hfold ⊢
    obtain ⟨hf1, hf2⟩ := hf
    have Hfold := Lib.hid hfold
    clear hfold hx e1 hin
    go_enter Try.func73, Try.ntmps73
    go_wp2_with (first | (go_at_call 78; refine Hfold.out.mono ?_; rintro e w' ⟨rfl, rfl⟩) | (at_make; refine wp_make0 rfl _ _ rfl w.heap.size _ 3 rfl rfl rfl (by omega) (Nat.le_refl _) ?_; intro w0 hown0 hgrow0))
    have hb0 : Below w.heap.size w w0 := (Below.refl _ _).grown hgrow0 (Nat.le_refl _) (fun k hk => by cases hk)
    go_loopw [4, 5] (fun y v wr => ∃ (y' : Int) (pre : List Int), y = .int .i64 y' ∧ VR x pre y' ∧ Own wr w.heap.size v pre ∧ Below w.heap.size w wr) (fun y _ _ => (intOf y).toNat)
    case atStart => exact ⟨x, [], rfl, hV, hown0, hb0⟩
    case round =>
      obtain ⟨y, pre, rfl, hR, hown, hbel⟩ := hrel
      obtain ⟨hb0, hb1, hb2⟩ := hR.bound
      have hsz := hbel.size
      have ha : bits .and .i64 y 127 = y % 128 := and127 y (by omega) (by omega)
      have ho : bits .or .i64 (y % 128) 128 = 128 + y % 128 := by
        rw [or_small 7 (y % 128) 128 (by decide) (by omega) (by omega) (by omega) (by omega) (by decide)]; omega
      by_cases hy : 128 ≤ y
      · have hR' := hR.step (by omega)
        go_wp2_with (at_builtin; refine wp_app1 rfl _ _ rfl w.heap.size u5 pre _ rfl rfl hown (by omega) hsz ?_; intro v' w1 hown1 hgrow1 hv1)
        go_roundw
        case rel => exact ⟨y / 128, _, rfl, hR', hown1, hbel.grown hgrow1 hsz hown.lt⟩
        case measure => simp [intOf]; omega
      · have hR' := hR.stop (by omega)
        go_wp2_with (at_builtin; refine wp_app1 rfl _ _ rfl w.heap.size u5 pre _ rfl rfl hown (by omega) hsz ?_; intro v' w1 hown1 hgrow1 hv1)
        go_ret2
        rw [hR'] at hown1
        exact ⟨_, rfl, hown1, hbel.grown hgrow1 hsz hown.lt⟩
  · have e1 : inV n = false := by unfold inV; simp; omega
    have e2 : varB n = [] := by
      by_cases h : n < -1000000
      · exact varB_lo h
      · exact varB_hi h (by omega)
    have e3 : foldN n = -1 := by
      by_cases h : n < -1000000
      · exact foldN_lo h
      · exact foldN_hi h (by omega)
    rw [e3] at hfold
    rw [e1, e2]
    have Hfold := Lib.hid hfold
    clear hfold e1 e2 e3 hin
    go_enter Try.func73, Try.ntmps73
    go_wp2_with (first | (go_at_call 78; refine Hfold.out.mono ?_; rintro e w' ⟨rfl, rfl⟩))
    go_ret2
    exact ⟨_, rfl, own_nil _ _, Below.refl _ _⟩

def varS (n : Int) : Int := if inV n = true then ((varB n).length : Int) else -1
theorem varS_no {n : Int} (h : inV n = false) : varS n = -1 := by unfold varS; rw [h]; rfl
theorem varS_yes {n : Int} (h : inV n = true) : varS n = ((varB n).length : Int) := by unfold varS; rw [if_pos h]

end Go.Proofs.Ytomlejfilfdnbaa
