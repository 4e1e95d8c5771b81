/- Chapter 11: a message is read, by the model. -/
import Derived.Test.YthlboonobepdaaaWX11
import Derived.Test.YthlboonobepdaaaW3d
import Derived.Test.YthlboonobepdaaaW2b
import Derived.Test.YthlboonobepdaaaB1
namespace Go.Proofs.Ythlboonobepdaaa
open Go.ChangeShapes Go.WideShapes Go.ChangeAt Go.RowKit
set_option linter.unusedVariables false

/-- a part, the place behind it, and whether there is one -/
def GetO (w : World) (g : Bool × List Int × Nat × Bool) (e : Ending) (w' : World) : Prop := ∃ u, e = .returned (.tuple #[.bool g.1, u, .int .i64 (g.2.2.1 : Int), .bool g.2.2.2]) ∧ Own w' w.heap.size u g.2.1 ∧ Below w.heap.size w w'
theorem getO_in {xs : List Int} (hok : okBs xs = true) (c : Nat) : ∃ h ys d p, getO xs c = (h, ys, d, p) ∧ d ≤ xs.length ∧ ys.length ≤ 255 := by
  unfold getO
  split
  · exact ⟨_, _, _, _, rfl, by omega, by simp⟩
  · rename_i hc
    have hx := okBs_at hok c (by omega)
    split
    · exact ⟨_, _, _, _, rfl, by omega, by simp⟩
    split
    · exact ⟨_, _, _, _, rfl, by omega, by simp⟩
    · refine ⟨_, _, _, _, rfl, by omega, ?_⟩
      rw [List.length_take]
      omega
set_option maxHeartbeats 1000000 in
theorem spec_l11Get (v : Value) (xs : List Int) (c : Nat) (w : World) (h : Ints w v xs) (hok : okBs xs = true) (hc1 : c ≤ 1000000000000) (hs : xs.length ≤ 1000000000000) :
    Calls Try.prog 43 #[v, .int .i64 (c : Int)] w (GetO w (getO xs c)) := by
  have hv := h
  obtain ⟨a, cap, rfl, hl, hm, hc⟩ := h
  unfold maxLen at hm
  have ownE := own_empty w w.heap.size (Nat.le_refl _)
  have belE := alloc_below' w (.cells #[] 3)
  unfold getO
  by_cases h0 : xs.length ≤ c
  · rw [if_pos h0]
    have d0 : decide ((xs.length : Int) ≤ (c : Int)) = true := decide_eq_true (by omega)
    have d0n : decide (xs.length ≤ c) = true := decide_eq_true h0
    clear hc
    go_enter Try.func43, Try.ntmps43
    go_wp2_with fail
    all_goals go_returns
    all_goals exact ⟨_, rfl, ownE, belE⟩
  rw [if_neg h0]
  have d0 : decide ((xs.length : Int) ≤ (c : Int)) = false := decide_eq_false (by omega)
  have d0n : decide (xs.length ≤ c) = false := decide_eq_false h0
  have hx := okBs_at hok c (by omega)
  obtain ⟨b, off, rfl, hcell⟩ := hc (by omega)
  have c0 := hcell c (by omega)
  obtain ⟨x, ex⟩ : ∃ x, xs.getD c 0 = x := ⟨_, rfl⟩
  rw [ex] at c0 hx ⊢
  have i0 : (0 : Int) ≤ (c : Int) := by omega
  have i1 : (c : Int) < (xs.length : Int) := by omega
  clear hcell hc ex
  by_cases h1 : x = 255
  · rw [if_pos h1]
    have e1 : (x == 255) = true := by rw [beq_iff_eq]; exact h1
    clear h1
    go_enter Try.func43, Try.ntmps43
    go_wp2_with fail
    all_goals go_returns
    all_goals exact ⟨_, by simp, ownE, belE⟩
  rw [if_neg h1]
  have e1 : (x == 255) = false := by rw [beq_eq_false_iff_ne]; exact h1
  clear h1
  by_cases h2 : (xs.length : Int) < (c : Int) + 1 + x
  · rw [if_pos h2]
    have d2 : decide ((xs.length : Int) < (c : Int) + 1 + x) = true := decide_eq_true h2
    clear h2
    go_enter Try.func43, Try.ntmps43
    go_wp2_with fail
    all_goals go_returns
    all_goals exact ⟨_, rfl, ownE, belE⟩
  rw [if_neg h2]
  have d2 : decide ((xs.length : Int) < (c : Int) + 1 + x) = false := decide_eq_false h2
  obtain ⟨m, rfl⟩ := Int.eq_ofNat_of_zero_le hx.1
  rw [Int.toNat_natCast]
  obtain ⟨u, hu, iu⟩ := run_part hv (c + 1) m (by omega)
  have hs1 : ∀ W, (Instr.slice 23 (.slice (some ⟨b, off, none⟩) xs.length cap) (some (.int .i64 ((c : Int) + 1))) (some (.int .i64 ((c : Int) + 1 + (m : Int)))) none).run Try.prog W = .ok u W := fun W => by
    have := hu W
    rwa [show (((c + 1 : Nat)) : Int) = (c : Int) + 1 by omega] at this
  have iu1 := iu _ (hv.below belE)
  have hyl : ([] : List Int).length + ((xs.drop (c + 1)).take m).length < 10000000000 := by rw [List.length_take]; simp; omega
  obtain ⟨ys, hys⟩ : ∃ ys, (xs.drop (c + 1)).take m = ys := ⟨_, rfl⟩
  rw [hys] at iu1 hyl ⊢
  have hsz : w.heap.size ≤ (w.alloc (.cells #[] 3)).heap.size := belE.size
  have HD : Hid ((((c + 1 + m : Nat)) : Int) = (c : Int) + 1 + (m : Int)) := Lib.hid (by omega)
  clear hu iu hys h2 hv
  go_enter Try.func43, Try.ntmps43
  go_wp2_with (at_builtin; refine wp_appI rfl _ _ rfl w.heap.size (.slice (some ⟨w.heap.size, 0, none⟩) 0 0) u [] ys rfl rfl ownE iu1 hyl hsz ?_; intro v9 w9 own9 g9)
  all_goals go_returns
  all_goals exact ⟨_, by rw [HD.out], own9, belE.grown g9 belE.size ownE.lt⟩
end Go.Proofs.Ythlboonobepdaaa
