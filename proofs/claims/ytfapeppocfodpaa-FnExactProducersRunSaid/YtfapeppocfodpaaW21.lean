/- Chapter 21: producers by their numbers; whether a batch follows. -/
import Derived.Test.YtfapeppocfodpaaR21
import Derived.Test.YtfapeppocfodpaaW12
import Derived.Test.YtfapeppocfodpaaW5X
namespace Go.Proofs.Ytfapeppocfodpaa
open Go.ChangeShapes Go.WideShapes Go.ChangeAt Go.RowKit
set_option linter.unusedVariables false

/-- what is answered are the seats f, nothing of before has turned -/
def RollRes (w : World) (f : Nat → Seat) (e : Ending) (w' : World) : Prop := e = .returned (.agg (rollC f)) ∧ Below w.heap.size w w'
theorem seatsUp_put {ts : List Trm} {k : Nat} {x : Nat} (hx : (tAt ts k).num = (x : Int)) : seatsUp ts (k + 1) = seatPut (seatsUp ts k) x ⟨true, (tAt ts k).first, (tAt ts k).third⟩ := by
  funext i
  unfold seatPut
  show (if (i : Int) = (tAt ts k).num then _ else _) = _
  rw [hx]
  by_cases e : i = x
  · rw [if_pos (by omega), if_pos e]
  · rw [if_neg (by omega), if_neg e]
set_option maxHeartbeats 2000000 in
theorem impl_rollOf (v : Value) (ts : List Trm) (w : World) (h : Ts w v ts) (ok : tsOk ts = true) : Calls Try.prog 40 #[v] w (RollRes w (seatsOf ts)) := by
  have hv := h
  have hlen := (tsOk_iff.1 ok).1
  have HT : Hid (∀ k, k < ts.length → termOk (tAt ts k) = true) := Lib.hid fun k hk => tsOk_term ok hk
  obtain ⟨a, cap, rfl, hl, hm, hc⟩ := h
  unfold maxLen at hm
  clear hc ok
  have hz := roll_zero
  go_enter Try.func40, Try.ntmps40
  go_wp2_with fail
  obtain ⟨R0, hR0⟩ : ∃ R0, w.heap.size = R0 := ⟨_, rfl⟩
  have r0 := (Roll.made w fun _ => Seat.zero).below (alloc_below' _ (.cells (rollC fun _ => Seat.zero) 55))
  have r1 := Roll.made (w.alloc (.cells (rollC fun _ => Seat.zero) 55)) fun _ => Seat.zero
  have b1 := Bstep (alloc_below' w (.cells (rollC fun _ => Seat.zero) 55)) (alloc_below' _ (.cells (rollC fun _ => Seat.zero) 55))
  have es : (w.alloc (.cells (rollC fun _ => Seat.zero) 55)).heap.size = w.heap.size + 1 := by show (w.heap.push _).size = _; simp
  rw [es] at r1
  generalize hW : ((w.alloc (.cells (rollC fun _ => Seat.zero) 55)).alloc (.cells (rollC fun _ => Seat.zero) 55)) = w1 at r0 r1 b1 ⊢
  rw [hR0] at r0 r1 ⊢
  have HR0 := Lib.hid hR0
  clear hW es hR0 hz
  go_loopw [8] (fun i wr => ∃ k : Nat, k ≤ ts.length ∧ i = .int .i64 k ∧ Roll wr (R0 + 1) (seatsUp ts k) ∧ Roll wr R0 (fun _ => Seat.zero) ∧ Below w.heap.size w wr) (fun i _ => ts.length - (intOf i).toNat)
  case atStart => exact ⟨0, Nat.zero_le _, rfl, r1, r0, b1⟩
  case round =>
    clear r0 r1 b1
    obtain ⟨k, hk, rfl, r1, r0, bel⟩ := hrel
    by_cases hlt : k < ts.length
    · obtain ⟨b, off, cp, e, _, _, hcell⟩ := (hv.below bel).form (by omega)
      simp only [Value.slice.injEq, true_and] at e
      obtain ⟨rfl, rfl⟩ := e
      obtain ⟨c0, c1, c2⟩ := hcell k hlt
      have hT := termOk_fits (HT.out k hlt)
      obtain ⟨x, hx⟩ : ∃ x : Nat, (tAt ts k).num = (x : Int) := ⟨(tAt ts k).num.toNat, by omega⟩
      have hP := seatsUp_put hx
      rw [hx] at c0 hT
      obtain ⟨y, hy⟩ : ∃ y, (tAt ts k).first = y := ⟨_, rfl⟩
      obtain ⟨z, hz⟩ : ∃ z, (tAt ts k).third = z := ⟨_, rfl⟩
      rw [hy, hz] at hP
      have HP := Lib.hid hP
      rw [hy] at c1
      rw [hz] at c2
      have hx1 : x < 255 := by omega
      clear hx hy hz hT hcell hP
      go_upto_region 5 with (fail)
      have bX := alloc_below' wr (.cells #[.int .i64 (x : Int), .int .i64 y, .int .i64 z] 61)
      have xX := Blk.made wr #[.int .i64 (x : Int), .int .i64 y, .int .i64 z] 61
      have hXR := r1.lt
      have q1 := r1.below bX
      have q0 := r0.below bX
      have B2 := Bstep bel bX
      generalize wr.alloc (.cells #[.int .i64 (x : Int), .int .i64 y, .int .i64 z] 61) = w2 at xX q1 q0 B2 ⊢
      obtain ⟨X, hX⟩ : ∃ X, wr.heap.size = X := ⟨_, rfl⟩
      rw [hX] at xX hXR ⊢
      clear hX c0 c1 c2 bX r1 r0 bel
      have x0 := xX.cell 0
      have x1 := xX.cell 1
      have x2 := xX.cell 2
      obtain ⟨o0, o1, o2⟩ := q1.cells hx1
      have f0 := q1.free (x * 3)
      have f1 := q1.free (x * 3 + 1)
      have f2 := q1.free (x * 3 + 2)
      have st := q1.set hx1 ⟨true, y, z⟩
      rw [← HP.out] at st
      have q0' : Roll (((w2.setCell ⟨R0 + 1, x * 3, none⟩ (.bool true)).setCell ⟨R0 + 1, x * 3 + 1, none⟩ (.int .i64 y)).setCell ⟨R0 + 1, x * 3 + 2, none⟩ (.int .i64 z)) R0 (fun _ => Seat.zero) :=
        q0.eq (by rw [Below.heap_setCell _ _ _ _ (by simp), Below.heap_setCell _ _ _ _ (by simp), Below.heap_setCell _ _ _ _ (by simp)])
      have B3 : Below w.heap.size w (((w2.setCell ⟨R0 + 1, x * 3, none⟩ (.bool true)).setCell ⟨R0 + 1, x * 3 + 1, none⟩ (.int .i64 y)).setCell ⟨R0 + 1, x * 3 + 2, none⟩ (.int .i64 z)) := by
        have := HR0.out
        exact ((B2.setCell (p := ⟨R0 + 1, x * 3, none⟩) (show _ ≤ R0 + 1 by omega) _).setCell (p := ⟨R0 + 1, x * 3 + 1, none⟩) (show _ ≤ R0 + 1 by omega) _).setCell (p := ⟨R0 + 1, x * 3 + 2, none⟩) (show _ ≤ R0 + 1 by omega) _
      obtain ⟨old0, ho0⟩ : ∃ u, w2.cell? ⟨R0 + 1, x * 3, none⟩ = some u := ⟨_, o0⟩
      obtain ⟨old1, ho1⟩ : ∃ u, w2.cell? ⟨R0 + 1, x * 3 + 1, none⟩ = some u := ⟨_, o1⟩
      obtain ⟨old2, ho2⟩ : ∃ u, w2.cell? ⟨R0 + 1, x * 3 + 2, none⟩ = some u := ⟨_, o2⟩
      have i0 : (0 : Int) ≤ (x : Int) := by omega
      have i1 : (x : Int) < 255 := by omega
      clear o0 o1 o2 q1 q0 B2 xX
      go_wp2_with fail
      go_roundw
      case rel => exact ⟨k + 1, by omega, by go_num, st, q0', B3⟩
      case measure => simp [intOf]; omega
    · obtain rfl : k = ts.length := by omega
      go_upto_region 7 with (fail)
      have q := r0.row (seatsUp ts ts.length)
      have B3 := below_setRow bel R0 (Nat.le_of_eq HR0.out) (rollC (seatsUp ts ts.length))
      refine wp_region_list ?_
      refine wpList_load_row rfl 55 _ rfl (R0 + 1) rfl _ (rollC (seatsUp ts ts.length)) _ _ r1 roll_array rfl (roll_size _) ?_
      refine wpList_store_row rfl 55 _ _ rfl R0 (rollC (seatsUp ts ts.length)) rfl rfl _ _ r0 (roll_size _) (by rw [rollC_size, rollC_size]) (rollC_one _) ?_
      generalize wr.setRow R0 (rollC (seatsUp ts ts.length)) = w3 at q B3 ⊢
      clear r0 r1 bel
      trace_state
      go_simp
      rename_i Kf hKf
      refine hKf _ _ (wp_ret ?_)
      have hR : RollRes w (seatsOf ts) (.returned (.agg (rollC (seatsUp ts ts.length)))) w3 := ⟨rfl, B3⟩
      exact ⟨rfl, _, results_cell_row rfl _ _ R0 _ _ _ _ rfl q roll_array rfl (roll_size _), hR⟩

/-- a number is answered, nothing of before has turned -/
def SaysC (n : Int) (w : World) (e : Ending) (w' : World) : Prop := e = .returned (.int .i64 n) ∧ Below w.heap.size w w'
theorem impl_nextIn (k : Bool) (x y e : Int) (w : World) : Calls Try.prog 70 #[.agg #[.bool k, .int .i64 x, .int .i64 y], .int .i64 e] w (SaysC (nextIn ⟨k, x, y⟩ e) w) := by
  have bA := alloc_below' w (.cells #[.bool k, .int .i64 x, .int .i64 y] 53)
  unfold nextIn
  by_cases h : x < e
  · have d : decide (x < e) = true := decide_eq_true h
    rw [if_pos h]
    go_enter Try.func70, Try.ntmps70
    go_wp2_with fail
    go_ret
    exact ⟨rfl, bA⟩
  · have d : decide (x < e) = false := decide_eq_false h
    rw [if_neg h]
    go_enter Try.func70, Try.ntmps70
    go_wp2_with fail
    go_ret
    exact ⟨rfl, bA⟩
theorem impl_compared (x y : Int) (w : World) : Calls Try.prog 69 #[.int .i64 x, .int .i64 y] w (SaysC (cmpN x y) w) := by
  unfold cmpN
  by_cases h : x < y
  · have d : decide (x < y) = true := decide_eq_true h
    rw [if_pos h]
    go_enter Try.func69, Try.ntmps69
    go_wp2_with fail
    go_ret
    exact ⟨rfl, Below.refl _ _⟩
  · have d : decide (x < y) = false := decide_eq_false h
    rw [if_neg h]
    by_cases h2 : y < x
    · have d2 : decide (y < x) = true := decide_eq_true h2
      rw [if_pos h2]
      go_enter Try.func69, Try.ntmps69
      go_wp2_with fail
      go_ret
      exact ⟨rfl, Below.refl _ _⟩
    · have d2 : decide (y < x) = false := decide_eq_false h2
      rw [if_neg h2]
      go_enter Try.func69, Try.ntmps69
      go_wp2_with fail
      go_ret
      exact ⟨rfl, Below.refl _ _⟩
end Go.Proofs.Ytfapeppocfodpaa
