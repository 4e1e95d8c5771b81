/- Chapter 21: the producers of a roll; a batch is taken. -/
import Derived.Test.YtfapeppocfodpaaW21b
import Derived.Test.YtfapeppocfodpaaT12b
import Derived.Test.YtfapeppocfodpaaK12
namespace Go.Proofs.Ytfapeppocfodpaa
open Go.ChangeShapes Go.WideShapes Go.ChangeAt Go.RowKit
set_option linter.unusedVariables false

theorem rollC_extract (f : Nat → Seat) {k : Nat} (hk : k < 255) : (rollC f).extract (k * 3) (k * 3 + 3) = #[.bool (f k).known, .int .i64 (f k).epoch, .int .i64 (f k).next] := by
  apply Array.ext_getElem?
  intro i
  rw [Array.getElem?_extract, rollC_size]
  by_cases hi : i < 3
  · rw [if_pos (by omega)]
    rcases (show i = 0 ∨ i = 1 ∨ i = 2 by omega) with rfl | rfl | rfl
    · rw [Nat.add_zero, rollC_0 f hk]; rfl
    · rw [rollC_1 f hk]; rfl
    · rw [rollC_2 f hk]; rfl
  · rw [if_neg (by omega), Array.getElem?_eq_none (by simp; omega)]
theorem seat_struct : Try.prog.underlying 53 = some (.struct (Try.prog.fieldsOf 53)) := by kernel_rfl
theorem seat_info : (Try.prog.info? 53).map (fun i => i.size) = some 3 := by kernel_rfl
theorem run_index_roll (f : Nat → Seat) {k : Nat} (hk : k < 255) (W : World) :
    (Instr.index 55 (.agg (rollC f)) (.int .i64 (k : Int))).run Try.prog W = .ok (.agg #[.bool (f k).known, .int .i64 (f k).epoch, .int .i64 (f k).next]) W := by
  have hs := seat_struct
  have hi := seat_info
  cases hq : Try.prog.info? 53 with
  | none => rw [hq] at hi; cases hi
  | some ti =>
    have h3 : ti.size = 3 := by simpa [hq] using hi
    have hb : (0 : Int) ≤ (k : Int) ∧ (k : Int) < 255 := by omega
    have e : (k : Int).toNat = k := by omega
    simp [Instr.index, run_underlying roll_array, asIntOf, part, isAgg, run_underlying hs, sizeOf, typeInfo, hq, h3, rollC_extract f hk, hk]

/-- a new row of producers is answered -/
def NewT (w : World) (ts : List Trm) (e : Ending) (w' : World) : Prop := ∃ v, e = .returned v ∧ OwnT w' w.heap.size v ts ∧ Below w.heap.size w w'
theorem listUp_step (f : Nat → Seat) (k : Nat) : listUp f (k + 1) = listUp f k ++ (if (f k).known = true then [⟨(k : Int), (f k).epoch, (f k).next⟩] else []) := rfl
set_option maxHeartbeats 2000000 in
theorem impl_producers (f : Nat → Seat) (w : World) : Calls Try.prog 33 #[.agg (rollC f)] w (NewT w (listOf f)) := by
  have r0 := Roll.made w f
  have b0 := alloc_below' w (.cells (rollC f) 55)
  have own0 := own_nilT (w.alloc (.cells (rollC f) 55)) w.heap.size
  go_enter Try.func33, Try.ntmps33
  go_upto_region 2 with (fail)
  generalize w.alloc (.cells (rollC f) 55) = w1 at r0 b0 own0 ⊢
  obtain ⟨R, hR⟩ : ∃ R, w.heap.size = R := ⟨_, rfl⟩
  rw [hR] at r0 ⊢
  have HR := Lib.hid hR
  clear hR
  refine wp_region_list ?_
  refine wpList_load_row rfl 55 _ rfl R rfl _ (rollC f) _ _ r0 roll_array rfl (roll_size _) ?_
  clear r0
  go_wp2_with fail
  go_loopw [3, 7] (fun u i wr => ∃ k : Nat, k ≤ 255 ∧ i = .int .i64 k ∧ OwnT wr w.heap.size u (listUp f k) ∧ Below w.heap.size w wr) (fun _ i _ => 255 - (intOf i).toNat)
  case atStart => exact ⟨0, by omega, rfl, own0, b0⟩
  case round =>
    clear own0 b0
    obtain ⟨k, hk, rfl, own, bel⟩ := hrel
    have hll := listUp_len f k
    by_cases hlt : k < 255
    · have dk : decide ((k : Int) < 255) = true := decide_eq_true (by omega)
      have hix := run_index_roll f hlt
      have HST := Lib.hid (listUp_step f k)
      obtain ⟨s, hs⟩ : ∃ s, f k = s := ⟨_, rfl⟩
      have hst := HST.out
      rw [hs] at hix hst
      have HST := Lib.hid hst
      clear hst hs
      obtain ⟨kn, y, z⟩ := s
      simp only at hix HST
      go_upto_region 5 with (fail)
      have xC := Blk.made wr #[.bool kn, .int .i64 y, .int .i64 z] 53
      have bC := alloc_below' wr (.cells #[.bool kn, .int .i64 y, .int .i64 z] 53)
      have own2 := own.below bC
      have B2 := Bstep bel bC
      generalize wr.alloc (.cells #[.bool kn, .int .i64 y, .int .i64 z] 53) = w2 at xC own2 B2 ⊢
      obtain ⟨C, hC⟩ : ∃ C, wr.heap.size = C := ⟨_, rfl⟩
      rw [hC] at xC ⊢
      clear hC bC own bel hix
      have c0 := xC.cell 0
      have c1 := xC.cell 1
      have c2 := xC.cell 2
      have hsz := B2.size
      cases kn with
      | false =>
        have h2 := HST.out
        rw [if_neg (by decide), List.append_nil] at h2
        clear HST
        go_wp2_with fail
        go_roundw
        case rel => exact ⟨k + 1, by omega, by go_num, by rw [h2]; exact own2, B2⟩
        case measure => simp [intOf]; omega
      | true =>
        have h2 := HST.out
        rw [if_pos rfl] at h2
        have H2 := Lib.hid h2
        clear HST h2
        go_wp2_with (at_builtin; refine wp_appT rfl _ _ rfl w.heap.size u3 (listUp f k) (k : Int) y z w2.heap.size rfl rfl rfl own2 (by omega) hsz ?_; intro g cp w8 own8 g8)
        rw [← H2.out] at own8
        have B8 := below_row B2 own2 (Nat.le_refl _) g8
        go_roundw
        case rel => exact ⟨k + 1, by omega, by go_num, own8, B8⟩
        case measure => simp [intOf]; omega
    · obtain rfl : k = 255 := by omega
      go_wp2_with fail
      go_ret
      exact ⟨_, rfl, own, bel⟩
end Go.Proofs.Ytfapeppocfodpaa
