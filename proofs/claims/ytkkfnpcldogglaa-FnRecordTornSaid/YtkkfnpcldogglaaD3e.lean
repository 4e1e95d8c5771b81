/- Chapter 3: what else the laws on records draw. -/
import Derived.Test.YtkkfnpcldogglaaD3d
import Derived.Test.YtkkfnpcldogglaaD1
namespace Go.Proofs.Ytkkfnpcldogglaa
open Go.ChangeShapes Go.WideShapes Go.ChangeAt Go.RowKit
set_option linter.unusedVariables false

theorem spec_DrawRecordSize (v : Value) (zs : List Int) (w : World) (h : U8s w v zs) (hs : zs.length ≤ 1048576) :
    Calls Try.prog 25 #[v] w (DrawnRec3 w) := by
  have zf := zbox w 25
  have C1 := Lib.hid (spec_DrawRecordBytes v zs _ (h.keep fun h0 b e hb => (alloc_below' w (.cells #[.int .i64 0, .int .i64 0, .bool false, .slice none 0 0, .bool false, .slice none 0 0] 25)).block b hb) hs)
  have hZ : w.heap.size < (w.alloc (.cells #[.int .i64 0, .int .i64 0, .bool false, .slice none 0 0, .bool false, .slice none 0 0] 25)).heap.size := by simp
  go_enter Try.func25, Try.ntmps25
  go_wp2_with fail
  refine C1.out.mono ?_
  rintro e w2 ⟨⟨off, time, hk, key, hv, val⟩, u, o, t, rfl, ⟨kv, vv, rfl, ok, ov⟩, f1, f2, f3, f4, f5, f6, f7, f8, f9, f10, b2⟩
  simp only at ok ov f1 f2 f3 f4 f5 f6
  obtain ⟨a1, cap1, rfl, _, _, _⟩ := ok.ints
  obtain ⟨a2, cap2, rfl, _, _, _⟩ := ov.ints
  obtain ⟨z1, z2, B2⟩ := zf.out w2 b2
  obtain ⟨c0, c1, c2, c3, c4, c5⟩ := id z1
  have fz := z2.2
  go_wp2_with fail
  have box8 := Box6.store z1 (.int .i64 off) (.int .i64 time) (.bool hk) (.slice a1 key.length cap1) (.bool hv) (.slice a2 val.length cap2)
  have g8 := six_grown w2 w.heap.size (.int .i64 off) (.int .i64 time) (.bool hk) (.slice a1 key.length cap1) (.bool hv) (.slice a2 val.length cap2)
  have bel8 := bel_six B2 (Nat.le_refl _) (.int .i64 off) (.int .i64 time) (.bool hk) (.slice a1 key.length cap1) (.bool hv) (.slice a2 val.length cap2)
  generalize hW8 : ((((((w2.setCell ⟨w.heap.size, 0, none⟩ (.int .i64 off)).setCell ⟨w.heap.size, 1, none⟩ (.int .i64 time)).setCell ⟨w.heap.size, 2, none⟩ (.bool hk)).setCell ⟨w.heap.size, 3, none⟩ (.slice a1 key.length cap1)).setCell ⟨w.heap.size, 4, none⟩ (.bool hv)).setCell ⟨w.heap.size, 5, none⟩ (.slice a2 val.length cap2)) = W8 at box8 g8 bel8 ⊢
  have o1 := (ok.by hZ g8).base (Nat.le_of_lt hZ)
  have o2 := (ov.by hZ g8).base (Nat.le_of_lt hZ)
  clear c0 c1 c2 c3 c4 c5 fz hW8
  obtain ⟨c0, c1, c2, c3, c4, c5⟩ := box8
  refine bodyPost_ret (v := .tuple #[.agg #[.int .i64 off, .int .i64 time, .bool hk, .slice a1 key.length cap1, .bool hv, .slice a2 val.length cap2], .int .i64 o, .int .i64 t]) (by simp [results, Try.results25, go_sem, c0, c1, c2, c3, c4, c5]) rfl ?_
  exact ⟨⟨off, time, hk, key, hv, val⟩, _, _, _, rfl, ⟨_, _, rfl, o1, o2⟩, f1, f2, f3, f4, f5, f6, f7, f8, f9, f10, bel8⟩
theorem bel_none {w W : World} (h : w.grownBy W none) : Below w.heap.size w W := ⟨h.os, h.tape, h.output, h.size, fun k hk => h.block k hk (by simp)⟩
/-- bytes, a place, an offset and a time that a law draws -/
def DrawnFrom (w : World) (e : Ending) (w' : World) : Prop := ∃ (v : Value) (xs : List Int) (k o t : Int), e = .returned (.tuple #[v, .int .i64 k, .int .i64 o, .int .i64 t]) ∧ Ints w' v xs ∧ xs.length ≤ 100 ∧ 0 ≤ k ∧ k ≤ 100 ∧ 0 ≤ o ∧ o ≤ 100 ∧ 0 ≤ t ∧ t ≤ 1000 ∧ Below w.heap.size w w'
set_option maxHeartbeats 1000000 in
theorem spec_DrawRecordFrom (v : Value) (zs : List Int) (w : World) (h : U8s w v zs) (hs : zs.length ≤ 1048576) :
    Calls Try.prog 22 #[v] w (DrawnFrom w) := by
  have C1 := Lib.hid (spec_l6Open v zs w h hs)
  go_enter Try.func22, Try.ntmps22
  go_wp2_with fail
  refine C1.out.mono ?_
  rintro e w1 ⟨B, rfl, hB, hR, bel⟩
  go_wp2_with fail
  refine (spec_pick B 0 60 w1 hR (by omega) (by omega) (by omega)).mono ?_
  rintro e w2 ⟨o, rfl, ho, hR2, g2⟩
  have o1 : (o : Int) ≤ 100 := by omega
  have bel2 := below_of_grown bel hB g2
  go_wp2_with fail
  refine (spec_pick B _ 250 w2 hR2 (by omega) (by omega) (by omega)).mono ?_
  rintro e w3 ⟨t, rfl, ht, hR3, g3⟩
  have t1 : (t : Int) ≤ 1000 := by omega
  have bel3 := below_of_grown bel2 hB g3
  clear ho ht bel bel2 g2 g3 hR hR2
  go_wp2_with fail
  refine (spec_l91Record B _ w3 hR3 (by omega)).mono ?_
  rintro e w4 ⟨r, u, rfl, hu, f1, f2, f3, f4, f5, f6, hR4, g4⟩
  have bel4 := below_of_grown bel3 hB g4
  have C2 := Lib.hid (spec_RecordBytes u r (o : Int) (t : Int) w4 hu.recV)
  have hlen : (if (recOk r && baseOk (o : Int) (t : Int)) = true then recBytes r (o : Int) (t : Int) else []).length ≤ 39 := by
    split
    · rename_i hh
      have h1 := recBody_len (o := (o : Int)) (t := (t : Int)) (Bool.and_eq_true_iff.1 hh).1
      have h2 := varB_len ((recBody r (o : Int) (t : Int)).length : Int)
      simp only [recBytes, List.length_append]
      omega
    · simp
  obtain ⟨kv, vv, rfl, _, _⟩ := hu
  obtain ⟨bs, hbs⟩ : ∃ bs, (if (recOk r && baseOk (o : Int) (t : Int)) = true then recBytes r (o : Int) (t : Int) else []) = bs := ⟨_, rfl⟩
  obtain ⟨b, hb⟩ : ∃ b, (recOk r && baseOk (o : Int) (t : Int)) = b := ⟨_, rfl⟩
  rw [hbs] at C2 hlen
  rw [hb] at C2
  have hB4 := hR4.lt
  clear hbs hb f1 f2 f3 f4 f5 f6 bel3 g4 hR3
  go_wp2_with fail
  refine C2.out.mono ?_
  rintro e w5 ⟨bv, rfl, ownb, b5⟩
  have bel5 := Bstep bel4 b5
  have hR5 := hR4.below b5
  clear bel4 hR4 b5 C2
  cases b with
  | false =>
    go_wp2_with fail
    go_returns
    have hb := heap_alloc_new w5 (.cells #[.int .i64 4, .int .i64 0, .int .i64 0, .int .i64 1, .int .i64 1] 3)
    exact ⟨_, [4, 0, 0, 1, 1], _, _, _, rfl, ⟨_, 5, rfl, by simp, by unfold maxLen; omega, fun _ => ⟨_, 0, rfl, fun i hi => by rw [Nat.zero_add]; exact lit_cell [4, 0, 0, 1, 1] hb i hi⟩⟩, by simp, by omega, by omega, by omega, by omega, by omega, by omega, Bstep bel5 (alloc_below' _ _)⟩
  | true =>
    go_wp2_with fail
    refine (spec_pick B _ 3 w5 hR5 (by omega) (by omega) (by omega)).mono ?_
    rintro e w6 ⟨k, rfl, hk, hR6, g6⟩
    have k1 : k ≤ 2 := by omega
    have k2 : (k : Int) ≤ 100 := by omega
    have bel6 := below_of_grown bel5 hB g6
    have ownb6 := ownb.ints.grownX g6 (fun e => by have := ownb.lt B e; omega)
    go_wp2_with (first
      | (at_make; refine wp_makeN rfl _ _ rfl (B + 1) (k : Int) (k : Int) k rfl rfl rfl rfl (by omega) hR6.lt ?_; intro w7 own7 g7; have ib7 := ownb6.grown g7 (by simp); have hR7 := hR6.below (bel_none g7))
      | (at_builtin; refine wp_appI rfl _ _ rfl (B + 1) _ bv (List.replicate k 0) bs rfl rfl own7 ib7 (by simp; omega) hR7.lt ?_; intro v8 w8 own8 g8))
    have bel7 := Bstep bel6 (bel_none g7)
    have hR8 := hR7.app own7 g8
    have bel8 : Below w.heap.size w w8 := bel7.grown g8 bel7.size fun q hq => by have := own7.lt q hq; omega
    have hl8 : (List.replicate k 0 ++ bs).length ≤ 41 := by rw [List.length_append, List.length_replicate]; omega
    obtain ⟨ys, hys⟩ : ∃ ys, List.replicate k (0 : Int) ++ bs = ys := ⟨_, rfl⟩
    rw [hys] at own8 hl8
    clear hys own7 ib7 ownb6 ownb hR7 hR6 hR5 g7 g8 bel7 bel6 bel5 g6
    refine (spec_pick B _ 256 w8 hR8 (by omega) (by omega) (by omega)).mono ?_
    rintro e w9 ⟨x, rfl, hx, hR9, g9⟩
    have own9 := own8.pick g9
    have bel9 := below_of_grown bel8 hB g9
    have hsz9 := hR9.lt
    clear own8 hR8 g9 bel8
    go_wp2_with (at_builtin; refine wp_app1 rfl _ _ rfl (B + 1) v8 ys _ rfl rfl own9 (by omega) hsz9 ?_; intro v7 w10 own10 g10 hv10)
    have hR10 := hR9.app own9 g10
    have bel10 : Below w.heap.size w w10 := bel9.grown g10 bel9.size fun q hq => by have := own9.lt q hq; omega
    have hl7 : (ys ++ [(x : Int)]).length ≤ 42 := by rw [List.length_append]; simp; omega
    have hl9 : 1 ≤ (ys ++ [(x : Int)]).length := by rw [List.length_append]; simp
    obtain ⟨xs, hxs⟩ : ∃ xs, ys ++ [(x : Int)] = xs := ⟨_, rfl⟩
    rw [hxs] at own10 hl7 hl9
    have el : ys.length + 1 = xs.length := by rw [← hxs]; simp
    rw [el] at hv10
    clear hxs el own9 hR9 g10 bel9 hl8
    obtain ⟨g, cap, rfl⟩ := hv10
    refine (spec_pick B _ 8 w10 hR10 (by omega) (by omega) (by omega)).mono ?_
    rintro e w11 ⟨q, rfl, hq, hR11, g11⟩
    have own11 := own10.pick g11
    have bel11 := below_of_grown bel10 hB g11
    clear own10 hR10 g11 bel10
    by_cases q0 : q = 0
    · have e0 : ((q : Int) == 0) = true := by rw [beq_iff_eq]; omega
      go_wp2_with fail
      refine (spec_pick B _ _ w11 hR11 (by omega) (by omega) (by omega)).mono ?_
      rintro e w12 ⟨i, rfl, hi, hR12, g12⟩
      have own12 := own11.pick g12
      have bel12 := below_of_grown bel11 hB g12
      have hi2 : i < xs.length := by omega
      go_wp2_with fail
      refine (spec_pick B _ 256 w12 hR12 (by omega) (by omega) (by omega)).mono ?_
      rintro e w13 ⟨y, rfl, hy, hR13, g13⟩
      have own13 := own12.pick g13
      have bel13 := below_of_grown bel12 hB g13
      have hgB := own13.lt g rfl
      have hc := World.ownsRow.cellAt own13 i (by omega)
      have hf := World.ownsRow.frozenAt own13 i
      have hst := World.ownsRow.stored own13 i (.int .i64 (y : Int))
      have hnew : Own (w13.setCell ⟨g, i, none⟩ (.int .i64 (y : Int))) (B + 1) (.slice (some ⟨g, 0, none⟩) xs.length cap) (xs.set i (y : Int)) := by
        unfold Own
        rw [List.length_set, List.map_set]
        exact hst.1
      obtain ⟨old, hold⟩ : ∃ old, w13.cell? ⟨g, i, none⟩ = some (.int .i64 old) := by
        rw [hc]; exact ⟨xs.getD i 0, by simp only [List.getElem?_map, List.getD]; rw [List.getElem?_eq_getElem (by omega)]; rfl⟩
      have bel14 : Below w.heap.size w (w13.setCell ⟨g, i, none⟩ (.int .i64 (y : Int))) := bel13.setCell (by simp; omega) _
      clear hc hst
      go_wp2_with fail
      go_returns
      have hfin := hnew.ints
      exact ⟨_, _, _, _, _, rfl, hfin, by simp; omega, by omega, by omega, by omega, by omega, by omega, by omega, bel14⟩
    · have e0 : ((q : Int) == 0) = false := by rw [beq_eq_false_iff_ne]; omega
      by_cases q1 : q = 1
      · have e1 : ((q : Int) == 1) = true := by rw [beq_iff_eq]; omega
        go_wp2_with fail
        refine (spec_pick B _ _ w11 hR11 (by omega) (by omega) (by omega)).mono ?_
        rintro e w12 ⟨i, rfl, hi, hR12, g12⟩
        have own12 := own11.pick g12
        have bel12 := below_of_grown bel11 hB g12
        have hi2 : i < xs.length := by omega
        obtain ⟨_, _, e9, hl12, hm12, _⟩ := own12.ints
        simp only [Value.slice.injEq] at e9
        obtain ⟨rfl, _, rfl⟩ := e9
        unfold maxLen at hm12
        go_wp2_with fail
        go_returns
        exact ⟨_, xs.take i, _, _, _, rfl, own12.ints.take i (by omega), by rw [List.length_take]; omega, by omega, by omega, by omega, by omega, by omega, by omega, bel12⟩
      · have e1 : ((q : Int) == 1) = false := by rw [beq_eq_false_iff_ne]; omega
        go_wp2_with fail
        go_returns
        exact ⟨_, xs, _, _, _, rfl, own11.ints, by omega, by omega, by omega, by omega, by omega, by omega, by omega, bel11⟩
end Go.Proofs.Ytkkfnpcldogglaa
