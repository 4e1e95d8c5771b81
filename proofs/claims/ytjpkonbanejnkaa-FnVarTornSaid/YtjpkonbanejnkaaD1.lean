/- Chapter 1: bytes and a place are drawn. -/
import Derived.Test.YtjpkonbanejnkaaD0
import Derived.Test.YtjpkonbanejnkaaW1d
import Derived.Laws.AppendOwnNone
namespace Go.Proofs.Ytjpkonbanejnkaa
open Go.ChangeShapes Go.WideShapes Go.ChangeAt Go.RowKit
set_option linter.unusedVariables false

theorem Own.nil_or {w : World} {base : Nat} {v : Value} {xs : List Int} (h : Own w base v xs) : (v = .slice .none 0 0 ∧ xs = []) ∨ ∃ g cap, v = .slice (some ⟨g, 0, .none⟩) xs.length cap := by
  rcases h.2 with ⟨rfl, h0⟩ | ⟨g, cap, cur, rfl, _⟩
  · exact .inl ⟨rfl, List.eq_nil_of_length_eq_zero h0⟩
  · exact .inr ⟨g, cap, rfl⟩

/-- 'append(s, u...)', both made by the call itself -/
theorem wp_appO {w : World} {ops : Array Oper} {rest : List Oper} {o : Oper} {a : Act} {Q : Exit → Act → World → Prop}
    (hg : o.guard = none) (s x : Operand) (hop : o.op = Op.call { callee := Callee.builtin Builtin.append, args := #[s, x], argTypes := #[26, 26] })
    (base base2 : Nat) (v u : Value) (xs ys : List Int) (hs : a.eval s = v) (hx : a.eval x = u)
    (hown : Own w base v xs) (hown2 : Own w base2 u ys) (hlen : xs.length + ys.length < 10000000000) (hb : base ≤ w.heap.size)
    (hK : ∀ v' w', Own w' base v' (xs ++ ys) → w.grownBy w' v.ownBlock → wpList Try.prog ops Q rest (a.put o.dst v') w') :
    wpList Try.prog ops Q (o :: rest) a w := by
  obtain ⟨i0, hi, hz0, hz1, hz2⟩ := info_parts info_int
  rcases hown2.nil_or with ⟨rfl, rfl⟩ | ⟨g, cap, rfl⟩
  · refine wpList_append_own_none hg s x 26 hop base 3 i0 1 Try.underlying26 hi v xs.length _ hs hown hx ?_
    exact hK v w (by simpa using hown) (World.grownBy.refl _ _)
  · refine wpList_append_own w hg s x 26 hop base 3 i0 (.int .i64 0) 1 8 Try.underlying26 hi hz0 hz1 hz2 rfl (by decide) v xs.length _ hs hown ⟨g, 0, none⟩ ys.length cap (ys.map (Value.int .i64)) hx (by simp) (World.ownsRow.cells hown2 rfl) (ints_oneCell _ _) ?_ ?_ hb ?_
    · unfold maxLen; omega
    · omega
    · intro v' w' hown' hgrow _
      refine hK v' w' ?_ hgrow
      unfold Own
      simpa using hown'

theorem Rd.app {w w' : World} {B c : Nat} {v : Value} {xs : List Int} (h : Rd w B c) (hown : Own w (B + 1) v xs) (hg : w.grownBy w' v.ownBlock) : Rd w' B c :=
  h.keep fun b hb => hg.block b (Nat.lt_of_le_of_lt hb h.lt) fun e => by have := hown.lt b e.symm; omega
theorem Own.pick {w w' : World} {B : Nat} {v : Value} {xs : List Int} (hown : Own w (B + 1) v xs) (hg : w.grownBy w' (some B)) : Own w' (B + 1) v xs :=
  hown.grown hg (by
    cases e : v.ownBlock with
    | none => exact .inl rfl
    | some k => refine .inr fun e2 => ?_; have := hown.lt k e; simp only [Option.some.injEq] at e2; omega)
theorem Ints.take {w : World} {a : Option Addr} {n cap : Nat} {xs : List Int} (h : Ints w (.slice a n cap) xs) (k : Nat) (hk : k ≤ n) : Ints w (.slice a k cap) (xs.take k) := by
  obtain ⟨a', cap', e, hl, hm, hc⟩ := h
  simp only [Value.slice.injEq] at e
  obtain ⟨rfl, rfl, rfl⟩ := e
  have hn : (xs.take k).length = k := by rw [List.length_take]; omega
  refine ⟨a, cap, by rw [hn], by omega, hm, fun h0 => ?_⟩
  obtain ⟨b, off, rfl, hcell⟩ := hc (by omega)
  refine ⟨b, off, rfl, fun i hi => ?_⟩
  rw [hcell i (by omega)]
  simp [List.getD, show i < k by omega]

def DrawnAt (w : World) (e : Ending) (w' : World) : Prop := ∃ (v : Value) (xs : List Int) (k : Int), e = .returned (.tuple #[v, .int .i64 k]) ∧ Ints w' v xs ∧ xs.length ≤ 100 ∧ 0 ≤ k ∧ k ≤ 100 ∧ Below w.heap.size w w'

theorem spec_DrawVarFrom (v : Value) (zs : List Int) (w : World) (h : U8s w v zs) (hs : zs.length ≤ 1048576) :
    Calls Try.prog 28 #[v] w (DrawnAt w) := by
  have C1 := Lib.hid (spec_l6Open v zs w h hs)
  go_enter Try.func28, Try.ntmps28
  go_wp2_with fail
  refine C1.out.mono ?_
  rintro e w1 ⟨B, rfl, hB, hR, bel⟩
  go_wp2_with fail
  refine (spec_pick B 0 3 w1 hR (by omega) (by omega) (by omega)).mono ?_
  rintro e w2 ⟨at_, rfl, hat, hR2, g2⟩
  have ha : at_ ≤ 2 := by omega
  have bel2 := below_of_grown bel hB g2
  have hB2 := hR2.lt
  have own2 : Own (w2.alloc (.cells #[] 3)) (B + 1) (.slice (some ⟨w2.heap.size, 0, none⟩) 0 0) [] := own_empty w2 _ hB2
  go_wp2_with fail
  go_loopw [6, 7] (fun u i wr => ∃ (j : Nat) (pre : List Int), i = .int .i64 j ∧ j ≤ at_ ∧ pre.length = j ∧ Own wr (B + 1) u pre ∧ Rd wr B (1 + j) ∧ Below w.heap.size w wr) (fun _ i _ => at_ - (intOf i).toNat)
  case atStart => exact ⟨0, [], rfl, Nat.zero_le _, rfl, own2, hR2.below (alloc_below _ _), Bstep bel2 (alloc_below _ _)⟩
  case round =>
    obtain ⟨j, pre, rfl, hj, hpl, hown, hRr, belr⟩ := hrel
    by_cases hlt : j < at_
    · have Hpl := Lib.hid hpl
      have hp2 : pre.length ≤ 2 := by omega
      clear hpl
      go_wp2_with fail
      refine (spec_pick B (1 + j) 256 wr hRr (by omega) (by omega) (by omega)).mono ?_
      rintro e w3 ⟨k, rfl, hk, hR3, g3⟩
      have hsz := hR3.lt
      have own3 := hown.pick g3
      have bel3 := below_of_grown belr hB g3
      go_wp2_with (at_builtin; refine wp_app1 rfl _ _ rfl (B + 1) u6 pre _ rfl rfl own3 (by omega) hsz ?_; intro v' w4 own4 g4 hv4)
      go_roundw
      case rel => exact ⟨j + 1, pre ++ [(k : Int)], by go_num, by omega, by simp [Hpl.out], own4, (hR3.app own3 g4).more (by omega), bel3.grown g4 bel3.size fun q hq => by have := own3.lt q hq; omega⟩
      case measure => simp [intOf]; omega
    · have Hpl := Lib.hid hpl
      have hp2 : pre.length ≤ 2 := by omega
      clear hpl
      go_wp2_with fail
      refine (spec_l91Number B (1 + j) wr hRr (by omega)).mono ?_
      rintro e w3 ⟨n, rfl, n0, n1, hR3, g3⟩
      have own3 := hown.pick g3
      have bel3 := below_of_grown belr hB g3
      go_wp2_with fail
      refine (spec_VarBytes n w3 ⟨by omega, by omega⟩).mono ?_
      rintro e w4 ⟨vb, rfl, ownb, bel4⟩
      have own4 := own3.below bel4
      have hR4 := hR3.below bel4
      have bb4 := Bstep bel3 bel4
      have hl4 := varB_len n
      go_wp2_with (first | (at_builtin; refine wp_appO rfl (.tmp 31) (.tmp 32) rfl (B + 1) _ u6 vb pre (varB n) rfl rfl own4 ownb (by omega) hR4.lt ?_; intro v5 w5 own5 g5))
      have hR5 := hR4.app own4 g5
      have bb5 : Below w.heap.size w w5 := bb4.grown g5 bb4.size fun q hq => by have := own4.lt q hq; omega
      have hl5 : (pre ++ varB n).length ≤ 5 := by rw [List.length_append]; omega
      obtain ⟨ys, hys⟩ : ∃ ys, pre ++ varB n = ys := ⟨_, rfl⟩
      rw [hys] at own5 hl5
      clear hys
      refine (spec_pick B _ 256 w5 hR5 (by omega) (by omega) (by omega)).mono ?_
      rintro e w6 ⟨k, rfl, hk, hR6, g6⟩
      have own6 := own5.pick g6
      have bb6 := below_of_grown bb5 hB g6
      have hsz6 := hR6.lt
      go_wp2_with (at_builtin; refine wp_app1 rfl _ _ rfl (B + 1) v5 ys _ rfl rfl own6 (by omega) hsz6 ?_; intro v7 w7 own7 g7 hv7)
      have hR7 := hR6.app own6 g7
      have bb7 : Below w.heap.size w w7 := bb6.grown g7 bb6.size fun q hq => by have := own6.lt q hq; omega
      have hl7 : (ys ++ [(k : Int)]).length ≤ 6 := by rw [List.length_append]; simp; omega
      have hl8 : 1 ≤ (ys ++ [(k : Int)]).length := by rw [List.length_append]; simp
      obtain ⟨xs, hxs⟩ : ∃ xs, ys ++ [(k : Int)] = xs := ⟨_, rfl⟩
      rw [hxs] at own7 hl7 hl8
      have el : ys.length + 1 = xs.length := by rw [← hxs]; simp
      rw [el] at hv7
      clear hxs el
      obtain ⟨g, cap, rfl⟩ := hv7
      refine (spec_pick B _ 10 w7 hR7 (by omega) (by omega) (by omega)).mono ?_
      rintro e w8 ⟨q, rfl, hq, hR8, g8⟩
      have own8 := own7.pick g8
      have bb8 := below_of_grown bb7 hB g8
      by_cases q0 : q = 0
      · have e0 : ((q : Int) == 0) = true := by rw [beq_iff_eq]; omega
        go_wp2_with fail
        go_ret2
        exact ⟨_, xs, _, rfl, own8.ints, by omega, by omega, by omega, bb8⟩
      · have e0 : ((q : Int) == 0) = false := by rw [beq_eq_false_iff_ne]; omega
        by_cases q1 : q = 1
        · have e1 : ((q : Int) == 1) = true := by rw [beq_iff_eq]; omega
          go_wp2_with fail
          refine (spec_pick B _ _ w8 hR8 (by omega) (by omega) (by omega)).mono ?_
          rintro e w9 ⟨i, rfl, hi, hR9, g9⟩
          have own9 := own8.pick g9
          have bb9 := below_of_grown bb8 hB g9
          have hi2 : i < xs.length := by omega
          go_wp2_with fail
          refine (spec_pick B _ 258 w9 hR9 (by omega) (by omega) (by omega)).mono ?_
          rintro e w10 ⟨y, rfl, hy, hR10, g10⟩
          have own10 := own9.pick g10
          have bb10 := below_of_grown bb9 hB g10
          have hgB := own10.lt g rfl
          have hc := World.ownsRow.cellAt own10 i (by omega)
          have hf := World.ownsRow.frozenAt own10 i
          have hst := World.ownsRow.stored own10 i (.int .i64 ((y : Int) - 1))
          have hnew : Own (w10.setCell ⟨g, i, none⟩ (.int .i64 ((y : Int) - 1))) (B + 1) (.slice (some ⟨g, 0, none⟩) xs.length cap) (xs.set i ((y : Int) - 1)) := by
            unfold Own
            rw [List.length_set, List.map_set]
            exact hst.1
          obtain ⟨old, hold⟩ : ∃ old, w10.cell? ⟨g, i, none⟩ = some (.int .i64 old) := by
            rw [hc]; exact ⟨xs.getD i 0, by simp only [List.getElem?_map, List.getD]; rw [List.getElem?_eq_getElem (by omega)]; rfl⟩
          have bb11 : Below w.heap.size w (w10.setCell ⟨g, i, none⟩ (.int .i64 ((y : Int) - 1))) := bb10.setCell (by simp; omega) _
          clear hc hst
          go_wp2_with fail
          go_ret2
          have hfin := hnew.ints
          exact ⟨_, _, _, rfl, hfin, by simp; omega, by omega, by omega, bb11⟩
        · have e1 : ((q : Int) == 1) = false := by rw [beq_eq_false_iff_ne]; omega
          by_cases q2 : q = 2
          · have e2 : ((q : Int) == 2) = true := by rw [beq_iff_eq]; omega
            go_wp2_with fail
            refine (spec_pick B _ _ w8 hR8 (by omega) (by omega) (by omega)).mono ?_
            rintro e w9 ⟨i, rfl, hi, hR9, g9⟩
            have own9 := own8.pick g9
            have bb9 := below_of_grown bb8 hB g9
            have hi2 : i < xs.length := by omega
            obtain ⟨_, _, e9, hl9, hm9, _⟩ := own9.ints
            simp only [Value.slice.injEq] at e9
            obtain ⟨rfl, _, rfl⟩ := e9
            unfold maxLen at hm9
            go_wp2_with fail
            go_ret2
            exact ⟨_, xs.take i, _, rfl, own9.ints.take i (by omega), by rw [List.length_take]; omega, by omega, by omega, bb9⟩
          · have e2 : ((q : Int) == 2) = false := by rw [beq_eq_false_iff_ne]; omega
            go_wp2_with fail
            go_ret2
            exact ⟨_, xs, _, rfl, own8.ints, by omega, by omega, by omega, bb8⟩
end Go.Proofs.Ytjpkonbanejnkaa
