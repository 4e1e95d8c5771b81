/- The helpers of the exact laws on batches: copies. -/
import Derived.Test.YtomlejfilfdnbaaL5
namespace Go.Proofs.Ytomlejfilfdnbaa
open Go.ChangeShapes Go.WideShapes Go.ChangeAt Go.RowKit
set_option linter.unusedVariables false

theorem info_rec : (Try.prog.info? 44).map (fun i => (i.zero, i.size, i.bytes)) = some (some (.agg #[.int .i64 0, .int .i64 0, .bool false, .slice none 0 0, .bool false, .slice none 0 0]), 6, 80) := by kernel_rfl
/-- 'make([]impl.Record, n)' -/
theorem wp_makeR {w : World} {ops : Array Oper} {rest : List Oper} {o : Oper} {a : Act} {Q : Exit → Act → World → Prop}
    (hg : o.guard = none) (l c : Operand) (hop : o.op = Op.makeSlice 35 l c)
    (base : Nat) (L C : Int) (n : Nat) (hl : a.eval l = .int .i64 L) (hc : a.eval c = .int .i64 C) (hL : L = (n : Int)) (hC : C = (n : Int)) (b2 : n ≤ 1000000000) (b4 : base ≤ w.heap.size)
    (hK : ∀ w' f, Row6 w' base (.slice (some ⟨w.heap.size, 0, none⟩) n n) n f → w.grownBy w' none → wpList Try.prog ops Q rest (a.put o.dst (.slice (some ⟨w.heap.size, 0, none⟩) n n)) w') :
    wpList Try.prog ops Q (o :: rest) a w := by
  obtain ⟨i0, hi, hz0, hz1, hz2⟩ := info_parts info_rec
  refine wpList_make_full w hg l c 35 hop base 44 i0 _ 6 Try.underlying35 hi hz0 hz1 .i64 .i64 L C n hl hc hL hC (by rw [hz2]; omega) (by unfold maxLen; omega) b4 ?_
  intro w' hown hgrow
  refine hK w' (fun i => ((madeCells (Value.agg #[.int .i64 0, .int .i64 0, .bool false, .slice none 0 0, .bool false, .slice none 0 0]).cells (n * 6)).toList)[i]?.getD undef) ⟨_, hown, fun i hi => ?_⟩ hgrow
  have hlen := hown.1
  dsimp only
  rw [List.getElem?_eq_getElem (by omega)]
  rfl
/-- a copy of records, in memory of its own -/
def RecsCopy (w : World) (rs : List Rec) (e : Ending) (w' : World) : Prop := ∃ v, e = .returned v ∧ OwnRecs w' w.heap.size v rs ∧ Below w.heap.size w w'
theorem six_lt (v0 v1 v2 v3 v4 v5 : Value) : six v0 v1 v2 v3 v4 v5 0 = v0 ∧ six v0 v1 v2 v3 v4 v5 1 = v1 ∧ six v0 v1 v2 v3 v4 v5 2 = v2 ∧ six v0 v1 v2 v3 v4 v5 3 = v3 ∧ six v0 v1 v2 v3 v4 v5 4 = v4 ∧ six v0 v1 v2 v3 v4 v5 5 = v5 := ⟨rfl, rfl, rfl, rfl, rfl, rfl⟩
/-- the first j records of a row are in place -/
def RowUpto (wr : World) (base : Nat) (v : Value) (n : Nat) (rs : List Rec) (j : Nat) : Prop :=
  ∃ (f kv vv : Nat → Value), Row6 wr base v n f ∧ (∀ i, i < j * 6 → f i = rowF rs kv vv i) ∧ (∀ i, i < j → Own wr base (kv i) (recAt rs i).key ∧ Own wr base (vv i) (recAt rs i).val) ∧ Sep v kv vv j
theorem RowUpto.below {w w' : World} {base n j : Nat} {v : Value} {rs : List Rec} (h : RowUpto w base v n rs j) (hb : Below w.heap.size w w') : RowUpto w' base v n rs j := by
  obtain ⟨f, kv, vv, h1, h2, h3, h4⟩ := h
  exact ⟨f, kv, vv, h1.below hb, h2, fun i hi => ⟨(h3 i hi).1.below hb, (h3 i hi).2.below hb⟩, h4⟩
theorem RowUpto.done {w : World} {base : Nat} {v : Value} {rs : List Rec} (h : RowUpto w base v rs.length rs rs.length) : OwnRecs w base v rs := by
  obtain ⟨f, kv, vv, h1, h2, h3, h4⟩ := h
  exact ⟨kv, vv, h1.congr h2, h3, h4⟩
theorem RowUpto.cells {w : World} {base g cap n j : Nat} {rs : List Rec} (h : RowUpto w base (.slice (some ⟨g, 0, none⟩) n cap) n rs j) : base ≤ g ∧ g < w.heap.size ∧ (∀ i, i < n * 6 → ∃ u, w.cell? ⟨g, i, none⟩ = some u) ∧ ∀ i, w.frozen? ⟨g, i, none⟩ = false := by
  obtain ⟨f, kv, vv, h1, h2, h3, h4⟩ := h
  have := h1.lt g rfl
  exact ⟨this.1, this.2, fun i hi => ⟨_, h1.cell i hi⟩, h1.frozen⟩
/-- one record more is put into its place -/
theorem RowUpto.put {w0 w : World} {base g cap n j m : Nat} {rs : List Rec} {r : Rec} {k1 v1 : Value} (h : RowUpto w0 base (.slice (some ⟨g, 0, none⟩) n cap) n rs j) (hb : Below w0.heap.size w0 w) (hj : j < n) (hr : recAt rs j = r)
    (hm : m = w0.heap.size) (o1 : Own w m k1 r.key) (o2 : Own w m v1 r.val) (ap : ∀ k, v1.ownBlock = some k → k1.ownBlock ≠ some k) :
    RowUpto ((((((w.setCell ⟨g, j * 6, none⟩ (.int .i64 r.off)).setCell ⟨g, j * 6 + 1, none⟩ (.int .i64 r.time)).setCell ⟨g, j * 6 + 2, none⟩ (.bool r.hk)).setCell ⟨g, j * 6 + 3, none⟩ k1).setCell ⟨g, j * 6 + 4, none⟩ (.bool r.hv)).setCell ⟨g, j * 6 + 5, none⟩ v1)
      base (.slice (some ⟨g, 0, none⟩) n cap) n rs (j + 1) := by
  subst hm
  subst hr
  obtain ⟨f, kv, vv, h1, h2, h3, h4⟩ := h
  have hg := h1.lt g rfl
  have hlt := partB_lt (n := j) h1 h3
  have G := set6_grown w g (j * 6) (.int .i64 (recAt rs j).off) (.int .i64 (recAt rs j).time) (.bool (recAt rs j).hk) k1 (.bool (recAt rs j).hv) v1
  have key : ∀ {u : Value} {xs : List Int} {b : Nat}, Own w b u xs → (∀ k, u.ownBlock = some k → k ≠ g) → b ≥ base → Own _ base u xs := fun {u xs b} ho hne hbb => (ho.grown G (by
    cases e : u.ownBlock with
    | none => exact .inl rfl
    | some q => exact .inr fun e2 => hne q e (by simpa using e2))).base hbb
  refine ⟨_, (fun i => if i = j then k1 else kv i), (fun i => if i = j then v1 else vv i), (h1.below hb).set6 j hj _ _ _ _ _ _, fun i hi => ?_, fun i hi => ?_, ?_⟩
  · by_cases e : i / 6 = j
    · rw [if_pos e]
      unfold rowF
      rw [e]
      simp
    · rw [if_neg e, h2 i (by omega)]
      unfold rowF
      dsimp only
      rw [if_neg e, if_neg e]
  · by_cases e : i = j
    · subst e
      rw [show (fun i_1 => if i_1 = i then k1 else kv i_1) i = k1 from if_pos rfl, show (fun i_1 => if i_1 = i then v1 else vv i_1) i = v1 from if_pos rfl]
      exact ⟨key o1 (fun k hk => by have := o1.lt k hk; omega) (by omega), key o2 (fun k hk => by have := o2.lt k hk; omega) (by omega)⟩
    · dsimp only
      rw [if_neg e, if_neg e]
      have q := h3 i (by omega)
      refine ⟨key (q.1.below hb) (fun k hk e2 => ?_) (Nat.le_refl _), key (q.2.below hb) (fun k hk e2 => ?_) (Nat.le_refl _)⟩
      · subst e2
        refine h4 0 (2 * i + 1) k (by omega) (by omega) (by omega) rfl ?_
        unfold partB
        rw [if_neg (by omega), if_pos (by omega), show (2 * i + 1 - 1) / 2 = i by omega]
        exact hk
      · subst e2
        refine h4 0 (2 * i + 2) k (by omega) (by omega) (by omega) rfl ?_
        unfold partB
        rw [if_neg (by omega), if_neg (by omega), show (2 * i + 2 - 2) / 2 = i by omega]
        exact hk
  · exact h4.snoc (m := w0.heap.size) (w := w) hlt (fun k hk => o1.lt k hk) (fun k hk => o2.lt k hk) ap

set_option maxHeartbeats 1000000 in
theorem laws_toRecordS (v : Value) (rs : List Rec) (w : World) (h : Recs w v rs) (hs : rs.length + szL rs ≤ 100000000) : Calls Try.prog 23 #[v] w (RecsCopy w rs) := by
  have hv := h
  obtain ⟨a, cap, rfl, hl, hm, hc⟩ := h
  unfold maxLen at hm
  clear hc
  have hs1 : rs.length ≤ 1000000000 := by omega
  have Hsz : Hid (∀ k, k < rs.length → (recAt rs k).key.length ≤ 1000000000 ∧ (recAt rs k).val.length ≤ 1000000000) := Lib.hid fun k hk => by have := szL_at rs k hk; omega
  go_enter Try.func23, Try.ntmps23
  go_wp2_with (at_make; refine wp_makeR rfl _ _ rfl w.heap.size _ _ rs.length rfl rfl rfl rfl hs1 (Nat.le_refl _) ?_; intro w0 f0 hrow0 hgrow0)
  have hb0 : Below w.heap.size w w0 := (Below.refl _ _).grown hgrow0 (Nat.le_refl _) (fun k hk => by cases hk)
  have start : RowUpto w0 w.heap.size (.slice (some ⟨w.heap.size, 0, none⟩) rs.length rs.length) rs.length rs 0 := ⟨f0, fun _ => undef, fun _ => undef, hrow0, fun i hi => by omega, fun i hi => by omega, fun p q k hp hq hpq => by omega⟩
  clear hrow0 hgrow0
  obtain ⟨g, hg⟩ : ∃ g, w.heap.size = g := ⟨_, rfl⟩
  have hgl : w.heap.size ≤ g := by omega
  rw [hg] at start
  have Hg := Lib.hid hg
  go_loopw [4] (fun i wr => ∃ j : Nat, j ≤ rs.length ∧ i = .int .i64 j ∧ RowUpto wr w.heap.size (.slice (some ⟨w.heap.size, 0, none⟩) rs.length rs.length) rs.length rs j ∧ Below w.heap.size w wr) (fun i _ => rs.length - (intOf i).toNat)
  case atStart => exact ⟨0, Nat.zero_le _, rfl, by rw [hg]; exact start, hb0⟩
  case round =>
    clear start hb0 hg
    obtain ⟨j, hj, rfl, hrow, bel⟩ := hrel
    by_cases hlt : j < rs.length
    · obtain ⟨b, off, cap', e, hm'⟩ := hv.form (by omega)
      simp only [Value.slice.injEq, true_and] at e
      obtain ⟨rfl, rfl⟩ := e
      have hvr := hv.below bel
      obtain ⟨r, a1, c1, a2, c2, Hr, hR⟩ := hvr.parts j hlt
      have hsz := Hsz.out j hlt
      rw [Hr.out] at hsz
      have C1 := Lib.hid (laws_toRecord _ r wr hR.recV hsz.1 hsz.2)
      obtain ⟨e0, e1, e2, e3, e4, e5, _, _⟩ := hR
      clear hsz
      go_wp2_with fail
      (with_reducible refine C1.out.mono ?_)
      rintro e w2 ⟨u, rfl, ⟨k1, v1, rfl, o1, o2, ap⟩, b2⟩
      obtain ⟨x1, y1, rfl, _, _, _⟩ := o1.ints
      obtain ⟨x2, y2, rfl, _, _, _⟩ := o2.ints
      have B2 := Bstep bel b2
      have hrow2 := hrow.below b2
      obtain ⟨hg1, hg2, hcs, hfz⟩ := hrow2.cells
      obtain ⟨u0, d0⟩ := hcs (j * 6) (by omega)
      obtain ⟨u1, d1⟩ := hcs (j * 6 + 1) (by omega)
      obtain ⟨u2, d2⟩ := hcs (j * 6 + 2) (by omega)
      obtain ⟨u3, d3⟩ := hcs (j * 6 + 3) (by omega)
      obtain ⟨u4, d4⟩ := hcs (j * 6 + 4) (by omega)
      obtain ⟨u5, d5⟩ := hcs (j * 6 + 5) (by omega)
      have new := hrow.put (m := wr.heap.size) b2 hlt Hr.out rfl o1 o2 ap
      have B3 : Below w.heap.size w _ := B2.grown (set6_grown w2 w.heap.size (j * 6) (.int .i64 r.off) (.int .i64 r.time) (.bool r.hk) (.slice x1 r.key.length y1) (.bool r.hv) (.slice x2 r.val.length y2)) B2.size (fun k hk => by simp only [Option.some.injEq] at hk; omega)
      clear hcs hrow hrow2 o1 o2 ap e0 e1 e2 e3 e4 e5
      go_wp2_with fail
      go_roundw
      case rel => exact ⟨j + 1, by omega, by go_num, new, B3⟩
      case measure => simp [intOf]; omega
    · obtain rfl : j = rs.length := by omega
      go_wp2_with fail
      go_ret
      exact ⟨_, rfl, hrow.done, bel⟩
end Go.Proofs.Ytomlejfilfdnbaa
