/- The helpers of the laws on producers: rows are the same; they are copied, marked, and held against their marks. -/
import Derived.Test.YtlppnhkgadcgdaaT12
import Derived.Laws.StructEq
import Derived.Deep.QuietTactic
import Derived.BigQuiet
import Derived.Deep.RegionHeld3
import Derived.Deep.Cut
namespace Go.Proofs.Ytlppnhkgadcgdaa
open Go.ChangeShapes Go.WideShapes Go.ChangeAt Go.RowKit
set_option linter.unusedVariables false

theorem grown_trans' {a b c : World} {row : Option Nat} (h : a.grownBy b row) (k : b.grownBy c row) : a.grownBy c row :=
  ⟨k.os.trans h.os, k.tape.trans h.tape, k.output.trans h.output, Nat.le_trans h.size k.size, fun i hi hne => (k.block i (Nat.lt_of_lt_of_le hi h.size) hne).trans (h.block i hi hne)⟩
theorem laws_eqProducer (a b c : Int) (w : World) : Calls Try.prog 46 #[.agg #[.int .i64 a, .int .i64 b, .int .i64 c], .agg #[.int .i64 a, .int .i64 b, .int .i64 c]] w (Same w true) := by
  have q1 : (a != a) = false := by simp
  have q2 : (b != b) = false := by simp
  have q3 : (c != c) = false := by simp
  have bA := alloc_below' w (.cells #[.int .i64 a, .int .i64 b, .int .i64 c] 42)
  have bB := Bstep bA (alloc_below' _ (.cells #[.int .i64 a, .int .i64 b, .int .i64 c] 42))
  go_enter Try.func46, Try.ntmps46
  go_wp2_with fail
  go_ret
  exact ⟨rfl, bB⟩
/-- the cells of two producers -/
def TwoT (W : World) (b p b' p' : Nat) (t : Trm) : Prop := W.cell? ⟨b, p, none⟩ = some (.int .i64 t.num) ∧ W.cell? ⟨b, p + 1, none⟩ = some (.int .i64 t.first) ∧ W.cell? ⟨b, p + 2, none⟩ = some (.int .i64 t.third) ∧ W.cell? ⟨b', p', none⟩ = some (.int .i64 t.num) ∧ W.cell? ⟨b', p' + 1, none⟩ = some (.int .i64 t.first) ∧ W.cell? ⟨b', p' + 2, none⟩ = some (.int .i64 t.third)
theorem laws_eqProducerS (v u : Value) (ts : List Trm) (w : World) (h : Ts w v ts) (g : Ts w u ts) : Calls Try.prog 21 #[v, u] w (Same w true) := by
  have hv := h
  have hu := g
  obtain ⟨a, cap, rfl, hl, hm, hc⟩ := h
  obtain ⟨a', cap', rfl, hl', hm', hc'⟩ := g
  unfold maxLen at hm hm'
  clear hc hc'
  have q0 : ((ts.length : Int) != (ts.length : Int)) = false := by simp
  go_enter Try.func21, Try.ntmps21
  go_wp2_with fail
  go_loopw [5] (fun i wr => ∃ k : Nat, k ≤ ts.length ∧ i = .int .i64 k ∧ Below w.heap.size w wr) (fun i _ => ts.length - (intOf i).toNat)
  case atStart => exact ⟨0, Nat.zero_le _, rfl, Below.refl _ _⟩
  case round =>
    obtain ⟨k, hk, rfl, bel⟩ := hrel
    by_cases hlt : k < ts.length
    · obtain ⟨b, off, cp, e, _, _, hcell⟩ := (hv.below bel).form (by omega)
      simp only [Value.slice.injEq, true_and] at e
      obtain ⟨rfl, rfl⟩ := e
      obtain ⟨b', off', cp', e, _, _, hcell'⟩ := (hu.below bel).form (by omega)
      simp only [Value.slice.injEq, true_and] at e
      obtain ⟨rfl, rfl⟩ := e
      obtain ⟨x0, x1, x2⟩ := hcell k hlt
      obtain ⟨y0, y1, y2⟩ := hcell' k hlt
      obtain ⟨t, Ht⟩ : ∃ t, Hid (tAt ts k = t) := ⟨_, Lib.hid rfl⟩
      rw [Ht.out] at x0 x1 x2 y0 y1 y2
      have HS : Hid (∀ W, Below wr.heap.size wr W → TwoT W b (off + k * 3) b' (off' + k * 3) t) := Lib.hid fun W hW =>
        ⟨(hW.cell (World.block_lt_of_cell? _ _ x0)).trans x0, (hW.cell (World.block_lt_of_cell? _ _ x1)).trans x1, (hW.cell (World.block_lt_of_cell? _ _ x2)).trans x2, (hW.cell (World.block_lt_of_cell? _ _ y0)).trans y0, (hW.cell (World.block_lt_of_cell? _ _ y1)).trans y1, (hW.cell (World.block_lt_of_cell? _ _ y2)).trans y2⟩
      have bdr : Below wr.heap.size wr wr.drew := below_drewN (Below.refl _ _) 1
      have S1 := HS.out wr.drew bdr
      have D1 : Hid (Calls Try.prog 46 #[.agg #[.int .i64 t.num, .int .i64 t.first, .int .i64 t.third], .agg #[.int .i64 t.num, .int .i64 t.first, .int .i64 t.third]] wr.drew (Same wr.drew true)) := Lib.hid (laws_eqProducer t.num t.first t.third wr.drew)
      clear hcell hcell' x0 x1 x2 y0 y1 y2 Ht
      go_upto_region 6 with (fail)
      unfold TwoT at S1
      go_region_held3 (fun W => W.cell? ⟨b, off + k * 3, none⟩ = some (.int .i64 t.num) ∧ W.cell? ⟨b, off + k * 3 + 1, none⟩ = some (.int .i64 t.first) ∧ W.cell? ⟨b, off + k * 3 + 2, none⟩ = some (.int .i64 t.third) ∧ W.cell? ⟨b', off' + k * 3, none⟩ = some (.int .i64 t.num) ∧ W.cell? ⟨b', off' + k * 3 + 1, none⟩ = some (.int .i64 t.first) ∧ W.cell? ⟨b', off' + k * 3 + 2, none⟩ = some (.int .i64 t.third)) (first | with_reducible exact S1 | exact HS.out _ (Bstep bdr b8) | go_keep)
        (first | (go_at_call 46; ((with_reducible refine D1.out.mono ?_); rintro e w8 ⟨rfl, b8⟩)))
      have B8 := Bstep bel (Bstep bdr b8)
      go_wp2_with fail
      go_roundw
      case rel => exact ⟨k + 1, by omega, by go_num, B8⟩
      case measure => simp [intOf]; omega
    · go_wp2_with fail
      go_ret
      exact ⟨rfl, bel⟩
def SzResT (w : World) (n : Nat) (left : Int) (e : Ending) (w' : World) : Prop := e = .returned (.int .i64 (if left - (n : Int) < 0 then -1 else left - (n : Int))) ∧ w = w'
theorem laws_szProducerS (v : Value) (ts : List Trm) (left : Int) (w : World) (h : Ts w v ts) (h0 : 0 ≤ left) (h1 : left ≤ 1048576) : Calls Try.prog 15 #[v, .int .i64 left] w (SzResT w ts.length left) := by
  obtain ⟨a, cap, rfl, hl, hm, hc⟩ := h
  unfold maxLen at hm
  clear hc
  by_cases hlt : left - (ts.length : Int) < 0
  · go_enter Try.func15, Try.ntmps15
    go_wp2_with fail
    go_ret
    exact ⟨ret_int (by rw [if_pos hlt]), rfl⟩
  · go_enter Try.func15, Try.ntmps15
    go_wp2_with fail
    go_ret
    exact ⟨ret_int (by rw [if_neg (by omega)]), rfl⟩
theorem laws_toProducer (x y z : Int) (w : World) : Calls Try.prog 42 #[.agg #[.int .i64 x, .int .i64 y, .int .i64 z]] w fun e w' => e = .returned (.agg #[.int .i64 x, .int .i64 y, .int .i64 z]) ∧ Below w.heap.size w w' := by
  go_enter Try.func42, Try.ntmps42
  go_wp2_with fail
  refine bodyPost_ret (v := .agg #[.int .i64 x, .int .i64 y, .int .i64 z]) (by simp [results, Try.results42, go_sem]) rfl ?_
  exact ⟨rfl, Bstep (Bstep (alloc_below' _ _) (alloc_below' _ _)) (alloc_below' _ _)⟩
/-- 'make([]impl.Term, n)' -/
theorem wp_makeT {w : World} {ops : Array Oper} {rest : List Oper} {o : Oper} {a : Act} {Q : Exit → Act → World → Prop}
    (hg : o.guard = none) (l c : Operand) (hop : o.op = Op.makeSlice 29 l c)
    (base : Nat) (L C : Int) (n : Nat) (hl : a.eval l = .int .i64 L) (hc : a.eval c = .int .i64 C) (hL : L = (n : Int)) (hC : C = (n : Int)) (b2 : n ≤ 1000000000) (b4 : base ≤ w.heap.size)
    (hK : ∀ w' f, Row2 w' base (.slice (some ⟨w.heap.size, 0, none⟩) n n) n f → w.grownBy w' none → wpList Try.prog ops Q rest (a.put o.dst (.slice (some ⟨w.heap.size, 0, none⟩) n n)) w') :
    wpList Try.prog ops Q (o :: rest) a w := by
  obtain ⟨i0, hi, hz0, hz1, hz2⟩ := info_parts info_term
  refine wpList_make_full w hg l c 29 hop base 42 i0 _ 3 Try.underlying29 hi hz0 hz1 .i64 .i64 L C n hl hc hL hC (by rw [hz2]; omega) (by unfold maxLen; omega) b4 ?_
  intro w' hown hgrow
  refine hK w' (fun i => ((madeCells (Value.agg #[.int .i64 0, .int .i64 0, .int .i64 0]).cells (n * 3)).toList)[i]?.getD undef) ⟨_, hown, fun i hi => ?_⟩ hgrow
  have hlen := hown.1
  dsimp only
  rw [List.getElem?_eq_getElem (by omega)]
  rfl
/-- a row of producers whose first j are in place -/
def UptoT (w : World) (base : Nat) (v : Value) (n : Nat) (ts : List Trm) (j : Nat) : Prop := ∃ f, Row2 w base v n f ∧ ∀ i, i < j * 3 → f i = rowT ts i
theorem UptoT.below {w w' : World} {base n j : Nat} {v : Value} {ts : List Trm} (h : UptoT w base v n ts j) (hb : Below w.heap.size w w') : UptoT w' base v n ts j := by
  obtain ⟨f, h1, h2⟩ := h
  exact ⟨f, h1.kept (row := none) ⟨hb.os, hb.tape, hb.output, hb.size, fun k hk _ => hb.block k hk⟩ (by cases v.ownBlock <;> simp), h2⟩
theorem UptoT.put {w : World} {base g n cap j : Nat} {ts : List Trm} {t : Trm} (h : UptoT w base (.slice (some ⟨g, 0, none⟩) n cap) n ts j) (hj : j < n) (ht : tAt ts j = t) :
    UptoT (((w.setCell ⟨g, j * 3, none⟩ (.int .i64 t.num)).setCell ⟨g, j * 3 + 1, none⟩ (.int .i64 t.first)).setCell ⟨g, j * 3 + 2, none⟩ (.int .i64 t.third)) base (.slice (some ⟨g, 0, none⟩) n cap) n ts (j + 1) := by
  obtain ⟨f, h1, h2⟩ := h
  refine ⟨_, ((h1.set (j * 3) (by omega) _).set (j * 3 + 1) (by omega) _).set (j * 3 + 2) (by omega) _, fun i hi => ?_⟩
  by_cases e2 : i = j * 3 + 2
  · subst e2
    rw [if_pos rfl, rowT_2, ht]
  rw [if_neg e2]
  by_cases e1 : i = j * 3 + 1
  · subst e1
    rw [if_pos rfl, rowT_1, ht]
  · rw [if_neg e1]
    by_cases e0 : i = j * 3
    · subst e0
      rw [if_pos rfl, rowT_0, ht]
    · rw [if_neg e0]
      exact h2 i (by omega)
theorem UptoT.facts {w : World} {base g n cap j : Nat} {ts : List Trm} (h : UptoT w base (.slice (some ⟨g, 0, none⟩) n cap) n ts j) : g < w.heap.size ∧ (∀ i, i < n * 3 → ∃ u, w.cell? ⟨g, i, none⟩ = some u) ∧ ∀ i, w.frozen? ⟨g, i, none⟩ = false := by
  obtain ⟨f, h1, h2⟩ := h
  exact ⟨(h1.lt g rfl).2, fun i hi => ⟨_, h1.cell i hi⟩, h1.frozen⟩
def CopyT (w : World) (ts : List Trm) (e : Ending) (w' : World) : Prop := ∃ v, e = .returned v ∧ OwnT w' w.heap.size v ts ∧ Below w.heap.size w w'
theorem laws_toProducerS (v : Value) (ts : List Trm) (w : World) (h : Ts w v ts) (hs : ts.length ≤ 1000000000) : Calls Try.prog 18 #[v] w (CopyT w ts) := by
  have hv := h
  obtain ⟨a, cap, rfl, hl, hm, hc⟩ := h
  unfold maxLen at hm
  clear hc
  go_enter Try.func18, Try.ntmps18
  go_wp2_with (at_make; refine wp_makeT rfl _ _ rfl w.heap.size _ _ ts.length rfl rfl rfl rfl hs (Nat.le_refl _) ?_; intro w0 f0 hrow0 hgrow0)
  have hb0 : Below w.heap.size w w0 := (Below.refl _ _).grown hgrow0 (Nat.le_refl _) (fun k hk => by cases hk)
  have start : UptoT w0 w.heap.size (.slice (some ⟨w.heap.size, 0, none⟩) ts.length ts.length) ts.length ts 0 := ⟨f0, hrow0, fun i hi => by omega⟩
  clear hrow0 hgrow0
  go_loopw [4] (fun i wr => ∃ j : Nat, j ≤ ts.length ∧ i = .int .i64 j ∧ UptoT wr w.heap.size (.slice (some ⟨w.heap.size, 0, none⟩) ts.length ts.length) ts.length ts j ∧ Below w.heap.size w wr) (fun i _ => ts.length - (intOf i).toNat)
  case atStart => exact ⟨0, Nat.zero_le _, rfl, start, hb0⟩
  case round =>
    clear start hb0
    obtain ⟨j, hj, rfl, hrow, bel⟩ := hrel
    by_cases hlt : j < ts.length
    · obtain ⟨b, off, cp, e, _, _, hcell⟩ := (hv.below bel).form (by omega)
      simp only [Value.slice.injEq, true_and] at e
      obtain ⟨rfl, rfl⟩ := e
      obtain ⟨x0, x1, x2⟩ := hcell j hlt
      obtain ⟨t, Ht⟩ : ∃ t, Hid (tAt ts j = t) := ⟨_, Lib.hid rfl⟩
      rw [Ht.out] at x0 x1 x2
      have C1 := Lib.hid (laws_toProducer t.num t.first t.third wr)
      clear hcell
      go_wp2_with fail
      (with_reducible refine C1.out.mono ?_)
      rintro e w2 ⟨rfl, b2⟩
      have B2 := Bstep bel b2
      have hrow2 := hrow.below b2
      obtain ⟨hg2, hcs, hfz⟩ := hrow2.facts
      obtain ⟨u0, d0⟩ := hcs (j * 3) (by omega)
      obtain ⟨u1, d1⟩ := hcs (j * 3 + 1) (by omega)
      obtain ⟨u2, d2⟩ := hcs (j * 3 + 2) (by omega)
      have new := hrow2.put hlt Ht.out
      have B3 : Below w.heap.size w (((w2.setCell ⟨w.heap.size, j * 3, none⟩ (.int .i64 t.num)).setCell ⟨w.heap.size, j * 3 + 1, none⟩ (.int .i64 t.first)).setCell ⟨w.heap.size, j * 3 + 2, none⟩ (.int .i64 t.third)) := ((B2.setCell (Nat.le_refl _) _).setCell (Nat.le_refl _) _).setCell (Nat.le_refl _) _
      clear hcs hrow hrow2 x0 x1 x2
      go_wp2_with fail
      go_roundw
      case rel => exact ⟨j + 1, by omega, by go_num, new, B3⟩
      case measure => simp [intOf]; omega
    · obtain rfl : j = ts.length := by omega
      obtain ⟨f, h1, h2⟩ := hrow
      go_wp2_with fail
      go_ret
      exact ⟨_, rfl, h1.congr h2, bel⟩
end Go.Proofs.Ytlppnhkgadcgdaa
