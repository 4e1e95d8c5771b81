/- The helpers of the laws on terms: rows are the same; they are copied, marked, and held against their marks. -/
import Derived.Test.YtfejolnfaechiaaT0
import Derived.Laws.StructEq
import Derived.Deep.QuietTactic
import Derived.BigQuiet
import Derived.Deep.RegionHeld3
import Derived.Deep.Cut
namespace Go.Proofs.Ytfejolnfaechiaa
open Go.ChangeShapes Go.WideShapes Go.ChangeAt Go.RowKit
set_option linter.unusedVariables false

theorem grown_trans' {a b c : World} {row : Option Nat} (h : a.grownBy b row) (k : b.grownBy c row) : a.grownBy c row :=
  ⟨k.os.trans h.os, k.tape.trans h.tape, k.output.trans h.output, Nat.le_trans h.size k.size, fun i hi hne => (k.block i (Nat.lt_of_lt_of_le hi h.size) hne).trans (h.block i hi hne)⟩
theorem term_struct : Try.prog.underlying 25 = some (.struct (Try.prog.fieldsOf 25)) := by kernel_rfl
theorem term_plain : Try.prog.stoodInHeld 25 = false := by kernel_rfl
theorem term_guard : Try.prog.eqGuardType Try.prog.depth 25 = false := by kernel_rfl
theorem term_same (w : World) (a b c d : Int) : (Op.equalIn 10000 25 (.agg #[.int .i64 a, .int .i64 b]) (.agg #[.int .i64 c, .int .i64 d])).run Try.prog w = .ok (a == c && b == d) w := by
  have u3 := Try.underlying3
  rw [show (10000 : Nat) = 9999 + 1 from rfl, run_equalIn_agg w 9999 25 _ _ term_struct term_plain]
  simp only [Program.fieldsOf, Try.underlying25]
  go_simp
  by_cases h1 : a = c <;> by_cases h2 : b = d <;> simp [h1, h2]
theorem term_eql (w : World) (a b c d : Int) : (binOp .eql 25 (.agg #[.int .i64 a, .int .i64 b]) (.agg #[.int .i64 c, .int .i64 d])).run Try.prog w = .ok (.bool (a == c && b == d)) w := by
  rw [run_eql_struct, term_same]
  rfl
theorem term_neq (w : World) (a b c d : Int) : (binOp .neq 25 (.agg #[.int .i64 a, .int .i64 b]) (.agg #[.int .i64 c, .int .i64 d])).run Try.prog w = .ok (.bool (!(a == c && b == d))) w := by
  rw [run_neq_struct, term_same]
  rfl

theorem laws_eqTerm (a b : Int) (w : World) : Calls Try.prog 45 #[.agg #[.int .i64 a, .int .i64 b], .agg #[.int .i64 a, .int .i64 b]] w (Same w true) := by
  have q1 : (a != a) = false := by simp
  have q2 : (b != b) = false := by simp
  have bA := alloc_below' w (.cells #[.int .i64 a, .int .i64 b] 25)
  have bB := Bstep bA (alloc_below' _ (.cells #[.int .i64 a, .int .i64 b] 25))
  go_enter Try.func45, Try.ntmps45
  go_wp2_with fail
  go_ret
  exact ⟨rfl, bB⟩
/-- the cells of two terms -/
def TwoT (W : World) (b p b' p' : Nat) (t : Trm) : Prop := W.cell? ⟨b, p, none⟩ = some (.int .i64 t.num) ∧ W.cell? ⟨b, p + 1, none⟩ = some (.int .i64 t.first) ∧ W.cell? ⟨b', p', none⟩ = some (.int .i64 t.num) ∧ W.cell? ⟨b', p' + 1, none⟩ = some (.int .i64 t.first)
theorem laws_eqTermS (v u : Value) (ts : List Trm) (w : World) (h : Ts w v ts) (g : Ts w u ts) : Calls Try.prog 29 #[v, u] w (Same w true) := by
  have hv := h
  have hu := g
  obtain ⟨a, cap, rfl, hl, hm, hc⟩ := h
  obtain ⟨a', cap', rfl, hl', hm', hc'⟩ := g
  unfold maxLen at hm hm'
  clear hc hc'
  have q0 : ((ts.length : Int) != (ts.length : Int)) = false := by simp
  go_enter Try.func29, Try.ntmps29
  go_wp2_with fail
  go_loopw [5] (fun i wr => ∃ k : Nat, k ≤ ts.length ∧ i = .int .i64 k ∧ Below w.heap.size w wr) (fun i _ => ts.length - (intOf i).toNat)
  case atStart => exact ⟨0, Nat.zero_le _, rfl, Below.refl _ _⟩
  case round =>
    obtain ⟨k, hk, rfl, bel⟩ := hrel
    by_cases hlt : k < ts.length
    · obtain ⟨b, off, cp, e, _, _, hcell⟩ := (hv.below bel).form (by omega)
      simp only [Value.slice.injEq, true_and] at e
      obtain ⟨rfl, rfl⟩ := e
      obtain ⟨b', off', cp', e, _, _, hcell'⟩ := (hu.below bel).form (by omega)
      simp only [Value.slice.injEq, true_and] at e
      obtain ⟨rfl, rfl⟩ := e
      obtain ⟨x0, x1⟩ := hcell k hlt
      obtain ⟨y0, y1⟩ := hcell' k hlt
      obtain ⟨t, Ht⟩ : ∃ t, Hid (tAt ts k = t) := ⟨_, Lib.hid rfl⟩
      rw [Ht.out] at x0 x1 y0 y1
      have HS : Hid (∀ W, Below wr.heap.size wr W → TwoT W b (off + k * 2) b' (off' + k * 2) t) := Lib.hid fun W hW =>
        ⟨(hW.cell (World.block_lt_of_cell? _ _ x0)).trans x0, (hW.cell (World.block_lt_of_cell? _ _ x1)).trans x1, (hW.cell (World.block_lt_of_cell? _ _ y0)).trans y0, (hW.cell (World.block_lt_of_cell? _ _ y1)).trans y1⟩
      have bdr : Below wr.heap.size wr wr.drew := below_drewN (Below.refl _ _) 1
      have S1 := HS.out wr.drew bdr
      have D1 : Hid (Calls Try.prog 45 #[.agg #[.int .i64 t.num, .int .i64 t.first], .agg #[.int .i64 t.num, .int .i64 t.first]] wr.drew (Same wr.drew true)) := Lib.hid (laws_eqTerm t.num t.first wr.drew)
      clear hcell hcell' x0 x1 y0 y1 Ht
      go_upto_region 6 with (fail)
      unfold TwoT at S1
      go_region_held3 (fun W => W.cell? ⟨b, off + k * 2, none⟩ = some (.int .i64 t.num) ∧ W.cell? ⟨b, off + k * 2 + 1, none⟩ = some (.int .i64 t.first) ∧ W.cell? ⟨b', off' + k * 2, none⟩ = some (.int .i64 t.num) ∧ W.cell? ⟨b', off' + k * 2 + 1, none⟩ = some (.int .i64 t.first)) (first | with_reducible exact S1 | exact HS.out _ (Bstep bdr b8) | go_keep)
        (first | (go_at_call 45; ((with_reducible refine D1.out.mono ?_); rintro e w8 ⟨rfl, b8⟩)))
      have B8 := Bstep bel (Bstep bdr b8)
      go_wp2_with fail
      go_roundw
      case rel => exact ⟨k + 1, by omega, by go_num, B8⟩
      case measure => simp [intOf]; omega
    · go_wp2_with fail
      go_ret
      exact ⟨rfl, bel⟩
theorem laws_sameTerms (v u : Value) (ts : List Trm) (w : World) (h : Ts w v ts) (g : Ts w u ts) : Calls Try.prog 17 #[v, u] w (Same w true) := by
  have hv := h
  have hu := g
  obtain ⟨a, cap, rfl, hl, hm, hc⟩ := h
  obtain ⟨a', cap', rfl, hl', hm', hc'⟩ := g
  unfold maxLen at hm hm'
  clear hc hc'
  have q0 : ((ts.length : Int) != (ts.length : Int)) = false := by simp
  have hgd := fun (w : World) (op : BinOp) (x y : Operand) (xs ys : Array Value) => run_eqGuard_agg (P := Try.prog) w op 25 x y xs ys term_guard
  go_enter Try.func17, Try.ntmps17
  go_wp2_with fail
  go_loopw [5] (fun i wr => ∃ k : Nat, k ≤ ts.length ∧ i = .int .i64 k ∧ Below w.heap.size w wr) (fun i _ => ts.length - (intOf i).toNat)
  case atStart => exact ⟨0, Nat.zero_le _, rfl, Below.refl _ _⟩
  case round =>
    obtain ⟨k, hk, rfl, bel⟩ := hrel
    by_cases hlt : k < ts.length
    · obtain ⟨b, off, cp, e, _, _, hcell⟩ := (hv.below bel).form (by omega)
      simp only [Value.slice.injEq, true_and] at e
      obtain ⟨rfl, rfl⟩ := e
      obtain ⟨b', off', cp', e, _, _, hcell'⟩ := (hu.below bel).form (by omega)
      simp only [Value.slice.injEq, true_and] at e
      obtain ⟨rfl, rfl⟩ := e
      obtain ⟨x0, x1⟩ := hcell k hlt
      obtain ⟨y0, y1⟩ := hcell' k hlt
      obtain ⟨t, Ht⟩ : ∃ t, Hid (tAt ts k = t) := ⟨_, Lib.hid rfl⟩
      rw [Ht.out] at x0 x1 y0 y1
      have hne : ∀ w : World, (binOp .neq 25 (.agg #[.int .i64 t.num, .int .i64 t.first]) (.agg #[.int .i64 t.num, .int .i64 t.first])).run Try.prog w = .ok (.bool false) w := fun w => by rw [term_neq]; simp
      clear hcell hcell' Ht
      have i0 : (0 : Int) ≤ (k : Int) := by omega
      have i1 : (k : Int) < (ts.length : Int) := by omega
      go_wp2_with fail
      go_quiet (fail)
      go_wp2_with fail
      go_roundw
      case rel => exact ⟨k + 1, by omega, by go_num, below_drewN bel _⟩
      case measure => simp [intOf]; omega
    · go_wp2_with fail
      go_ret
      exact ⟨rfl, bel⟩
def SzRes (w : World) (n : Nat) (left : Int) (e : Ending) (w' : World) : Prop := e = .returned (.int .i64 (if left - (n : Int) < 0 then -1 else left - (n : Int))) ∧ w = w'
theorem laws_szTermS (v : Value) (ts : List Trm) (left : Int) (w : World) (h : Ts w v ts) (h0 : 0 ≤ left) (h1 : left ≤ 1048576) : Calls Try.prog 27 #[v, .int .i64 left] w (SzRes w ts.length left) := by
  obtain ⟨a, cap, rfl, hl, hm, hc⟩ := h
  unfold maxLen at hm
  clear hc
  by_cases hlt : left - (ts.length : Int) < 0
  · go_enter Try.func27, Try.ntmps27
    go_wp2_with fail
    go_ret
    exact ⟨ret_int (by rw [if_pos hlt]), rfl⟩
  · go_enter Try.func27, Try.ntmps27
    go_wp2_with fail
    go_ret
    exact ⟨ret_int (by rw [if_neg (by omega)]), rfl⟩
theorem laws_toTerm (x y : Int) (w : World) : Calls Try.prog 32 #[.agg #[.int .i64 x, .int .i64 y]] w fun e w' => e = .returned (.agg #[.int .i64 x, .int .i64 y]) ∧ Below w.heap.size w w' := by
  go_enter Try.func32, Try.ntmps32
  go_wp2_with fail
  refine bodyPost_ret (v := .agg #[.int .i64 x, .int .i64 y]) (by simp [results, Try.results32, go_sem]) rfl ?_
  exact ⟨rfl, Bstep (Bstep (alloc_below' _ _) (alloc_below' _ _)) (alloc_below' _ _)⟩
/-- 'make([]impl.Term, n)' -/
theorem wp_makeT {w : World} {ops : Array Oper} {rest : List Oper} {o : Oper} {a : Act} {Q : Exit → Act → World → Prop}
    (hg : o.guard = none) (l c : Operand) (hop : o.op = Op.makeSlice 23 l c)
    (base : Nat) (L C : Int) (n : Nat) (hl : a.eval l = .int .i64 L) (hc : a.eval c = .int .i64 C) (hL : L = (n : Int)) (hC : C = (n : Int)) (b2 : n ≤ 1000000000) (b4 : base ≤ w.heap.size)
    (hK : ∀ w' f, Row2 w' base (.slice (some ⟨w.heap.size, 0, none⟩) n n) n f → w.grownBy w' none → wpList Try.prog ops Q rest (a.put o.dst (.slice (some ⟨w.heap.size, 0, none⟩) n n)) w') :
    wpList Try.prog ops Q (o :: rest) a w := by
  obtain ⟨i0, hi, hz0, hz1, hz2⟩ := info_parts info_term
  refine wpList_make_full w hg l c 23 hop base 25 i0 _ 2 Try.underlying23 hi hz0 hz1 .i64 .i64 L C n hl hc hL hC (by rw [hz2]; omega) (by unfold maxLen; omega) b4 ?_
  intro w' hown hgrow
  refine hK w' (fun i => ((madeCells (Value.agg #[.int .i64 0, .int .i64 0]).cells (n * 2)).toList)[i]?.getD undef) ⟨_, hown, fun i hi => ?_⟩ hgrow
  have hlen := hown.1
  dsimp only
  rw [List.getElem?_eq_getElem (by omega)]
  rfl
/-- a row of terms whose first j are in place -/
def UptoT (w : World) (base : Nat) (v : Value) (n : Nat) (ts : List Trm) (j : Nat) : Prop := ∃ f, Row2 w base v n f ∧ ∀ i, i < j * 2 → f i = rowT ts i
theorem UptoT.below {w w' : World} {base n j : Nat} {v : Value} {ts : List Trm} (h : UptoT w base v n ts j) (hb : Below w.heap.size w w') : UptoT w' base v n ts j := by
  obtain ⟨f, h1, h2⟩ := h
  exact ⟨f, h1.kept (row := none) ⟨hb.os, hb.tape, hb.output, hb.size, fun k hk _ => hb.block k hk⟩ (by cases v.ownBlock <;> simp), h2⟩
theorem UptoT.put {w : World} {base g n cap j : Nat} {ts : List Trm} {t : Trm} (h : UptoT w base (.slice (some ⟨g, 0, none⟩) n cap) n ts j) (hj : j < n) (ht : tAt ts j = t) :
    UptoT ((w.setCell ⟨g, j * 2, none⟩ (.int .i64 t.num)).setCell ⟨g, j * 2 + 1, none⟩ (.int .i64 t.first)) base (.slice (some ⟨g, 0, none⟩) n cap) n ts (j + 1) := by
  obtain ⟨f, h1, h2⟩ := h
  refine ⟨_, (h1.set (j * 2) (by omega) _).set (j * 2 + 1) (by omega) _, fun i hi => ?_⟩
  by_cases e1 : i = j * 2 + 1
  · subst e1
    rw [if_pos rfl, rowT_1, ht]
  · rw [if_neg e1]
    by_cases e0 : i = j * 2
    · subst e0
      rw [if_pos rfl, rowT_0, ht]
    · rw [if_neg e0]
      exact h2 i (by omega)
theorem UptoT.facts {w : World} {base g n cap j : Nat} {ts : List Trm} (h : UptoT w base (.slice (some ⟨g, 0, none⟩) n cap) n ts j) : g < w.heap.size ∧ (∀ i, i < n * 2 → ∃ u, w.cell? ⟨g, i, none⟩ = some u) ∧ ∀ i, w.frozen? ⟨g, i, none⟩ = false := by
  obtain ⟨f, h1, h2⟩ := h
  exact ⟨(h1.lt g rfl).2, fun i hi => ⟨_, h1.cell i hi⟩, h1.frozen⟩
def CopyT (w : World) (ts : List Trm) (e : Ending) (w' : World) : Prop := ∃ v, e = .returned v ∧ OwnT w' w.heap.size v ts ∧ Below w.heap.size w w'
theorem laws_toTermS (v : Value) (ts : List Trm) (w : World) (h : Ts w v ts) (hs : ts.length ≤ 1000000000) : Calls Try.prog 28 #[v] w (CopyT w ts) := by
  have hv := h
  obtain ⟨a, cap, rfl, hl, hm, hc⟩ := h
  unfold maxLen at hm
  clear hc
  go_enter Try.func28, Try.ntmps28
  go_wp2_with (at_make; refine wp_makeT rfl _ _ rfl w.heap.size _ _ ts.length rfl rfl rfl rfl hs (Nat.le_refl _) ?_; intro w0 f0 hrow0 hgrow0)
  have hb0 : Below w.heap.size w w0 := (Below.refl _ _).grown hgrow0 (Nat.le_refl _) (fun k hk => by cases hk)
  have start : UptoT w0 w.heap.size (.slice (some ⟨w.heap.size, 0, none⟩) ts.length ts.length) ts.length ts 0 := ⟨f0, hrow0, fun i hi => by omega⟩
  clear hrow0 hgrow0
  go_loopw [4] (fun i wr => ∃ j : Nat, j ≤ ts.length ∧ i = .int .i64 j ∧ UptoT wr w.heap.size (.slice (some ⟨w.heap.size, 0, none⟩) ts.length ts.length) ts.length ts j ∧ Below w.heap.size w wr) (fun i _ => ts.length - (intOf i).toNat)
  case atStart => exact ⟨0, Nat.zero_le _, rfl, start, hb0⟩
  case round =>
    clear start hb0
    obtain ⟨j, hj, rfl, hrow, bel⟩ := hrel
    by_cases hlt : j < ts.length
    · obtain ⟨b, off, cp, e, _, _, hcell⟩ := (hv.below bel).form (by omega)
      simp only [Value.slice.injEq, true_and] at e
      obtain ⟨rfl, rfl⟩ := e
      obtain ⟨x0, x1⟩ := hcell j hlt
      obtain ⟨t, Ht⟩ : ∃ t, Hid (tAt ts j = t) := ⟨_, Lib.hid rfl⟩
      rw [Ht.out] at x0 x1
      have C1 := Lib.hid (laws_toTerm t.num t.first wr)
      clear hcell
      go_wp2_with fail
      (with_reducible refine C1.out.mono ?_)
      rintro e w2 ⟨rfl, b2⟩
      have B2 := Bstep bel b2
      have hrow2 := hrow.below b2
      obtain ⟨hg2, hcs, hfz⟩ := hrow2.facts
      obtain ⟨u0, d0⟩ := hcs (j * 2) (by omega)
      obtain ⟨u1, d1⟩ := hcs (j * 2 + 1) (by omega)
      have new := hrow2.put hlt Ht.out
      have B3 : Below w.heap.size w ((w2.setCell ⟨w.heap.size, j * 2, none⟩ (.int .i64 t.num)).setCell ⟨w.heap.size, j * 2 + 1, none⟩ (.int .i64 t.first)) := (B2.setCell (Nat.le_refl _) _).setCell (Nat.le_refl _) _
      clear hcs hrow hrow2 x0 x1
      go_wp2_with fail
      go_roundw
      case rel => exact ⟨j + 1, by omega, by go_num, new, B3⟩
      case measure => simp [intOf]; omega
    · obtain rfl : j = ts.length := by omega
      obtain ⟨f, h1, h2⟩ := hrow
      go_wp2_with fail
      go_ret
      exact ⟨_, rfl, h1.congr h2, bel⟩
/-- the marks k, k + 1 .. of n terms -/
def marksT (k : Int) (n : Nat) : List Trm := (List.range n).map fun i : Nat => ⟨k + 2 * (i : Int), k + 2 * (i : Int) + 1⟩
theorem marksT_len (k : Int) (n : Nat) : (marksT k n).length = n := by simp [marksT]
theorem marksT_at (k : Int) (n i : Nat) (h : i < n) : tAt (marksT k n) i = ⟨k + 2 * (i : Int), k + 2 * (i : Int) + 1⟩ := by simp [marksT, tAt, List.getD, h]
def MarkT (w : World) (base : Nat) (v : Value) (k : Int) (n : Nat) (e : Ending) (w' : World) : Prop :=
  e = .returned (.int .i64 (k + 2 * (n : Int))) ∧ OwnT w' base v (marksT k n) ∧ w.grownBy w' v.ownBlock
theorem laws_markTermS (v : Value) (base : Nat) (ts : List Trm) (k : Int) (w : World) (h : OwnT w base v ts) (hk0 : 0 ≤ k) (hk1 : k ≤ 1000000000000) (hs : ts.length ≤ 1000000000000) :
    Calls Try.prog 30 #[v, .int .i64 k] w (MarkT w base v k ts.length) := by
  have hs0 := World.grownBy.refl w v.ownBlock
  obtain ⟨a, cap, rfl, hl, hm, _⟩ := h.ts
  unfold maxLen at hm
  rcases Nat.eq_zero_or_pos ts.length with h0 | h0
  · have e : ts = [] := List.eq_nil_of_length_eq_zero h0
    subst e
    go_enter Try.func30, Try.ntmps30
    go_wp2_with fail
    refine wp_loop_rounds 1 ?_
    rw [rounds_succ]
    go_wp2_with fail
    go_ret
    exact ⟨ret_int (by simp), h, hs0⟩
  · obtain ⟨g, cap', e⟩ := h.form h0
    simp only [Value.slice.injEq, true_and] at e
    obtain ⟨rfl, rfl⟩ := e
    have Hlen : Hid (∀ j, j ≤ ts.length → (marksT k j ++ ts.drop j).length = ts.length) := Lib.hid fun j hj => by simp [marksT_len]; omega
    clear hs0
    go_enter Try.func30, Try.ntmps30
    go_wp2_with fail
    go_loopw [1, 5] (fun q i wr => ∃ j : Nat, j ≤ ts.length ∧ i = .int .i64 j ∧ q = .int .i64 (k + 2 * (j : Int)) ∧ OwnT wr base (.slice (some ⟨g, 0, none⟩) ts.length cap) (marksT k j ++ ts.drop j) ∧ w.grownBy wr (some g)) (fun _ i _ => ts.length - (intOf i).toNat)
    case atStart => exact ⟨0, Nat.zero_le _, rfl, by simp, by simpa [marksT] using h, World.grownBy.refl _ _⟩
    case round =>
      obtain ⟨j, hj, rfl, rfl, hown, hgr⟩ := hrel
      by_cases hlt : j < ts.length
      · have hL := Hlen.out j hj
        have hL2 := Hlen.out (j + 1) hlt
        obtain ⟨c0, c1, f0, f1⟩ := hown.cellsAt j (by omega)
        have st := hown.store (ss := marksT k (j + 1) ++ ts.drop (j + 1)) j (by omega) (k + 2 * (j : Int)) (k + 2 * (j : Int) + 1) (by omega)
          (by rw [tAt_app1 (by rw [marksT_len]; omega), marksT_at k (j + 1) j (by omega)])
          (fun i hi hne => by
            rw [hL] at hi
            by_cases q : i < j
            · rw [tAt_app1 (by rw [marksT_len]; omega), tAt_app1 (by rw [marksT_len]; omega), marksT_at k (j + 1) i (by omega), marksT_at k j i q]
            · have e1 : tAt (marksT k (j + 1) ++ ts.drop (j + 1)) i = tAt ts i := by
                unfold tAt List.getD
                rw [List.getElem?_append_right (by rw [marksT_len]; omega), marksT_len, List.getElem?_drop, show j + 1 + (i - (j + 1)) = i by omega]
              have e2 : tAt (marksT k j ++ ts.drop j) i = tAt ts i := by
                unfold tAt List.getD
                rw [List.getElem?_append_right (by rw [marksT_len]; omega), marksT_len, List.getElem?_drop, show j + (i - j) = i by omega]
              rw [e1, e2])
        obtain ⟨old0, o0⟩ : ∃ x, wr.cell? ⟨g, j * 2, none⟩ = some x := ⟨_, c0⟩
        obtain ⟨old1, o1⟩ : ∃ x, wr.cell? ⟨g, j * 2 + 1, none⟩ = some x := ⟨_, c1⟩
        have G := grown_trans' hgr st.2
        have N := st.1
        clear c0 c1 st hL hL2 hown hgr
        go_wp2_with fail
        go_roundw
        case rel => exact ⟨j + 1, by omega, by go_num, by go_num, N, G⟩
        case measure => simp [intOf]; omega
      · obtain rfl : j = ts.length := by omega
        rw [List.drop_length, List.append_nil] at hown
        go_wp2_with fail
        go_ret
        exact ⟨rfl, hown, hgr⟩
theorem laws_heldTermS (v : Value) (k : Int) (n : Nat) (w : World) (h : Ts w v (marksT k n)) (hk0 : 0 ≤ k) (hk1 : k ≤ 1000000000000) (hs : n ≤ 1000000000000) :
    Calls Try.prog 31 #[v, .int .i64 k] w fun e w' => e = .returned (.int .i64 (k + 2 * (n : Int))) ∧ w = w' := by
  obtain ⟨a, cap, rfl, hl, hm, hc⟩ := h
  rw [marksT_len] at hl hc ⊢
  unfold maxLen at hm
  have hc' := Lib.hid hc
  clear hc
  go_enter Try.func31, Try.ntmps31
  go_wp2_with fail
  go_loop [1, 5] (fun q i => ∃ j : Nat, j ≤ n ∧ i = .int .i64 j ∧ q = .int .i64 (k + 2 * (j : Int))) (fun _ i => n - (intOf i).toNat)
  case atStart => exact ⟨0, Nat.zero_le _, rfl, by simp⟩
  case round =>
    obtain ⟨j, hj, rfl, rfl⟩ := hrel
    by_cases hlt : j < n
    · obtain ⟨b, off, rfl, hcell⟩ := hc'.out (by omega)
      obtain ⟨x0, x1⟩ := hcell j hlt
      clear hcell
      rw [marksT_at k n j hlt] at x0 x1
      simp only at x0 x1
      have q0 : (k + 2 * (j : Int) != k + 2 * (j : Int)) = false := by simp
      have q1 : (k + 2 * (j : Int) + 1 != k + 2 * (j : Int) + 1) = false := by simp
      go_wp2_with fail
      go_round
      case rel => exact ⟨j + 1, by omega, by go_num, by go_num⟩
      case measure => simp [intOf]; omega
    · obtain rfl : j = n := by omega
      go_wp2_with fail
      go_ret
      exact ⟨rfl, rfl⟩
end Go.Proofs.Ytfejolnfaechiaa
