/- The helpers of the laws on groups: rows are the same; they are copied, marked, and held against their marks. -/
import Derived.Test.YtmhgddlkhbkbaaaT32
import Derived.Laws.StructEq
import Derived.Deep.QuietTactic
import Derived.BigQuiet
import Derived.Deep.RegionHeld3
import Derived.Deep.Cut
namespace Go.Proofs.Ytmhgddlkhbkbaaa
open Go.ChangeShapes Go.WideShapes Go.ChangeAt Go.RowKit
set_option linter.unusedVariables false

theorem grown_trans' {a b c : World} {row : Option Nat} (h : a.grownBy b row) (k : b.grownBy c row) : a.grownBy c row :=
  ⟨k.os.trans h.os, k.tape.trans h.tape, k.output.trans h.output, Nat.le_trans h.size k.size, fun i hi hne => (k.block i (Nat.lt_of_lt_of_le hi h.size) hne).trans (h.block i hi hne)⟩
theorem term_struct : Try.prog.underlying 25 = some (.struct (Try.prog.fieldsOf 25)) := by kernel_rfl
theorem term_plain : Try.prog.stoodInHeld 25 = false := by kernel_rfl
theorem term_guard : Try.prog.eqGuardType Try.prog.depth 25 = false := by kernel_rfl
theorem term_same (w : World) (a : ByteArray) (b : Int) (c : ByteArray) (d : Int) : (Op.equalIn 10000 25 (.agg #[.string a, .int .i64 b]) (.agg #[.string c, .int .i64 d])).run Try.prog w = .ok (a.toList == c.toList && b == d) w := by
  have u3 := Try.underlying3
  have u9 := Try.underlying9
  rw [show (10000 : Nat) = 9999 + 1 from rfl, run_equalIn_agg w 9999 25 _ _ term_struct term_plain]
  simp only [Program.fieldsOf, Try.underlying25]
  go_simp
  by_cases h1 : a.toList = c.toList <;> by_cases h2 : b = d <;> simp [h1, h2]
theorem term_eql (w : World) (a : ByteArray) (b : Int) (c : ByteArray) (d : Int) : (binOp .eql 25 (.agg #[.string a, .int .i64 b]) (.agg #[.string c, .int .i64 d])).run Try.prog w = .ok (.bool (a.toList == c.toList && b == d)) w := by
  rw [run_eql_struct, term_same]
  rfl
theorem term_neq (w : World) (a : ByteArray) (b : Int) (c : ByteArray) (d : Int) : (binOp .neq 25 (.agg #[.string a, .int .i64 b]) (.agg #[.string c, .int .i64 d])).run Try.prog w = .ok (.bool (!(a.toList == c.toList && b == d))) w := by
  rw [run_neq_struct, term_same]
  rfl

theorem laws_eqGroup (a : ByteArray) (b : Int) (w : World) : Calls Try.prog 36 #[.agg #[.string a, .int .i64 b], .agg #[.string a, .int .i64 b]] w (Same w true) := by
  have q1 : (a.toList == a.toList) = true := by simp
  have q2 : (b != b) = false := by simp
  have bA := alloc_below' w (.cells #[.string a, .int .i64 b] 25)
  have bB := Bstep bA (alloc_below' _ (.cells #[.string a, .int .i64 b] 25))
  go_enter Try.func36, Try.ntmps36
  go_wp2_with fail
  go_ret
  exact ⟨rfl, bB⟩
/-- the cells of two groups -/
def TwoT (W : World) (b p b' p' : Nat) (t : Trm) : Prop := W.cell? ⟨b, p, none⟩ = some (.string t.name) ∧ W.cell? ⟨b, p + 1, none⟩ = some (.int .i64 t.next) ∧ W.cell? ⟨b', p', none⟩ = some (.string t.name) ∧ W.cell? ⟨b', p' + 1, none⟩ = some (.int .i64 t.next)
theorem laws_eqGroupS (v u : Value) (ts : List Trm) (w : World) (h : Ts w v ts) (g : Ts w u ts) : Calls Try.prog 23 #[v, u] w (Same w true) := by
  have hv := h
  have hu := g
  obtain ⟨a, cap, rfl, hl, hm, hc⟩ := h
  obtain ⟨a', cap', rfl, hl', hm', hc'⟩ := g
  unfold maxLen at hm hm'
  clear hc hc'
  have q0 : ((ts.length : Int) != (ts.length : Int)) = false := by simp
  go_enter Try.func23, Try.ntmps23
  go_wp2_with fail
  go_loopw [5] (fun i wr => ∃ k : Nat, k ≤ ts.length ∧ i = .int .i64 k ∧ Below w.heap.size w wr) (fun i _ => ts.length - (intOf i).toNat)
  case atStart => exact ⟨0, Nat.zero_le _, rfl, Below.refl _ _⟩
  case round =>
    obtain ⟨k, hk, rfl, bel⟩ := hrel
    by_cases hlt : k < ts.length
    · obtain ⟨b, off, cp, e, _, _, hcell⟩ := (hv.below bel).form (by omega)
      simp only [Value.slice.injEq, true_and] at e
      obtain ⟨rfl, rfl⟩ := e
      obtain ⟨b', off', cp', e, _, _, hcell'⟩ := (hu.below bel).form (by omega)
      simp only [Value.slice.injEq, true_and] at e
      obtain ⟨rfl, rfl⟩ := e
      obtain ⟨x0, x1⟩ := hcell k hlt
      obtain ⟨y0, y1⟩ := hcell' k hlt
      obtain ⟨t, Ht⟩ : ∃ t, Hid (tAt ts k = t) := ⟨_, Lib.hid rfl⟩
      rw [Ht.out] at x0 x1 y0 y1
      have HS : Hid (∀ W, Below wr.heap.size wr W → TwoT W b (off + k * 2) b' (off' + k * 2) t) := Lib.hid fun W hW =>
        ⟨(hW.cell (World.block_lt_of_cell? _ _ x0)).trans x0, (hW.cell (World.block_lt_of_cell? _ _ x1)).trans x1, (hW.cell (World.block_lt_of_cell? _ _ y0)).trans y0, (hW.cell (World.block_lt_of_cell? _ _ y1)).trans y1⟩
      have bdr : Below wr.heap.size wr wr.drew := below_drewN (Below.refl _ _) 1
      have S1 := HS.out wr.drew bdr
      have D1 : Hid (Calls Try.prog 36 #[.agg #[.string t.name, .int .i64 t.next], .agg #[.string t.name, .int .i64 t.next]] wr.drew (Same wr.drew true)) := Lib.hid (laws_eqGroup t.name t.next wr.drew)
      clear hcell hcell' x0 x1 y0 y1 Ht
      go_upto_region 6 with (fail)
      unfold TwoT at S1
      go_region_held3 (fun W => W.cell? ⟨b, off + k * 2, none⟩ = some (.string t.name) ∧ W.cell? ⟨b, off + k * 2 + 1, none⟩ = some (.int .i64 t.next) ∧ W.cell? ⟨b', off' + k * 2, none⟩ = some (.string t.name) ∧ W.cell? ⟨b', off' + k * 2 + 1, none⟩ = some (.int .i64 t.next)) (first | with_reducible exact S1 | exact HS.out _ (Bstep bdr b8) | go_keep)
        (first | (go_at_call 36; ((with_reducible refine D1.out.mono ?_); rintro e w8 ⟨rfl, b8⟩)))
      have B8 := Bstep bel (Bstep bdr b8)
      go_wp2_with fail
      go_roundw
      case rel => exact ⟨k + 1, by omega, by go_num, B8⟩
      case measure => simp [intOf]; omega
    · go_wp2_with fail
      go_ret
      exact ⟨rfl, bel⟩
theorem laws_sameGroups (v u : Value) (ts : List Trm) (w : World) (h : Ts w v ts) (g : Ts w u ts) : Calls Try.prog 14 #[v, u] w (Same w true) := by
  have hv := h
  have hu := g
  obtain ⟨a, cap, rfl, hl, hm, hc⟩ := h
  obtain ⟨a', cap', rfl, hl', hm', hc'⟩ := g
  unfold maxLen at hm hm'
  clear hc hc'
  have q0 : ((ts.length : Int) != (ts.length : Int)) = false := by simp
  have hgd := fun (w : World) (op : BinOp) (x y : Operand) (xs ys : Array Value) => run_eqGuard_agg (P := Try.prog) w op 25 x y xs ys term_guard
  go_enter Try.func14, Try.ntmps14
  go_wp2_with fail
  go_loopw [5] (fun i wr => ∃ k : Nat, k ≤ ts.length ∧ i = .int .i64 k ∧ Below w.heap.size w wr) (fun i _ => ts.length - (intOf i).toNat)
  case atStart => exact ⟨0, Nat.zero_le _, rfl, Below.refl _ _⟩
  case round =>
    obtain ⟨k, hk, rfl, bel⟩ := hrel
    by_cases hlt : k < ts.length
    · obtain ⟨b, off, cp, e, _, _, hcell⟩ := (hv.below bel).form (by omega)
      simp only [Value.slice.injEq, true_and] at e
      obtain ⟨rfl, rfl⟩ := e
      obtain ⟨b', off', cp', e, _, _, hcell'⟩ := (hu.below bel).form (by omega)
      simp only [Value.slice.injEq, true_and] at e
      obtain ⟨rfl, rfl⟩ := e
      obtain ⟨x0, x1⟩ := hcell k hlt
      obtain ⟨y0, y1⟩ := hcell' k hlt
      obtain ⟨t, Ht⟩ : ∃ t, Hid (tAt ts k = t) := ⟨_, Lib.hid rfl⟩
      rw [Ht.out] at x0 x1 y0 y1
      have hne : ∀ w : World, (binOp .neq 25 (.agg #[.string t.name, .int .i64 t.next]) (.agg #[.string t.name, .int .i64 t.next])).run Try.prog w = .ok (.bool false) w := fun w => by rw [term_neq]; simp
      clear hcell hcell' Ht
      have i0 : (0 : Int) ≤ (k : Int) := by omega
      have i1 : (k : Int) < (ts.length : Int) := by omega
      go_wp2_with fail
      go_quiet (fail)
      go_wp2_with fail
      go_roundw
      case rel => exact ⟨k + 1, by omega, by go_num, below_drewN bel _⟩
      case measure => simp [intOf]; omega
    · go_wp2_with fail
      go_ret
      exact ⟨rfl, bel⟩
/-- what is left behind a name -/
def szN (left : Int) (t : Trm) : Int := if left < 0 then -1 else if left - (t.name.size : Int) < 0 then -1 else left - (t.name.size : Int)
def szK (left : Int) (ts : List Trm) : Nat → Int
  | 0 => left
  | k + 1 => szN (szK left ts k) (tAt ts k)
theorem szN_neg {left : Int} (t : Trm) (h : left < 0) : szN left t = -1 := by unfold szN; rw [if_pos h]
theorem szN_ge (left : Int) (t : Trm) : -1 ≤ szN left t := by unfold szN; split <;> (try split) <;> omega
theorem szN_le (left : Int) (t : Trm) (h : -1 ≤ left) : szN left t ≤ left := by unfold szN; split <;> (try split) <;> omega
theorem szK_in (left : Int) (ts : List Trm) (h : -1 ≤ left) (k : Nat) : -1 ≤ szK left ts k ∧ szK left ts k ≤ left := by
  induction k with
  | zero => exact ⟨h, Int.le_refl _⟩
  | succ k ih =>
    refine ⟨szN_ge _ _, ?_⟩
    have := szN_le (szK left ts k) (tAt ts k) ih.1
    show szN _ _ ≤ left
    omega
theorem szK_neg (left : Int) (ts : List Trm) {k n : Nat} (h : szK left ts k = -1) (hn : k ≤ n) : szK left ts n = -1 := by
  induction n with
  | zero => obtain rfl : k = 0 := by omega
            exact h
  | succ n ih =>
    by_cases e : k = n + 1
    · subst e; exact h
    · show szN _ _ = -1
      rw [ih (by omega)]
      exact szN_neg _ (by omega)
theorem laws_szGroup (t : Trm) (left : Int) (w : World) (h0 : 0 ≤ left) (h1 : left ≤ 1048576) : Calls Try.prog 24 #[.agg #[.string t.name, .int .i64 t.next], .int .i64 left] w (fun e w' => e = .returned (.int .i64 (szN left t)) ∧ Below w.heap.size w w') := by
  have bA := alloc_below' w (.cells #[.string t.name, .int .i64 t.next] 40)
  have hf := t.fits
  unfold maxLen at hf
  have e1 : IntKind.i64.wrap (left - (t.name.size : Int)) = left - (t.name.size : Int) := IntWalk.i64_in _ ⟨by omega, by omega⟩
  by_cases hlt : left - (t.name.size : Int) < 0
  · have d0 : decide (left - (t.name.size : Int) < 0) = true := decide_eq_true hlt
    go_enter Try.func24, Try.ntmps24
    go_wp2_with fail
    go_ret
    exact ⟨ret_int (by unfold szN; rw [if_neg (by omega), if_pos hlt]), bA⟩
  · have d0 : decide (left - (t.name.size : Int) < 0) = false := decide_eq_false hlt
    go_enter Try.func24, Try.ntmps24
    go_wp2_with fail
    go_ret
    exact ⟨ret_int (by unfold szN; rw [if_neg (by omega), if_neg (by omega)]), bA⟩
def szT (ts : List Trm) (left : Int) : Int := if left - (ts.length : Int) < 0 then -1 else szK (left - (ts.length : Int)) ts ts.length
theorem szT_in (ts : List Trm) (left : Int) (h : 0 ≤ left) : -1 ≤ szT ts left ∧ szT ts left ≤ left := by
  unfold szT
  split
  · omega
  · have := szK_in (left - (ts.length : Int)) ts (by omega) ts.length
    omega
def SzRes (w : World) (r : Int) (e : Ending) (w' : World) : Prop := e = .returned (.int .i64 r) ∧ Below w.heap.size w w'
theorem laws_szGroupS (v : Value) (ts : List Trm) (left : Int) (w : World) (h : Ts w v ts) (h0 : 0 ≤ left) (h1 : left ≤ 1048576) : Calls Try.prog 21 #[v, .int .i64 left] w (SzRes w (szT ts left)) := by
  have hv := h
  obtain ⟨a, cap, rfl, hl, hm, hc⟩ := h
  unfold maxLen at hm
  clear hc
  have e1 : IntKind.i64.wrap (left - (ts.length : Int)) = left - (ts.length : Int) := IntWalk.i64_in _ ⟨by omega, by omega⟩
  by_cases hlt : left - (ts.length : Int) < 0
  · have d0 : decide (left - (ts.length : Int) < 0) = true := decide_eq_true hlt
    go_enter Try.func21, Try.ntmps21
    go_wp2_with fail
    go_ret
    exact ⟨ret_int (by unfold szT; rw [if_pos hlt]), Below.refl _ _⟩
  · have d0 : decide (left - (ts.length : Int) < 0) = false := decide_eq_false hlt
    go_enter Try.func21, Try.ntmps21
    go_wp2_with fail
    go_loopw [1, 5] (fun q i wr => ∃ (j : Nat) (r : Int), j ≤ ts.length ∧ i = .int .i64 j ∧ q = .int .i64 r ∧ r = szK (left - (ts.length : Int)) ts j ∧ 0 ≤ r ∧ Below w.heap.size w wr) (fun _ i _ => ts.length - (intOf i).toNat)
    case atStart => exact ⟨0, _, Nat.zero_le _, rfl, rfl, rfl, by omega, Below.refl _ _⟩
    case round =>
      obtain ⟨j, r, hj, rfl, rfl, hr, hr0, bel⟩ := hrel
      have hr1 : r ≤ 1048576 := by have := (szK_in (left - (ts.length : Int)) ts (by omega) j).2; omega
      have Hr := Lib.hid hr
      clear hr
      by_cases hj2 : j < ts.length
      · obtain ⟨b, off, cp, e, _, _, hcell⟩ := (hv.below bel).form (by omega)
        simp only [Value.slice.injEq, true_and] at e
        obtain ⟨rfl, rfl⟩ := e
        obtain ⟨x0, x1⟩ := hcell j hj2
        obtain ⟨t, Ht⟩ : ∃ t, Hid (tAt ts j = t) := ⟨_, Lib.hid rfl⟩
        rw [Ht.out] at x0 x1
        have C1 := Lib.hid (laws_szGroup t r wr hr0 hr1)
        have HN : Hid (szK (left - (ts.length : Int)) ts (j + 1) = szN r t) := Lib.hid (by show szN _ _ = _; rw [Ht.out, ← Hr.out])
        obtain ⟨r2, hr2⟩ : ∃ r2, szN r t = r2 := ⟨_, rfl⟩
        have hg2 : -1 ≤ r2 := by rw [← hr2]; exact szN_ge _ _
        rw [hr2] at C1 HN
        clear hcell hr2
        go_wp2_with fail
        (with_reducible refine C1.out.mono ?_)
        rintro e w2 ⟨rfl, b2⟩
        have B2 := Bstep bel b2
        by_cases hneg : r2 < 0
        · have dn : decide (r2 < 0) = true := decide_eq_true hneg
          have HE : Hid (szT ts left = -1) := Lib.hid (by unfold szT; rw [if_neg (by omega)]; exact szK_neg _ _ (k := j + 1) (by rw [HN.out]; omega) (by omega))
          go_wp2_with fail
          go_ret
          exact ⟨ret_int HE.out.symm, B2⟩
        · have dn : decide (r2 < 0) = false := decide_eq_false hneg
          go_wp2_with fail
          go_roundw
          case rel => exact ⟨j + 1, r2, by omega, by go_num, rfl, HN.out.symm, by omega, B2⟩
          case measure => simp [intOf]; omega
      · obtain rfl : j = ts.length := by omega
        go_wp2_with fail
        go_ret
        exact ⟨ret_int (by unfold szT; rw [if_neg (by omega)]; exact Hr.out), bel⟩
theorem laws_toGroup (x : ByteArray) (y : Int) (w : World) : Calls Try.prog 25 #[.agg #[.string x, .int .i64 y]] w fun e w' => e = .returned (.agg #[.string x, .int .i64 y]) ∧ Below w.heap.size w w' := by
  go_enter Try.func25, Try.ntmps25
  go_wp2_with fail
  refine bodyPost_ret (v := .agg #[.string x, .int .i64 y]) (by simp [results, Try.results25, go_sem]) rfl ?_
  exact ⟨rfl, Bstep (Bstep (alloc_below' _ _) (alloc_below' _ _)) (alloc_below' _ _)⟩
/-- 'make([]impl.Term, n)' -/
theorem wp_makeT {w : World} {ops : Array Oper} {rest : List Oper} {o : Oper} {a : Act} {Q : Exit → Act → World → Prop}
    (hg : o.guard = none) (l c : Operand) (hop : o.op = Op.makeSlice 23 l c)
    (base : Nat) (L C : Int) (n : Nat) (hl : a.eval l = .int .i64 L) (hc : a.eval c = .int .i64 C) (hL : L = (n : Int)) (hC : C = (n : Int)) (b2 : n ≤ 1000000000) (b4 : base ≤ w.heap.size)
    (hK : ∀ w' f, Row2 w' base (.slice (some ⟨w.heap.size, 0, none⟩) n n) n f → w.grownBy w' none → wpList Try.prog ops Q rest (a.put o.dst (.slice (some ⟨w.heap.size, 0, none⟩) n n)) w') :
    wpList Try.prog ops Q (o :: rest) a w := by
  obtain ⟨i0, hi, hz0, hz1, hz2⟩ := info_parts info_term
  refine wpList_make_full w hg l c 23 hop base 25 i0 _ 2 Try.underlying23 hi hz0 hz1 .i64 .i64 L C n hl hc hL hC (by rw [hz2]; omega) (by unfold maxLen; omega) b4 ?_
  intro w' hown hgrow
  refine hK w' (fun i => ((madeCells (Value.agg #[.string .empty, .int .i64 0]).cells (n * 2)).toList)[i]?.getD undef) ⟨_, hown, fun i hi => ?_⟩ hgrow
  have hlen := hown.1
  dsimp only
  rw [List.getElem?_eq_getElem (by omega)]
  rfl
/-- a row of groups whose first j are in place -/
def UptoT (w : World) (base : Nat) (v : Value) (n : Nat) (ts : List Trm) (j : Nat) : Prop := ∃ f, Row2 w base v n f ∧ ∀ i, i < j * 2 → f i = rowT ts i
theorem UptoT.below {w w' : World} {base n j : Nat} {v : Value} {ts : List Trm} (h : UptoT w base v n ts j) (hb : Below w.heap.size w w') : UptoT w' base v n ts j := by
  obtain ⟨f, h1, h2⟩ := h
  exact ⟨f, h1.kept (row := none) ⟨hb.os, hb.tape, hb.output, hb.size, fun k hk _ => hb.block k hk⟩ (by cases v.ownBlock <;> simp), h2⟩
theorem UptoT.put {w : World} {base g n cap j : Nat} {ts : List Trm} {t : Trm} (h : UptoT w base (.slice (some ⟨g, 0, none⟩) n cap) n ts j) (hj : j < n) (ht : tAt ts j = t) :
    UptoT ((w.setCell ⟨g, j * 2, none⟩ (.string t.name)).setCell ⟨g, j * 2 + 1, none⟩ (.int .i64 t.next)) base (.slice (some ⟨g, 0, none⟩) n cap) n ts (j + 1) := by
  obtain ⟨f, h1, h2⟩ := h
  refine ⟨_, (h1.set (j * 2) (by omega) _).set (j * 2 + 1) (by omega) _, fun i hi => ?_⟩
  by_cases e1 : i = j * 2 + 1
  · subst e1
    rw [if_pos rfl, rowT_1, ht]
  · rw [if_neg e1]
    by_cases e0 : i = j * 2
    · subst e0
      rw [if_pos rfl, rowT_0, ht]
    · rw [if_neg e0]
      exact h2 i (by omega)
theorem UptoT.facts {w : World} {base g n cap j : Nat} {ts : List Trm} (h : UptoT w base (.slice (some ⟨g, 0, none⟩) n cap) n ts j) : g < w.heap.size ∧ (∀ i, i < n * 2 → ∃ u, w.cell? ⟨g, i, none⟩ = some u) ∧ ∀ i, w.frozen? ⟨g, i, none⟩ = false := by
  obtain ⟨f, h1, h2⟩ := h
  exact ⟨(h1.lt g rfl).2, fun i hi => ⟨_, h1.cell i hi⟩, h1.frozen⟩
def CopyT (w : World) (ts : List Trm) (e : Ending) (w' : World) : Prop := ∃ v, e = .returned v ∧ OwnT w' w.heap.size v ts ∧ Below w.heap.size w w'
theorem laws_toGroupS (v : Value) (ts : List Trm) (w : World) (h : Ts w v ts) (hs : ts.length ≤ 1000000000) : Calls Try.prog 22 #[v] w (CopyT w ts) := by
  have hv := h
  obtain ⟨a, cap, rfl, hl, hm, hc⟩ := h
  unfold maxLen at hm
  clear hc
  go_enter Try.func22, Try.ntmps22
  go_wp2_with (at_make; refine wp_makeT rfl _ _ rfl w.heap.size _ _ ts.length rfl rfl rfl rfl hs (Nat.le_refl _) ?_; intro w0 f0 hrow0 hgrow0)
  have hb0 : Below w.heap.size w w0 := (Below.refl _ _).grown hgrow0 (Nat.le_refl _) (fun k hk => by cases hk)
  have start : UptoT w0 w.heap.size (.slice (some ⟨w.heap.size, 0, none⟩) ts.length ts.length) ts.length ts 0 := ⟨f0, hrow0, fun i hi => by omega⟩
  clear hrow0 hgrow0
  go_loopw [4] (fun i wr => ∃ j : Nat, j ≤ ts.length ∧ i = .int .i64 j ∧ UptoT wr w.heap.size (.slice (some ⟨w.heap.size, 0, none⟩) ts.length ts.length) ts.length ts j ∧ Below w.heap.size w wr) (fun i _ => ts.length - (intOf i).toNat)
  case atStart => exact ⟨0, Nat.zero_le _, rfl, start, hb0⟩
  case round =>
    clear start hb0
    obtain ⟨j, hj, rfl, hrow, bel⟩ := hrel
    by_cases hlt : j < ts.length
    · obtain ⟨b, off, cp, e, _, _, hcell⟩ := (hv.below bel).form (by omega)
      simp only [Value.slice.injEq, true_and] at e
      obtain ⟨rfl, rfl⟩ := e
      obtain ⟨x0, x1⟩ := hcell j hlt
      obtain ⟨t, Ht⟩ : ∃ t, Hid (tAt ts j = t) := ⟨_, Lib.hid rfl⟩
      rw [Ht.out] at x0 x1
      have C1 := Lib.hid (laws_toGroup t.name t.next wr)
      clear hcell
      go_wp2_with fail
      (with_reducible refine C1.out.mono ?_)
      rintro e w2 ⟨rfl, b2⟩
      have B2 := Bstep bel b2
      have hrow2 := hrow.below b2
      obtain ⟨hg2, hcs, hfz⟩ := hrow2.facts
      obtain ⟨u0, d0⟩ := hcs (j * 2) (by omega)
      obtain ⟨u1, d1⟩ := hcs (j * 2 + 1) (by omega)
      have new := hrow2.put hlt Ht.out
      have B3 : Below w.heap.size w ((w2.setCell ⟨w.heap.size, j * 2, none⟩ (.string t.name)).setCell ⟨w.heap.size, j * 2 + 1, none⟩ (.int .i64 t.next)) := (B2.setCell (Nat.le_refl _) _).setCell (Nat.le_refl _) _
      clear hcs hrow hrow2 x0 x1
      go_wp2_with fail
      go_roundw
      case rel => exact ⟨j + 1, by omega, by go_num, new, B3⟩
      case measure => simp [intOf]; omega
    · obtain rfl : j = ts.length := by omega
      obtain ⟨f, h1, h2⟩ := hrow
      go_wp2_with fail
      go_ret
      exact ⟨_, rfl, h1.congr h2, bel⟩
end Go.Proofs.Ytmhgddlkhbkbaaa
