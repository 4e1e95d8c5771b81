/- The helpers of the laws: two rows of numbers are the same; a row is copied, marked, and held against its marks. -/
import Derived.Test.YtfapeppocfodpaaOwn
import Derived.Deep.QuietTactic
import Derived.BigQuiet
import Derived.WalkSmall
namespace Go.Proofs.Ytfapeppocfodpaa
open Go.ChangeShapes Go.WideShapes Go.ChangeAt Go.RowKit
set_option linter.unusedVariables false

def Same (w : World) (b : Bool) (e : Ending) (w' : World) : Prop := e = .returned (.bool b) ∧ Below w.heap.size w w'

/-- a result of the call's own: numbers in new memory; nothing that was there has turned -/
def NewInts (w : World) (xs : List Int) (ok : Bool) (e : Ending) (w' : World) : Prop :=
  ∃ v, e = .returned (.tuple #[v, .bool ok]) ∧ Own w' w.heap.size v xs ∧ Below w.heap.size w w'
def NewInts1 (w : World) (xs : List Int) (e : Ending) (w' : World) : Prop :=
  ∃ v, e = .returned v ∧ Own w' w.heap.size v xs ∧ Below w.heap.size w w'

theorem beq_no_len {xs ys : List Int} (h : xs.length ≠ ys.length) : (xs == ys) = false := by
  rw [beq_eq_false_iff_ne]; intro e; exact h (by rw [e])
theorem beq_no_at {xs ys : List Int} {k : Nat} {x y : Int} (hx : xs.getD k 0 = x) (hy : ys.getD k 0 = y) (h : x ≠ y) : (xs == ys) = false := by
  rw [beq_eq_false_iff_ne]; intro e; subst e; exact h (hx.symm.trans hy)
theorem beq_yes {xs ys : List Int} (hl : xs.length = ys.length) (h : ∀ i, i < xs.length → xs.getD i 0 = ys.getD i 0) : (xs == ys) = true := by
  rw [beq_iff_eq]
  apply List.ext_getElem hl
  intro i h1 h2
  have := h i h1
  simpa [List.getD, h1, h2] using this
def FirstSame (xs ys : List Int) (k : Nat) : Prop := ∀ i, i < k → xs.getD i 0 = ys.getD i 0
theorem FirstSame.snoc {xs ys : List Int} {k : Nat} {x y : Int} (h : FirstSame xs ys k) (hx : xs.getD k 0 = x) (hy : ys.getD k 0 = y) (e : x = y) : FirstSame xs ys (k + 1) := fun i hi => by
  by_cases q : i = k
  · subst q; rw [hx, hy, e]
  · exact h i (by omega)

theorem laws_sameInts (v u : Value) (xs ys : List Int) (w : World) (h : Ints w v xs) (g : Ints w u ys) :
    Calls Try.prog 21 #[v, u] w (Same w (xs == ys)) := by
  have h2 := h
  have g2 := g
  obtain ⟨a, cap, rfl, hl, hm, hc⟩ := h2
  obtain ⟨b, cap2, rfl, gl, gm, gc⟩ := g2
  unfold maxLen at hm gm
  by_cases he : xs.length = ys.length
  · have hn : ((xs.length : Int) != (ys.length : Int)) = false := by simp [he]
    have hn' : (xs.length != ys.length) = false := by simp [he]
    have He := Lib.hid he
    have hlt' : ys.length ≤ xs.length := by omega
    clear he
    have hc' := Lib.hid hc
    have gc' := Lib.hid gc
    clear hc gc
    go_enter Try.func21, Try.ntmps21
    go_wp2
    go_loopw [5] (fun i wr => ∃ k : Nat, k ≤ xs.length ∧ i = .int .i64 k ∧ FirstSame xs ys k ∧ Below w.heap.size w wr) (fun i _ => xs.length - (intOf i).toNat)
    case atStart => exact ⟨0, Nat.zero_le _, rfl, fun i hi => by omega, Below.refl _ _⟩
    case round =>
      obtain ⟨k, hk, rfl, hrel, hbel⟩ := hrel
      by_cases hlt : k < xs.length
      · have hlt2 : k < ys.length := by have := He.out; omega
        obtain ⟨b1, off1, rfl, hcell⟩ := hc'.out (by omega)
        obtain ⟨b2, off2, rfl, gcell⟩ := gc'.out (by omega)
        have hx := (hbel.cell (World.block_lt_of_cell? w _ (hcell k hlt))).trans (hcell k hlt)
        have hy := (hbel.cell (World.block_lt_of_cell? w _ (gcell k hlt2))).trans (gcell k hlt2)
        clear hcell gcell
        obtain ⟨x, ex⟩ : ∃ x, xs.getD k 0 = x := ⟨_, rfl⟩
        obtain ⟨y, ey⟩ : ∃ y, ys.getD k 0 = y := ⟨_, rfl⟩
        rw [ex] at hx
        rw [ey] at hy
        have Ex := Lib.hid ex
        have Ey := Lib.hid ey
        clear ex ey
        have i0 : (0 : Int) ≤ (k : Int) := by omega
        have i1 : (k : Int) < (xs.length : Int) := by omega
        have i2 : (k : Int) < (ys.length : Int) := by omega
        by_cases hxy : x = y
        · have H1 := hrel.snoc Ex.out Ey.out hxy
          have hq : (x != y) = false := by simp [hxy]
          clear hxy
          go_wp2
          go_quiet (fail)
          go_wp2
          go_roundw
          case rel => exact ⟨k + 1, by omega, by go_num, H1, below_drewN hbel _⟩
          case measure => simp [intOf]; omega
        · have hq : (x != y) = true := by simp [hxy]
          have H1 := Lib.hid (beq_no_at Ex.out Ey.out hxy)
          clear hxy
          go_wp2
          go_quiet (fail)
          go_wp2
          go_ret
          exact ⟨ret_bool H1.out.symm, below_drewN hbel _⟩
      · go_wp2
        go_ret
        exact ⟨ret_bool (beq_yes He.out fun i hi => hrel i (by omega)).symm, hbel⟩
  · have hn : ((xs.length : Int) != (ys.length : Int)) = true := by simp; omega
    have hn' : (xs.length != ys.length) = true := by simp [he]
    have H1 := Lib.hid (beq_no_len he)
    go_enter Try.func21, Try.ntmps21
    go_wp2
    go_ret
    exact ⟨ret_bool H1.out.symm, Below.refl _ _⟩
theorem laws_eqIntS (v u : Value) (xs ys : List Int) (w : World) (h : Ints w v xs) (g : Ints w u ys) :
    Calls Try.prog 13 #[v, u] w (Same w (xs == ys)) := by
  have h2 := h
  have g2 := g
  obtain ⟨a, cap, rfl, hl, hm, hc⟩ := h2
  obtain ⟨b, cap2, rfl, gl, gm, gc⟩ := g2
  unfold maxLen at hm gm
  by_cases he : xs.length = ys.length
  · have hn : ((xs.length : Int) != (ys.length : Int)) = false := by simp [he]
    have hn' : (xs.length != ys.length) = false := by simp [he]
    have He := Lib.hid he
    have hlt' : ys.length ≤ xs.length := by omega
    clear he
    have hc' := Lib.hid hc
    have gc' := Lib.hid gc
    clear hc gc
    go_enter Try.func13, Try.ntmps13
    go_wp2
    go_loopw [5] (fun i wr => ∃ k : Nat, k ≤ xs.length ∧ i = .int .i64 k ∧ FirstSame xs ys k ∧ Below w.heap.size w wr) (fun i _ => xs.length - (intOf i).toNat)
    case atStart => exact ⟨0, Nat.zero_le _, rfl, fun i hi => by omega, Below.refl _ _⟩
    case round =>
      obtain ⟨k, hk, rfl, hrel, hbel⟩ := hrel
      by_cases hlt : k < xs.length
      · have hlt2 : k < ys.length := by have := He.out; omega
        obtain ⟨b1, off1, rfl, hcell⟩ := hc'.out (by omega)
        obtain ⟨b2, off2, rfl, gcell⟩ := gc'.out (by omega)
        have hx := (hbel.cell (World.block_lt_of_cell? w _ (hcell k hlt))).trans (hcell k hlt)
        have hy := (hbel.cell (World.block_lt_of_cell? w _ (gcell k hlt2))).trans (gcell k hlt2)
        clear hcell gcell
        obtain ⟨x, ex⟩ : ∃ x, xs.getD k 0 = x := ⟨_, rfl⟩
        obtain ⟨y, ey⟩ : ∃ y, ys.getD k 0 = y := ⟨_, rfl⟩
        rw [ex] at hx
        rw [ey] at hy
        have Ex := Lib.hid ex
        have Ey := Lib.hid ey
        clear ex ey
        have i0 : (0 : Int) ≤ (k : Int) := by omega
        have i1 : (k : Int) < (xs.length : Int) := by omega
        have i2 : (k : Int) < (ys.length : Int) := by omega
        by_cases hxy : x = y
        · have H1 := hrel.snoc Ex.out Ey.out hxy
          have hq : (x != y) = false := by simp [hxy]
          clear hxy
          go_wp2
          go_quiet (fail)
          go_wp2
          go_roundw
          case rel => exact ⟨k + 1, by omega, by go_num, H1, below_drewN hbel _⟩
          case measure => simp [intOf]; omega
        · have hq : (x != y) = true := by simp [hxy]
          have H1 := Lib.hid (beq_no_at Ex.out Ey.out hxy)
          clear hxy
          go_wp2
          go_quiet (fail)
          go_wp2
          go_ret
          exact ⟨ret_bool H1.out.symm, below_drewN hbel _⟩
      · go_wp2
        go_ret
        exact ⟨ret_bool (beq_yes He.out fun i hi => hrel i (by omega)).symm, hbel⟩
  · have hn : ((xs.length : Int) != (ys.length : Int)) = true := by simp; omega
    have hn' : (xs.length != ys.length) = true := by simp [he]
    have H1 := Lib.hid (beq_no_len he)
    go_enter Try.func13, Try.ntmps13
    go_wp2
    go_ret
    exact ⟨ret_bool H1.out.symm, Below.refl _ _⟩

/-- the marks k, k + 1 .. of n places -/
def marks (k : Int) (n : Nat) : List Int := (List.range n).map fun i : Nat => k + (i : Int)
theorem marks_len (k : Int) (n : Nat) : (marks k n).length = n := by simp [marks]
theorem marks_at (k : Int) (n i : Nat) (h : i < n) : (marks k n).getD i 0 = k + (i : Int) := by simp [marks, List.getD, h]
theorem marks_succ (k : Int) (n : Nat) : marks k (n + 1) = marks k n ++ [k + (n : Int)] := by simp [marks, List.range_succ]
theorem marks_set (k : Int) (xs : List Int) (j : Nat) (h : j < xs.length) : (marks k j ++ xs.drop j).set j (k + (j : Int)) = marks k (j + 1) ++ xs.drop (j + 1) := by
  rw [List.set_append_right _ _ (by rw [marks_len]; exact Nat.le_refl _), marks_len, Nat.sub_self, marks_succ, List.append_assoc]
  congr 1
  rw [List.drop_eq_getElem_cons h]
  rfl

def MarkRes (w : World) (base : Nat) (v : Value) (k : Int) (n : Nat) (e : Ending) (w' : World) : Prop :=
  e = .returned (.int .i64 (k + (n : Int))) ∧ Own w' base v (marks k n) ∧ w.grownBy w' v.ownBlock
theorem laws_markIntS (v : Value) (base : Nat) (xs : List Int) (k : Int) (w : World) (h : Own w base v xs) (hk0 : 0 ≤ k) (hk1 : k ≤ 1000000000000) (hs : xs.length ≤ 1000000000000) :
    Calls Try.prog 17 #[v, .int .i64 k] w (MarkRes w base v k xs.length) := by
  have hs0 := World.grownBy.refl w v.ownBlock
  rcases h.2 with ⟨rfl, h0⟩ | ⟨g, cap, cur, rfl, hb, hg, hl, hm, _, _⟩
  · have e : xs = [] := List.eq_nil_of_length_eq_zero h0
    subst e
    go_enter Try.func17, Try.ntmps17
    go_wp2
    refine wp_loop_rounds 1 ?_
    rw [rounds_succ]
    go_wp2
    go_ret
    exact ⟨ret_int (by simp), h, hs0⟩
  · have hlen : ∀ j, j ≤ xs.length → (marks k j ++ xs.drop j).length = xs.length := fun j hj => by simp [marks_len]; omega
    have Hlen := Lib.hid hlen
    clear hlen hg hs0
    unfold maxLen at hm
    go_enter Try.func17, Try.ntmps17
    go_wp2
    go_loopw [1, 5] (fun q i wr => ∃ j : Nat, j ≤ xs.length ∧ i = .int .i64 j ∧ q = .int .i64 (k + (j : Int)) ∧ Own wr base (.slice (some ⟨g, 0, none⟩) xs.length cap) (marks k j ++ xs.drop j) ∧ w.grownBy wr (some g)) (fun _ i _ => xs.length - (intOf i).toNat)
    case atStart => exact ⟨0, Nat.zero_le _, rfl, by simp, by simpa [marks] using h, World.grownBy.refl _ _⟩
    case round =>
      obtain ⟨j, hj, rfl, rfl, hown, hgr⟩ := hrel
      by_cases hlt : j < xs.length
      · have hL := Hlen.out j hj
        have hown' : wr.ownsRow base 3 1 (.slice (some ⟨g, 0, none⟩) xs.length cap) xs.length ((marks k j ++ xs.drop j).map (Value.int .i64)) := by
          have := hown
          unfold Own at this
          rwa [hL] at this
        have hc := World.ownsRow.cellAt hown' j (by omega)
        have hf := World.ownsRow.frozenAt hown' j
        have hst := World.ownsRow.stored hown' j (.int .i64 (k + (j : Int)))
        have hset := marks_set k xs j hlt
        have hL2 := Hlen.out (j + 1) hlt
        have hnew : Own (wr.setCell ⟨g, j, none⟩ (.int .i64 (k + (j : Int)))) base (.slice (some ⟨g, 0, none⟩) xs.length cap) (marks k (j + 1) ++ xs.drop (j + 1)) := by
          unfold Own
          rw [hL2, ← hset, List.map_set]
          exact hst.1
        have hgr2 : w.grownBy (wr.setCell ⟨g, j, none⟩ (.int .i64 (k + (j : Int)))) (some g) :=
          ⟨hst.2.os.trans hgr.os, hst.2.tape.trans hgr.tape, hst.2.output.trans hgr.output, Nat.le_trans hgr.size hst.2.size, fun b hb hne => (hst.2.block b (Nat.lt_of_lt_of_le hb hgr.size) hne).trans (hgr.block b hb hne)⟩
        obtain ⟨old, hold⟩ : ∃ old, wr.cell? ⟨g, j, none⟩ = some (.int .i64 old) := by
          rw [hc]; exact ⟨(marks k j ++ xs.drop j).getD j 0, by simp only [List.getElem?_map, List.getD]; rw [List.getElem?_eq_getElem (by omega)]; rfl⟩
        clear hc hst hset hL hL2 hown' hown hgr
        go_wp2
        go_roundw
        case rel => exact ⟨j + 1, by omega, by go_num, by go_num, hnew, hgr2⟩
        case measure => simp [intOf]; omega
      · obtain rfl : j = xs.length := by omega
        rw [List.drop_length, List.append_nil] at hown
        go_wp2
        go_ret
        exact ⟨rfl, hown, hgr⟩

theorem laws_heldIntS (v : Value) (k : Int) (n : Nat) (w : World) (h : Ints w v (marks k n)) (hk0 : 0 ≤ k) (hk1 : k ≤ 1000000000000) (hs : n ≤ 1000000000000) :
    Calls Try.prog 19 #[v, .int .i64 k] w fun e w' => e = .returned (.int .i64 (k + (n : Int))) ∧ w = w' := by
  obtain ⟨a, cap, rfl, hl, hm, hc⟩ := h
  rw [marks_len] at hl hc ⊢
  unfold maxLen at hm
  have hc' := Lib.hid hc
  clear hc
  go_enter Try.func19, Try.ntmps19
  go_wp2
  go_loop [1, 5] (fun q i => ∃ j : Nat, j ≤ n ∧ i = .int .i64 j ∧ q = .int .i64 (k + (j : Int))) (fun _ i => n - (intOf i).toNat)
  case atStart => exact ⟨0, Nat.zero_le _, rfl, by simp⟩
  case round =>
    obtain ⟨j, hj, rfl, rfl⟩ := hrel
    by_cases hlt : j < n
    · obtain ⟨b, off, rfl, hcell⟩ := hc'.out (by omega)
      have hx := hcell j hlt
      clear hcell
      rw [marks_at k n j hlt] at hx
      have hq : (k + (j : Int) != k + (j : Int)) = false := by simp
      go_wp2
      go_round
      case rel => exact ⟨j + 1, by omega, by go_num, by go_num⟩
      case measure => simp [intOf]; omega
    · obtain rfl : j = n := by omega
      go_wp2
      go_ret
      exact ⟨rfl, rfl⟩

theorem wp_makeN {w : World} {ops : Array Oper} {rest : List Oper} {o : Oper} {a : Act} {Q : Exit → Act → World → Prop}
    (hg : o.guard = none) (l c : Operand) (hop : o.op = Op.makeSlice 25 l c)
    (base : Nat) (L C : Int) (n : Nat) (hl : a.eval l = .int .i64 L) (hc : a.eval c = .int .i64 C) (hL : L = (n : Int)) (hC : C = (n : Int)) (b2 : n ≤ 1000000000000) (b4 : base ≤ w.heap.size)
    (hK : ∀ w', Own w' base (.slice (some ⟨w.heap.size, 0, none⟩) n n) (List.replicate n 0) → w.grownBy w' none → wpList Try.prog ops Q rest (a.put o.dst (.slice (some ⟨w.heap.size, 0, none⟩) n n)) w') :
    wpList Try.prog ops Q (o :: rest) a w := by
  obtain ⟨i0, hi, hz0, hz1, hz2⟩ := info_parts info_int
  refine wpList_make_full w hg l c 25 hop base 3 i0 (.int .i64 0) 1 Try.underlying25 hi hz0 hz1 .i64 .i64 L C n hl hc hL hC (by rw [hz2]; omega) (by unfold maxLen; omega) b4 ?_
  intro w' hown hgrow
  refine hK w' ?_ hgrow
  unfold Own
  rw [List.length_replicate, List.map_replicate]
  have e : (madeCells (Value.int IntKind.i64 0).cells (n * 1)).toList = List.replicate n (Value.int IntKind.i64 0) := by
    rw [Nat.mul_one]; exact toList_madeCells_one _ _
  rw [e] at hown
  exact hown

theorem take_set (xs : List Int) (j n : Nat) (h : j < xs.length) (x : Int) (hx : xs.getD j 0 = x) (hn : n = xs.length) : (xs.take j ++ List.replicate (n - j) 0).set j x = xs.take (j + 1) ++ List.replicate (n - (j + 1)) 0 := by
  subst hn
  have hl : (xs.take j).length = j := by rw [List.length_take]; omega
  rw [List.set_append_right _ _ (by omega), hl, Nat.sub_self, List.take_succ_eq_append_getElem h, List.append_assoc]
  congr 1
  have e : xs.length - j = (xs.length - (j + 1)) + 1 := by omega
  rw [e, List.replicate_succ, List.set_cons_zero]
  simp [List.getD, h] at hx
  rw [hx]
  rfl

theorem laws_toIntS (v : Value) (xs : List Int) (w : World) (h : Ints w v xs) (hs : xs.length ≤ 1000000000) :
    Calls Try.prog 85 #[v] w (NewInts1 w xs) := by
  obtain ⟨a, cap, rfl, hl, hm, hc⟩ := h
  unfold maxLen at hm
  have hc' := Lib.hid hc
  clear hc
  go_enter Try.func85, Try.ntmps85
  go_wp2_with (at_make; refine wp_makeN rfl _ _ rfl w.heap.size _ _ xs.length rfl rfl rfl rfl (by omega) (Nat.le_refl _) ?_; intro w0 hown0 hgrow0)
  have hb0 : Below w.heap.size w w0 := (Below.refl _ _).grown hgrow0 (Nat.le_refl _) (fun k hk => by cases hk)
  have Hlen : Hid (∀ j, j ≤ xs.length → (xs.take j ++ List.replicate (xs.length - j) 0).length = xs.length) := fun j hj => by simp; omega
  obtain ⟨g, hg⟩ : ∃ g, w.heap.size = g := ⟨_, rfl⟩
  go_loopw [4] (fun i wr => ∃ j : Nat, j ≤ xs.length ∧ i = .int .i64 j ∧ Own wr w.heap.size (.slice (some ⟨w.heap.size, 0, none⟩) xs.length xs.length) (xs.take j ++ List.replicate (xs.length - j) 0) ∧ Below w.heap.size w wr) (fun i _ => xs.length - (intOf i).toNat)
  case atStart => exact ⟨0, Nat.zero_le _, rfl, by simpa using hown0, hb0⟩
  case round =>
    obtain ⟨j, hj, rfl, hown, hbel⟩ := hrel
    by_cases hlt : j < xs.length
    · obtain ⟨b, off, rfl, hcell⟩ := hc'.out (by omega)
      have hbl := World.block_lt_of_cell? w _ (hcell j hlt)
      have hx := (hbel.cell hbl).trans (hcell j hlt)
      clear hcell
      obtain ⟨x, ex⟩ : ∃ x, xs.getD j 0 = x := ⟨_, rfl⟩
      rw [ex] at hx
      have hL := Hlen.out j hj
      have hL2 := Hlen.out (j + 1) hlt
      have hown' : wr.ownsRow w.heap.size 3 1 (.slice (some ⟨w.heap.size, 0, none⟩) xs.length xs.length) xs.length ((xs.take j ++ List.replicate (xs.length - j) 0).map (Value.int .i64)) := by
        have := hown
        unfold Own at this
        rwa [hL] at this
      have hc := World.ownsRow.cellAt hown' j (by omega)
      have hf := World.ownsRow.frozenAt hown' j
      have hst := World.ownsRow.stored hown' j (.int .i64 x)
      have hset := take_set xs j xs.length hlt x ex rfl
      have hnew : Own (wr.setCell ⟨w.heap.size, j, none⟩ (.int .i64 x)) w.heap.size (.slice (some ⟨w.heap.size, 0, none⟩) xs.length xs.length) (xs.take (j + 1) ++ List.replicate (xs.length - (j + 1)) 0) := by
        unfold Own
        rw [hL2, ← hset, List.map_set]
        exact hst.1
      have hbel2 : Below w.heap.size w (wr.setCell ⟨w.heap.size, j, none⟩ (.int .i64 x)) := hbel.setCell (Nat.le_refl _) _
      obtain ⟨old, hold⟩ : ∃ old, wr.cell? ⟨w.heap.size, j, none⟩ = some (.int .i64 old) := by
        rw [hc]; exact ⟨(xs.take j ++ List.replicate (xs.length - j) 0).getD j 0, by simp only [List.getElem?_map, List.getD]; rw [List.getElem?_eq_getElem (by omega)]; rfl⟩
      have hne : b ≠ w.heap.size := by simp at hbl; omega
      clear hc hst hset hL hL2 hown' hown ex hg
      go_wp2
      go_roundw
      case rel => exact ⟨j + 1, by omega, by go_num, hnew, hbel2⟩
      case measure => simp [intOf]; omega
    · obtain rfl : j = xs.length := by omega
      rw [List.take_length, Nat.sub_self, List.replicate_zero, List.append_nil] at hown
      go_wp2
      go_ret
      exact ⟨_, rfl, hown, hbel⟩
end Go.Proofs.Ytfapeppocfodpaa
