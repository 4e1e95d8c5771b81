/- The seats of all producers, as an array in memory. -/
import Derived.Test.YtfapeppocfodpaaP21
import Derived.Test.YtfapeppocfodpaaB0
import Derived.Deep.WholeRow
import Derived.Laws.Rows
import Derived.Laws.Tables
namespace Go.Proofs.Ytfapeppocfodpaa
open Go.ChangeShapes Go.WideShapes Go.ChangeAt Go.RowKit
set_option linter.unusedVariables false

/-- the cells of a seat -/
def seatC (s : Seat) (j : Nat) : Value := if j = 0 then .bool s.known else if j = 1 then .int .i64 s.epoch else .int .i64 s.next
/-- the cells of all seats -/
def rollC (f : Nat → Seat) : Array Value := ((List.range 765).map fun i => seatC (f (i / 3)) (i % 3)).toArray
theorem rollC_size (f : Nat → Seat) : (rollC f).size = 765 := by simp [rollC]
theorem rollC_get (f : Nat → Seat) {i : Nat} (h : i < 765) : (rollC f)[i]? = some (seatC (f (i / 3)) (i % 3)) := by simp [rollC, h]
theorem rollC_out (f : Nat → Seat) {i : Nat} (h : 765 ≤ i) : (rollC f)[i]? = none := by simp [rollC, h]
theorem rollC_0 (f : Nat → Seat) {i : Nat} (h : i < 255) : (rollC f)[i * 3]? = some (.bool (f i).known) := by
  rw [rollC_get f (by omega), show i * 3 / 3 = i by omega, show i * 3 % 3 = 0 by omega]
  rfl
theorem rollC_1 (f : Nat → Seat) {i : Nat} (h : i < 255) : (rollC f)[i * 3 + 1]? = some (.int .i64 (f i).epoch) := by
  rw [rollC_get f (by omega), show (i * 3 + 1) / 3 = i by omega, show (i * 3 + 1) % 3 = 1 by omega]
  rfl
theorem rollC_2 (f : Nat → Seat) {i : Nat} (h : i < 255) : (rollC f)[i * 3 + 2]? = some (.int .i64 (f i).next) := by
  rw [rollC_get f (by omega), show (i * 3 + 2) / 3 = i by omega, show (i * 3 + 2) % 3 = 2 by omega]
  rfl
theorem seatC_one (s : Seat) (j : Nat) : (seatC s j).oneCell' = true := by
  unfold seatC
  split
  · rfl
  · split <;> rfl
theorem rollC_one (f : Nat → Seat) : (rollC f).all (·.oneCell') = true := by
  rw [Array.all_eq_true_iff_forall_mem]
  intro v hv
  simp only [rollC, List.mem_toArray, List.mem_map] at hv
  obtain ⟨i, _, rfl⟩ := hv
  exact seatC_one _ _
theorem rollC_ext {f g : Nat → Seat} (h : ∀ i, i < 255 → f i = g i) : rollC f = rollC g := by
  apply Array.ext_getElem?
  intro i
  rcases Nat.lt_or_ge i 765 with hi | hi
  · rw [rollC_get f hi, rollC_get g hi, h (i / 3) (by omega)]
  · rw [rollC_out f hi, rollC_out g hi]
/-- one seat is laid anew -/
def seatPut (f : Nat → Seat) (k : Nat) (s : Seat) (i : Nat) : Seat := if i = k then s else f i
theorem rollC_set (f : Nat → Seat) {k : Nat} (hk : k < 255) (s : Seat) :
    (((rollC f).setIfInBounds (k * 3) (.bool s.known)).setIfInBounds (k * 3 + 1) (.int .i64 s.epoch)).setIfInBounds (k * 3 + 2) (.int .i64 s.next) = rollC (seatPut f k s) := by
  apply Array.ext_getElem?
  intro i
  simp only [Array.getElem?_setIfInBounds, Array.size_setIfInBounds, rollC_size]
  rcases Nat.lt_or_ge i 765 with hi | hi
  · rw [rollC_get f hi, rollC_get _ hi]
    unfold seatPut seatC
    by_cases e2 : k * 3 + 2 = i
    · subst e2
      have a : (k * 3 + 2) / 3 = k := by omega
      have b : (k * 3 + 2) % 3 = 2 := by omega
      simp [a, b, hi]
    · rw [if_neg e2]
      by_cases e1 : k * 3 + 1 = i
      · subst e1
        have a : (k * 3 + 1) / 3 = k := by omega
        have b : (k * 3 + 1) % 3 = 1 := by omega
        simp [a, b, hi]
      · rw [if_neg e1]
        by_cases e0 : k * 3 = i
        · subst e0
          have a : k * 3 / 3 = k := by omega
          have b : k * 3 % 3 = 0 := by omega
          simp [a, b, hi]
        · rw [if_neg e0, if_neg (show ¬ i / 3 = k by omega)]
  · rw [if_neg (by omega), if_neg (by omega), if_neg (by omega), rollC_out f hi, rollC_out _ hi]

/-- block R holds the seats -/
def Roll (w : World) (R : Nat) (f : Nat → Seat) : Prop := w.heap[R]? = some (.cells (rollC f) 55 (0, 0))
theorem Roll.blk {w : World} {R : Nat} {f : Nat → Seat} (h : Roll w R f) : Blk w R (rollC f) := ⟨_, h⟩
theorem Roll.lt {w : World} {R : Nat} {f : Nat → Seat} (h : Roll w R f) : R < w.heap.size := h.blk.lt
theorem Roll.made (w : World) (f : Nat → Seat) : Roll (w.alloc (.cells (rollC f) 55 (0, 0))) w.heap.size f := heap_alloc_new w _
theorem Roll.eq {w w' : World} {R : Nat} {f : Nat → Seat} (h : Roll w R f) (e : w'.heap[R]? = w.heap[R]?) : Roll w' R f := e.trans h
theorem Roll.below {w w' : World} {R : Nat} {f : Nat → Seat} (h : Roll w R f) (hb : Below w.heap.size w w') : Roll w' R f := h.eq (hb.block R h.lt)
theorem Roll.by {w w' : World} {R X : Nat} {f : Nat → Seat} (h : Roll w R f) (hne : R ≠ X) (hg : w.grownBy w' (some X)) : Roll w' R f := h.eq (hg.block R h.lt fun e => hne (by simpa using e))
theorem Roll.cells {w : World} {R : Nat} {f : Nat → Seat} (h : Roll w R f) {i : Nat} (hi : i < 255) :
    w.cell? ⟨R, i * 3, none⟩ = some (.bool (f i).known) ∧ w.cell? ⟨R, i * 3 + 1, none⟩ = some (.int .i64 (f i).epoch) ∧ w.cell? ⟨R, i * 3 + 2, none⟩ = some (.int .i64 (f i).next) :=
  ⟨(h.blk.cell _).trans (rollC_0 f hi), (h.blk.cell _).trans (rollC_1 f hi), (h.blk.cell _).trans (rollC_2 f hi)⟩
theorem Roll.apart {w : World} {A B : Nat} {f : Nat → Seat} {cs : Array Value} (h : Roll w A f) (x : Blk w B cs) (hs : cs.size < 765) : B ≠ A := by
  rintro rfl
  obtain ⟨t, x⟩ := x
  have e : some (Obj.cells (rollC f) 55 (0, 0)) = some (Obj.cells cs t (0, 0)) := h.symm.trans x
  simp only [Option.some.injEq, Obj.cells.injEq] at e
  have := rollC_size f
  rw [e.1] at this
  omega
theorem Roll.free {w : World} {R : Nat} {f : Nat → Seat} (h : Roll w R f) (i : Nat) : w.frozen? ⟨R, i, none⟩ = false := h.blk.free i
theorem heap_setR {w : World} {R : Nat} {cs : Array Value} {t : TypeId} (h : w.heap[R]? = some (.cells cs t (0, 0))) (i : Nat) (u : Value) : (w.setCell ⟨R, i, none⟩ u).heap[R]? = some (.cells (cs.setIfInBounds i u) t (0, 0)) := by
  have hlt : R < w.heap.size := Blk.lt ⟨t, h⟩
  have h' : w.heap[R] = .cells cs t (0, 0) := by simpa [Array.getElem?_eq_getElem hlt] using h
  show (w.heap.modify R _)[R]? = _
  rw [Array.getElem?_eq_getElem (by simpa using hlt), Array.getElem_modify_self, h']
  rfl
theorem Roll.set {w : World} {R : Nat} {f : Nat → Seat} (h : Roll w R f) {k : Nat} (hk : k < 255) (s : Seat) :
    Roll (((w.setCell ⟨R, k * 3, none⟩ (.bool s.known)).setCell ⟨R, k * 3 + 1, none⟩ (.int .i64 s.epoch)).setCell ⟨R, k * 3 + 2, none⟩ (.int .i64 s.next)) R (seatPut f k s) := by
  unfold Roll
  rw [← rollC_set f hk s]
  exact heap_setR (heap_setR (heap_setR h _ _) _ _) _ _
/-- all seats are laid anew at once -/
theorem Roll.row {w : World} {R : Nat} {f : Nat → Seat} (h : Roll w R f) (g : Nat → Seat) : Roll (w.setRow R (rollC g)) R g := by
  have hlt := h.lt
  have h' : w.heap[R] = .cells (rollC f) 55 (0, 0) := by simpa [Roll, Array.getElem?_eq_getElem hlt] using h
  show (w.heap.modify R _)[R]? = _
  rw [Array.getElem?_eq_getElem (by simpa using h.lt), Array.getElem_modify_self, h']
theorem grown_row' (w : World) (R : Nat) (cs : Array Value) : w.grownBy (w.setRow R cs) (some R) := ⟨rfl, rfl, rfl, by simp [World.setRow], fun b hb hne => by
  show (w.heap.modify R _)[b]? = _
  rw [Array.getElem?_modify, if_neg (fun e => hne (by rw [e]))]⟩
theorem below_setRow {n : Nat} {w wr : World} (h : Below n w wr) (R : Nat) (hR : n ≤ R) (c : Array Value) : Below n w (wr.setRow R c) :=
  ⟨h.os, h.tape, h.output, Nat.le_trans h.size (by simp [World.setRow]), fun b hb => by
    show (wr.heap.modify R _)[b]? = _
    rw [Array.getElem?_modify, if_neg (by omega)]
    exact h.block b hb⟩
theorem roll_info : (Try.prog.info? 55).map (fun i => (i.zero, i.size)) = some (some (.agg (rollC fun _ => Seat.zero)), 765) := by kernel_rfl
theorem roll_zero (w : World) : (zeroValue 55).run Try.prog w = .ok (.agg (rollC fun _ => Seat.zero)) w := (zero_of_info roll_info).1 w
theorem roll_size (f : Nat → Seat) : (Try.prog.info? 55).map (·.size) = some (rollC f).size := by rw [rollC_size]; exact (zero_of_info roll_info).2
theorem roll_array : Try.prog.underlying 55 = some (.array 255 53) := by kernel_rfl
theorem run_alloc_roll (W : World) : (Instr.alloc 55 true (.tuple #[])).run Try.prog W = .ok (.pointer (some ⟨W.heap.size, 0, none⟩)) (W.alloc (.cells (rollC fun _ => Seat.zero) 55)) := by
  simp [Instr.alloc, roll_zero W, newVar, newRow, Value.cells]
theorem wpList_alloc_roll {w : World} {ops : Array Oper} {rest : List Oper} {o : Oper} {a : Act} {Q : Exit → Act → World → Prop} (hgd : o.guard = none) (ho : o.op = .alloc 55)
    (h : wpList Try.prog ops Q rest (a.put o.dst (.pointer (some ⟨w.heap.size, 0, none⟩))) (w.alloc (.cells (rollC fun _ => Seat.zero) 55))) : wpList Try.prog ops Q (o :: rest) a w :=
  wpList_plain hgd fun _ hK => by
    unfold Oper.wp execOp
    simp only [ho, Sem.run_bind, run_alloc_roll, Result.andThen_ok, Sem.run_pure]
    exact hK _ _ h
theorem wp_alloc_roll {w : World} {o : Oper} {a : Act} {K : Act → World → Prop} {Q : Exit → Act → World → Prop} (ho : o.op = .alloc 55)
    (h : K (a.put o.dst (.pointer (some ⟨w.heap.size, 0, none⟩))) (w.alloc (.cells (rollC fun _ => Seat.zero) 55))) : o.wp Try.prog a w K Q := by
  unfold Oper.wp execOp
  simp only [ho, Sem.run_bind, run_alloc_roll, Result.andThen_ok, Sem.run_pure]
  exact h
/-- the results are seats and a number -/
theorem results_roll {fn : Func} {p q : Tmp} (h : fn.results = #[.cell p 55, .tmp q]) (tmps : Array Value) (w : World) (g : Nat) (f : Nat → Seat) (hp : tmps.getD p undef = .pointer (some ⟨g, 0, none⟩)) (hg : Roll w g f) :
    (results fn tmps).run Try.prog w = .ok (.tuple #[.agg (rollC f), tmps.getD q undef]) w := by
  have hp' : tmps[p]?.getD undef = .pointer (some ⟨g, 0, none⟩) := by simpa using hp
  simp [results, h, hp', asAddr, run_loadVar_row w g _ 55 (rollC f) _ _ hg roll_array rfl (roll_size _)]
end Go.Proofs.Ytfapeppocfodpaa
