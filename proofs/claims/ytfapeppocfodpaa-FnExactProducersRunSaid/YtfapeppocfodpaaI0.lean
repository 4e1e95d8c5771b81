/- A region that draws its order, walked by a condition that every operation keeps, whatever has come up before it. -/
import Derived.RegionTactic
namespace Go.Proofs.Ytfapeppocfodpaa
open Go
set_option linter.unusedVariables false

/-- the operations that have not come up -/
def openOps (l : Array Bool) : Nat := l.toList.count false

theorem open_set {l : Array Bool} {i : Nat} (hi : i < l.size) (h : l.getD i true = false) : openOps (l.setIfInBounds i true) + 1 = openOps l := by
  have e : l[i] = false := by simpa [Array.getD, hi] using h
  have hl : l.toList[i]'(by simpa using hi) = false := by simpa using e
  unfold openOps
  rw [Array.toList_setIfInBounds]
  have hi2 : i < l.toList.length := by simpa using hi
  have hpos : 0 < l.toList.count false := List.count_pos_iff.2 (hl ▸ List.getElem_mem hi2)
  rw [List.count_set hi2, hl]
  show l.toList.count false - 1 + 0 + 1 = l.toList.count false
  omega

theorem ready_open {md : Region.Mode} {ops : Array Oper} {l : Array Bool} {i : Nat} (h : i ∈ Region.ready md ops l) : i < ops.size ∧ l.getD i true = false := by
  unfold Region.ready at h
  rw [List.mem_filter] at h
  obtain ⟨h1, h2⟩ := h
  refine ⟨List.mem_range.1 h1, ?_⟩
  rw [Bool.and_eq_true] at h2
  simpa using h2.1

theorem ready_done {md : Region.Mode} {ops : Array Oper} {l : Array Bool} (hs : l.size = ops.size) (h : openOps l = 0) : Region.ready md ops l = [] := by
  refine List.eq_nil_iff_forall_not_mem.2 fun i hi => ?_
  obtain ⟨h1, h2⟩ := ready_open hi
  have := open_set (by omega) h2
  omega

/-- the law: I holds at the beginning, each operation that may come up keeps it, and it gives what is asked at the end -/
theorem wpAny_inv {P : Program} {md : Region.Mode} {ops : Array Oper} {Q : Exit → Act → World → Prop} {I : Array Bool → Act → World → Prop}
    (done : ∀ l a w, I l a w → Region.ready md ops l = [] → Q .normal a w)
    (step : ∀ l a w i, I l a w → i ∈ Region.ready md ops l → wpOp P ops Q i (fun a' w' => I (l.setIfInBounds i true) a' w') a w) :
    ∀ (fuel : Nat) (l : Array Bool) (a : Act) (w : World), l.size = ops.size → openOps l ≤ fuel → I l a w → wpAny P md ops Q fuel l a w := by
  intro fuel
  induction fuel with
  | zero =>
    intro l a w hs hf h
    have hr := ready_done (md := md) hs (Nat.le_zero.1 hf)
    exact ⟨hr, done l a w h hr⟩
  | succ fuel ih =>
    intro l a w hs hf h
    refine ⟨done l a w h, fun i hi => ?_⟩
    obtain ⟨h1, h2⟩ := ready_open hi
    have hc := open_set (by omega) h2
    exact wpOp_mono (fun a' w' h' => ih _ a' w' (by simpa using hs) (by omega) h') (step l a w i h hi)

/-- an edge of an operation that may come up: what it waits for has come up -/
theorem ready_edge {md : Region.Mode} {ops : Array Oper} {l : Array Bool} {i : Nat} (h : i ∈ Region.ready md ops l) {o : Oper} (ho : ops[i]? = some o) :
    o.after.all (fun e => !Region.binds md e || l.getD e.on false) = true := by
  unfold Region.ready at h
  rw [List.mem_filter, Bool.and_eq_true, ho] at h
  simpa using h.2.2
end Go.Proofs.Ytfapeppocfodpaa
