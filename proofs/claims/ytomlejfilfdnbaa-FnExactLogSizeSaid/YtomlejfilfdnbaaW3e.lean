/- Chapter 3: how the model reads records, whole. -/
import Derived.Test.YtomlejfilfdnbaaW3d
import Derived.Deep.Cut
namespace Go.Proofs.Ytomlejfilfdnbaa
open Go.ChangeShapes Go.WideShapes Go.ChangeAt Go.RowKit
set_option linter.unusedVariables false

/-- a record of the call's own, a place, and whether there is one -/
def RecOut (w : World) (g : Rec × Int × Bool) (e : Ending) (w' : World) : Prop :=
  ∃ kv vv, e = .returned (.tuple #[.agg #[.int .i64 g.1.off, .int .i64 g.1.time, .bool g.1.hk, kv, .bool g.1.hv, vv], .int .i64 g.2.1, .bool g.2.2]) ∧
    Own w' w.heap.size kv g.1.key ∧ Own w' w.heap.size vv g.1.val ∧ (∀ k, vv.ownBlock = some k → kv.ownBlock ≠ some k) ∧ Below w.heap.size w w'
theorem RecOut.none {w w' : World} {e : Ending} (he : e = .returned (.tuple #[.agg #[.int .i64 0, .int .i64 0, .bool false, .slice none 0 0, .bool false, .slice none 0 0], .int .i64 0, .bool false])) (hb : Below w.heap.size w w') : RecOut w (Rec.zero, 0, false) e w' :=
  ⟨_, _, he, own_nil _ _, own_nil _ _, fun k hk => by simp [Value.ownBlock] at hk, hb⟩

theorem frozen_of_block {w : World} {B : Nat} {cs : Array Value} {t : TypeId} (h : w.heap[B]? = some (.cells cs t (0, 0))) (i : Nat) : w.frozen? ⟨B, i, none⟩ = false := by simp [World.frozen?, h]
theorem rdVar_place {xs : List Int} (hok : okBs xs = true) (k : Nat) : ∃ (n : Int) (a : Nat) (b : Bool), rdVar xs k = (n, (a : Int), b) ∧ -1000000 ≤ n ∧ n ≤ 1000000 ∧ (b = true → k < a ∧ a ≤ xs.length) ∧ a ≤ xs.length := by
  obtain ⟨⟨n, nx, b⟩, hg⟩ : ∃ g, rdVar xs k = g := ⟨_, rfl⟩
  cases b with
  | false =>
    have := rdVar_no (xs := xs) (k := k) (by rw [hg])
    exact ⟨0, 0, false, this, by omega, by omega, by simp, by omega⟩
  | true =>
    obtain ⟨a1, a2, a3, _, a5⟩ := rdVar_yes hok hg
    have := varB_pos a1 a2
    exact ⟨n, k + (varB n).length, true, by rw [hg, a3], a1, a2, fun _ => ⟨by omega, by omega⟩, by omega⟩
theorem getP_place {xs : List Int} (hok : okBs xs = true) (c : Nat) : ∃ (h : Bool) (ys : List Int) (d : Nat) (b : Bool), getP xs c = (h, ys, (d : Int), b) ∧ d ≤ xs.length := by
  obtain ⟨⟨h, ys, d, b⟩, hg⟩ : ∃ g, getP xs c = g := ⟨_, rfl⟩
  cases b with
  | true =>
    obtain ⟨_, _, a3, a4⟩ := getP_yes hok hg
    exact ⟨h, ys, _, true, by rw [hg, a3], a4⟩
  | false =>
    refine ⟨h, ys, 0, false, ?_, by omega⟩
    rw [hg]
    have hd : d = 0 := by
      unfold getP at hg
      simp only at hg
      split at hg
      · simp at hg; omega
      split at hg
      · simp at hg; omega
      split at hg
      · simp at hg; omega
      split at hg
      · simp at hg; omega
      split at hg
      · simp at hg
      · simp at hg
    rw [hd]; rfl

theorem frozen_made (w : World) {cs : Array Value} {t : TypeId} (i : Nat) : (w.alloc (.cells cs t (0, 0))).frozen? ⟨w.heap.size, i, none⟩ = false := by
  have hb := heap_alloc_new w (.cells cs t (0, 0))
  exact frozen_of_block hb i
theorem bel_six {n : Nat} {w W : World} (h : Below n w W) {B : Nat} (hB : n ≤ B) (v0 v1 v2 v3 v4 v5 : Value) :
    Below n w ((((((W.setCell ⟨B, 0, none⟩ v0).setCell ⟨B, 1, none⟩ v1).setCell ⟨B, 2, none⟩ v2).setCell ⟨B, 3, none⟩ v3).setCell ⟨B, 4, none⟩ v4).setCell ⟨B, 5, none⟩ v5) :=
  (((((h.setCell hB _).setCell hB _).setCell hB _).setCell hB _).setCell hB _).setCell hB _
theorem Own.six {w : World} {base : Nat} {v : Value} {xs : List Int} (h : Own w base v xs) {B : Nat} (hB : B < base) (v0 v1 v2 v3 v4 v5 : Value) :
    Own ((((((w.setCell ⟨B, 0, none⟩ v0).setCell ⟨B, 1, none⟩ v1).setCell ⟨B, 2, none⟩ v2).setCell ⟨B, 3, none⟩ v3).setCell ⟨B, 4, none⟩ v4).setCell ⟨B, 5, none⟩ v5) base v xs := by
  have k : ∀ (W : World) (i : Nat) (u : Value), W.grownBy (W.setCell ⟨B, i, none⟩ u) (some B) := fun W i u =>
    ⟨rfl, rfl, rfl, by simp, fun b hb hne => Below.heap_setCell W _ _ b fun e => hne (by rw [e])⟩
  have hne : v.ownBlock = none ∨ v.ownBlock ≠ some B := by
    cases e : v.ownBlock with
    | none => exact .inl rfl
    | some q => refine .inr fun e2 => ?_; have := h.lt q e; simp only [Option.some.injEq] at e2; omega
  exact (((((h.grown (k _ 0 v0) hne).grown (k _ 1 v1) hne).grown (k _ 2 v2) hne).grown (k _ 3 v3) hne).grown (k _ 4 v4) hne).grown (k _ 5 v5) hne

/-- six cells of a block -/
def Box6 (W : World) (B : Nat) (v0 v1 v2 v3 v4 v5 : Value) : Prop :=
  W.cell? ⟨B, 0, none⟩ = some v0 ∧ W.cell? ⟨B, 1, none⟩ = some v1 ∧ W.cell? ⟨B, 2, none⟩ = some v2 ∧ W.cell? ⟨B, 3, none⟩ = some v3 ∧ W.cell? ⟨B, 4, none⟩ = some v4 ∧ W.cell? ⟨B, 5, none⟩ = some v5
theorem Box6.store {w : World} {B : Nat} {u0 u1 u2 u3 u4 u5 : Value} (h : Box6 w B u0 u1 u2 u3 u4 u5) (v0 v1 v2 v3 v4 v5 : Value) :
    Box6 ((((((w.setCell ⟨B, 0, none⟩ v0).setCell ⟨B, 1, none⟩ v1).setCell ⟨B, 2, none⟩ v2).setCell ⟨B, 3, none⟩ v3).setCell ⟨B, 4, none⟩ v4).setCell ⟨B, 5, none⟩ v5) B v0 v1 v2 v3 v4 v5 := by
  obtain ⟨h0, h1, h2, h3, h4, h5⟩ := h
  have ne : ∀ (W : World) (i j : Nat) (v : Value), i ≠ j → (W.setCell ⟨B, i, none⟩ v).cell? ⟨B, j, none⟩ = W.cell? ⟨B, j, none⟩ := fun W i j v hij => by
    refine World.cell?_setCell_other _ _ _ _ (fun e => hij ?_)
    exact congrArg Addr.off e
  have same : ∀ (W : World) (i : Nat) (v u : Value), W.cell? ⟨B, i, none⟩ = some u → (W.setCell ⟨B, i, none⟩ v).cell? ⟨B, i, none⟩ = some v := fun W i v u h => World.cell?_setCell_same' W _ v (by rw [h]; rfl)
  refine ⟨?_, ?_, ?_, ?_, ?_, ?_⟩
  · rw [ne _ 5 0 _ (by decide), ne _ 4 0 _ (by decide), ne _ 3 0 _ (by decide), ne _ 2 0 _ (by decide), ne _ 1 0 _ (by decide)]
    exact same _ _ _ u0 h0
  · rw [ne _ 5 1 _ (by decide), ne _ 4 1 _ (by decide), ne _ 3 1 _ (by decide), ne _ 2 1 _ (by decide)]
    exact same _ _ _ u1 (by rw [ne _ 0 1 _ (by decide)]; exact h1)
  · rw [ne _ 5 2 _ (by decide), ne _ 4 2 _ (by decide), ne _ 3 2 _ (by decide)]
    exact same _ _ _ u2 (by rw [ne _ 1 2 _ (by decide), ne _ 0 2 _ (by decide)]; exact h2)
  · rw [ne _ 5 3 _ (by decide), ne _ 4 3 _ (by decide)]
    exact same _ _ _ u3 (by rw [ne _ 2 3 _ (by decide), ne _ 1 3 _ (by decide), ne _ 0 3 _ (by decide)]; exact h3)
  · rw [ne _ 5 4 _ (by decide)]
    exact same _ _ _ u4 (by rw [ne _ 3 4 _ (by decide), ne _ 2 4 _ (by decide), ne _ 1 4 _ (by decide), ne _ 0 4 _ (by decide)]; exact h4)
  · exact same _ _ _ u5 (by rw [ne _ 4 5 _ (by decide), ne _ 3 5 _ (by decide), ne _ 2 5 _ (by decide), ne _ 1 5 _ (by decide), ne _ 0 5 _ (by decide)]; exact h5)

/-- the record at a place, for all arguments -/
def rdRecI (xs : List Int) (k o t : Int) : Rec × Int × Bool := if okBs xs = true then if k < 0 then (Rec.zero, 0, false) else if baseOk o t = true then rdRec xs k.toNat o t else (Rec.zero, 0, false) else (Rec.zero, 0, false)
theorem rdRecI_bad {xs : List Int} {k o t : Int} (h : okBs xs = false) : rdRecI xs k o t = (Rec.zero, 0, false) := by unfold rdRecI; rw [h]; rfl
theorem rdRecI_neg {xs : List Int} {k o t : Int} (h : k < 0) : rdRecI xs k o t = (Rec.zero, 0, false) := by unfold rdRecI; rw [if_pos h]; split <;> rfl
theorem rdRecI_base {xs : List Int} {k o t : Int} (h : baseOk o t = false) : rdRecI xs k o t = (Rec.zero, 0, false) := by
  unfold rdRecI
  rw [h, if_neg (show ¬ (false = true) by simp)]
  split
  · split <;> rfl
  · rfl
theorem rdRecI_at {xs : List Int} {k : Nat} {o t : Int} (h : okBs xs = true) (hb : baseOk o t = true) : rdRecI xs (k : Int) o t = rdRec xs k o t := by unfold rdRecI; rw [if_pos h, if_neg (by omega), if_pos hb, Int.toNat_natCast]

/-- how many bytes a record has -/
def recS (r : Rec) (o t : Int) : Int := if (recOk r && baseOk o t) = true then ((recBytes r o t).length : Int) else -1

end Go.Proofs.Ytomlejfilfdnbaa
