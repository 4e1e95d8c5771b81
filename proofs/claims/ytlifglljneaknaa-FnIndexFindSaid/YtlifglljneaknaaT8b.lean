/- Chapter 13: trees of entries, and the last entry that is not behind an offset. -/
import Derived.Test.YtlifglljneaknaaW8d
namespace Go.Proofs.Ytlifglljneaknaa
open Go.ChangeShapes Go.WideShapes Go.ChangeAt Go.RowKit
set_option linter.unusedVariables false

/-- the last entry that is not behind an offset, or the zero value -/
def FindIs (ts : List Trm) (o : Int) (t : Trm) (b : Bool) : Prop :=
  (b = false ∧ t = ⟨0, 0⟩ ∧ ∀ i, i < ts.length → o < (tAt ts i).num) ∨
  (b = true ∧ ∃ i, i < ts.length ∧ t = tAt ts i ∧ (tAt ts i).num ≤ o ∧ ∀ j, i < j → j < ts.length → o < (tAt ts j).num)
theorem FindIs.uniq {ts : List Trm} {o : Int} {t t' : Trm} {b b' : Bool} (h : FindIs ts o t b) (g : FindIs ts o t' b') : t = t' ∧ b = b' := by
  rcases h with ⟨rfl, rfl, h3⟩ | ⟨rfl, i, h2, rfl, h4, h5⟩ <;> rcases g with ⟨rfl, rfl, g3⟩ | ⟨rfl, j, g2, rfl, g4, g5⟩
  · exact ⟨rfl, rfl⟩
  · exact absurd (h3 j g2) (by omega)
  · exact absurd (g3 i h2) (by omega)
  · have : i = j := by
      rcases Nat.lt_trichotomy i j with hlt | he | hgt
      · exact absurd (h5 j hlt g2) (by omega)
      · exact he
      · exact absurd (g5 i hgt h2) (by omega)
    subst this
    exact ⟨rfl, rfl⟩
/-- what IndexFind answers -/
def FindR (ts : List Trm) (o : Int) (t : Trm) (b : Bool) : Prop := (tsOk ts = false ∧ t = ⟨0, 0⟩ ∧ b = false) ∨ (tsOk ts = true ∧ FindIs ts o t b)
theorem FindR.uniq {ts : List Trm} {o : Int} {t t' : Trm} {b b' : Bool} (h : FindR ts o t b) (g : FindR ts o t' b') : t = t' ∧ b = b' := by
  rcases h with ⟨h1, rfl, rfl⟩ | ⟨h1, h2⟩ <;> rcases g with ⟨g1, rfl, rfl⟩ | ⟨g1, g2⟩
  · exact ⟨rfl, rfl⟩
  · rw [h1] at g1; cases g1
  · rw [h1] at g1; cases g1
  · exact h2.uniq g2

theorem split_mid (xs : List Trm) (m : Nat) (h : m < xs.length) : xs = xs.take m ++ tAt xs m :: xs.drop (m + 1) := by
  have e : tAt xs m = xs[m] := tAt_in h
  rw [e, ← List.drop_eq_getElem_cons h, List.take_append_drop]
/-- a tree of entries in memory: the middle one is its node -/
inductive TreeAt (W : World) : List Trm → Value → Prop
  | nil : TreeAt W [] (.pointer none)
  | node (xs : List Trm) (B : Nat) (vl vr : Value) (h0 : 0 < xs.length) (c0 : W.cell? ⟨B, 0, none⟩ = some (.int .i64 (tAt xs (xs.length / 2)).num)) (c1 : W.cell? ⟨B, 1, none⟩ = some (.int .i64 (tAt xs (xs.length / 2)).first))
      (c2 : W.cell? ⟨B, 2, none⟩ = some vl) (c3 : W.cell? ⟨B, 3, none⟩ = some vr) (l : TreeAt W (xs.take (xs.length / 2)) vl) (r : TreeAt W (xs.drop (xs.length / 2 + 1)) vr) : TreeAt W xs (.pointer (some ⟨B, 0, none⟩))
theorem TreeAt.keepB {W W' : World} {xs : List Trm} {v : Value} (h : TreeAt W xs v) (hb : Below W.heap.size W W') : TreeAt W' xs v := by
  induction h with
  | nil => exact .nil
  | node xs B vl vr h0 c0 c1 c2 c3 l r ihl ihr =>
    have k : ∀ {i : Nat} {u : Value}, W.cell? ⟨B, i, none⟩ = some u → W'.cell? ⟨B, i, none⟩ = some u := fun c => (hb.cell (World.block_lt_of_cell? _ _ c)).trans c
    exact .node xs B vl vr h0 (k c0) (k c1) (k c2) (k c3) ihl ihr
theorem TreeAt.uniq {W : World} {xs ys : List Trm} {v : Value} (h : TreeAt W xs v) (g : TreeAt W ys v) : xs = ys := by
  induction h generalizing ys with
  | nil => cases g; rfl
  | node xs B vl vr h0 c0 c1 c2 c3 l r ihl ihr =>
    cases g with
    | node _ _ vl' vr' h0' c0' c1' c2' c3' l' r' =>
      rw [c2] at c2'
      rw [c3] at c3'
      rw [c0] at c0'
      rw [c1] at c1'
      simp only [Option.some.injEq] at c2' c3' c0' c1'
      subst c2' c3'
      have e0 : (tAt xs (xs.length / 2)).num = (tAt ys (ys.length / 2)).num := by simpa using c0'
      have e1 : (tAt xs (xs.length / 2)).first = (tAt ys (ys.length / 2)).first := by simpa using c1'
      have em : tAt xs (xs.length / 2) = tAt ys (ys.length / 2) := by
        generalize tAt xs (xs.length / 2) = p at e0 e1 ⊢
        generalize tAt ys (ys.length / 2) = q at e0 e1 ⊢
        obtain ⟨p0, p1⟩ := p
        obtain ⟨q0, q1⟩ := q
        simp only at e0 e1
        rw [e0, e1]
      rw [split_mid xs (xs.length / 2) (by omega), split_mid ys (ys.length / 2) (by omega), ihl l', ihr r', em]
open Classical in
/-- how many entries the tree at a value has -/
noncomputable def treeLen (W : World) (v : Value) : Nat := if h : ∃ xs, TreeAt W xs v then (Classical.choose h).length else 0
theorem treeLen_eq {W : World} {xs : List Trm} {v : Value} (h : TreeAt W xs v) : treeLen W v = xs.length := by
  have hex : ∃ xs, TreeAt W xs v := ⟨xs, h⟩
  unfold treeLen
  rw [dif_pos hex]
  rw [(Classical.choose_spec hex).uniq h]

/-- a part of a row -/
def segT (ts : List Trm) (lo n : Nat) : List Trm := (ts.drop lo).take n
theorem segT_len {ts : List Trm} {lo n : Nat} (h : lo + n ≤ ts.length) : (segT ts lo n).length = n := by
  unfold segT; rw [List.length_take, List.length_drop]; omega
theorem segT_at {ts : List Trm} {lo n i : Nat} (h : i < n) : tAt (segT ts lo n) i = tAt ts (lo + i) := by
  unfold segT; rw [tAt_take h, tAt_drop]
theorem segT_take {ts : List Trm} {lo n k : Nat} (h : k ≤ n) : (segT ts lo n).take k = segT ts lo k := by
  unfold segT; rw [List.take_take, Nat.min_eq_left h]
theorem segT_drop {ts : List Trm} {lo n k : Nat} : (segT ts lo n).drop k = segT ts (lo + k) (n - k) := by
  unfold segT; rw [List.drop_take, List.drop_drop]
theorem segT_all (ts : List Trm) : segT ts 0 ts.length = ts := by
  unfold segT; simp
end Go.Proofs.Ytlifglljneaknaa
