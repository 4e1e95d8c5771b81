/- Rows of records that a call makes itself. -/
import Derived.Test.YtfapeppocfodpaaR5
namespace Go.Proofs.Ytfapeppocfodpaa
open Go.ChangeShapes Go.WideShapes Go.ChangeAt Go.RowKit
set_option linter.unusedVariables false

/-- a row of n elements of six cells each, of the call's own -/
def Row6 (w : World) (base : Nat) (v : Value) (n : Nat) (f : Nat → Value) : Prop := ∃ xs, w.ownsRow base 83 6 v n xs ∧ ∀ i, i < n * 6 → xs[i]? = some (f i)
theorem Row6.lt {w : World} {base n : Nat} {v : Value} {f : Nat → Value} (h : Row6 w base v n f) : ∀ k, v.ownBlock = some k → base ≤ k ∧ k < w.heap.size := by
  obtain ⟨xs, h, _⟩ := h
  exact World.ownsRow.lt h
theorem Row6.kept {w w' : World} {base n : Nat} {v : Value} {f : Nat → Value} {row : Option Nat} (h : Row6 w base v n f) (hg : w.grownBy w' row) (hne : v.ownBlock = none ∨ v.ownBlock ≠ row) : Row6 w' base v n f := by
  obtain ⟨xs, h, hx⟩ := h
  exact ⟨xs, World.ownsRow.kept h hg hne, hx⟩
theorem Row6.below {w w' : World} {base n : Nat} {v : Value} {f : Nat → Value} (h : Row6 w base v n f) (hb : Below w.heap.size w w') : Row6 w' base v n f :=
  h.kept (row := none) ⟨hb.os, hb.tape, hb.output, hb.size, fun k hk _ => hb.block k hk⟩ (by cases v.ownBlock <;> simp)
theorem Row6.congr {w : World} {base n : Nat} {v : Value} {f g : Nat → Value} (h : Row6 w base v n f) (e : ∀ i, i < n * 6 → f i = g i) : Row6 w base v n g := by
  obtain ⟨xs, h, hx⟩ := h
  exact ⟨xs, h, fun i hi => (hx i hi).trans (by rw [e i hi])⟩
theorem Row6.cell {w : World} {base g n cap : Nat} {f : Nat → Value} (h : Row6 w base (.slice (some ⟨g, 0, none⟩) n cap) n f) (i : Nat) (hi : i < n * 6) : w.cell? ⟨g, i, none⟩ = some (f i) := by
  obtain ⟨xs, h, hx⟩ := h
  exact (World.ownsRow.cellAt h i hi).trans (hx i hi)
theorem Row6.frozen {w : World} {base g n cap : Nat} {f : Nat → Value} (h : Row6 w base (.slice (some ⟨g, 0, none⟩) n cap) n f) (i : Nat) : w.frozen? ⟨g, i, none⟩ = false := by
  obtain ⟨xs, h, hx⟩ := h
  exact World.ownsRow.frozenAt h i
theorem Row6.set {w : World} {base g n cap : Nat} {f : Nat → Value} (h : Row6 w base (.slice (some ⟨g, 0, none⟩) n cap) n f) (i : Nat) (hi : i < n * 6) (u : Value) :
    Row6 (w.setCell ⟨g, i, none⟩ u) base (.slice (some ⟨g, 0, none⟩) n cap) n (fun j => if j = i then u else f j) := by
  obtain ⟨xs, h, hx⟩ := h
  have hl := h.1
  refine ⟨xs.set i u, (World.ownsRow.stored h i u).1, fun j hj => ?_⟩
  by_cases e : j = i
  · subst e
    simp only [if_true]
    rw [List.getElem?_set_self (by omega)]
  · dsimp only
    rw [if_neg e, List.getElem?_set_ne (fun x => e x.symm)]
    exact hx j hj
/-- one of six -/
def six (v0 v1 v2 v3 v4 v5 : Value) (k : Nat) : Value := if k = 0 then v0 else if k = 1 then v1 else if k = 2 then v2 else if k = 3 then v3 else if k = 4 then v4 else v5
theorem Row6.set6 {w : World} {base g n cap : Nat} {f : Nat → Value} (h : Row6 w base (.slice (some ⟨g, 0, none⟩) n cap) n f) (j : Nat) (hj : j < n) (v0 v1 v2 v3 v4 v5 : Value) :
    Row6 ((((((w.setCell ⟨g, j * 6, none⟩ v0).setCell ⟨g, j * 6 + 1, none⟩ v1).setCell ⟨g, j * 6 + 2, none⟩ v2).setCell ⟨g, j * 6 + 3, none⟩ v3).setCell ⟨g, j * 6 + 4, none⟩ v4).setCell ⟨g, j * 6 + 5, none⟩ v5)
      base (.slice (some ⟨g, 0, none⟩) n cap) n (fun i => if i / 6 = j then six v0 v1 v2 v3 v4 v5 (i % 6) else f i) := by
  refine ((((((h.set (j * 6) (by omega) v0).set (j * 6 + 1) (by omega) v1).set (j * 6 + 2) (by omega) v2).set (j * 6 + 3) (by omega) v3).set (j * 6 + 4) (by omega) v4).set (j * 6 + 5) (by omega) v5).congr fun i hi => ?_
  by_cases e : i / 6 = j
  · rw [if_pos e]
    unfold six
    rcases (show i = j * 6 ∨ i = j * 6 + 1 ∨ i = j * 6 + 2 ∨ i = j * 6 + 3 ∨ i = j * 6 + 4 ∨ i = j * 6 + 5 by omega) with h | h | h | h | h | h
    all_goals
      subst h
      simp
    all_goals omega
  · rw [if_neg e, if_neg (by omega), if_neg (by omega), if_neg (by omega), if_neg (by omega), if_neg (by omega), if_neg (by omega)]
theorem set6_grown (w : World) (g q : Nat) (v0 v1 v2 v3 v4 v5 : Value) : w.grownBy ((((((w.setCell ⟨g, q, none⟩ v0).setCell ⟨g, q + 1, none⟩ v1).setCell ⟨g, q + 2, none⟩ v2).setCell ⟨g, q + 3, none⟩ v3).setCell ⟨g, q + 4, none⟩ v4).setCell ⟨g, q + 5, none⟩ v5) (some g) := by
  have k : ∀ (W : World) (i : Nat) (u : Value), W.grownBy (W.setCell ⟨g, i, none⟩ u) (some g) := fun W i u => ⟨rfl, rfl, rfl, by simp, fun b hb hne => Below.heap_setCell W _ _ b fun e => hne (by rw [e])⟩
  have t : ∀ {a b c : World}, a.grownBy b (some g) → b.grownBy c (some g) → a.grownBy c (some g) := fun h k => ⟨k.os.trans h.os, k.tape.trans h.tape, k.output.trans h.output, Nat.le_trans h.size k.size, fun i hi hne => (k.block i (Nat.lt_of_lt_of_le hi h.size) hne).trans (h.block i hi hne)⟩
  exact t (t (t (t (t (k _ _ _) (k _ _ _)) (k _ _ _)) (k _ _ _)) (k _ _ _)) (k _ _ _)
/-- the cells of a row of records -/
def rowF (rs : List Rec) (kv vv : Nat → Value) (i : Nat) : Value := six (.int .i64 (recAt rs (i / 6)).off) (.int .i64 (recAt rs (i / 6)).time) (.bool (recAt rs (i / 6)).hk) (kv (i / 6)) (.bool (recAt rs (i / 6)).hv) (vv (i / 6)) (i % 6)
theorem rowF_at (rs : List Rec) (kv vv : Nat → Value) (j k : Nat) (hk : k < 6) : rowF rs kv vv (j * 6 + k) = six (.int .i64 (recAt rs j).off) (.int .i64 (recAt rs j).time) (.bool (recAt rs j).hk) (kv j) (.bool (recAt rs j).hv) (vv j) k := by
  unfold rowF
  rw [show (j * 6 + k) / 6 = j by omega, show (j * 6 + k) % 6 = k by omega]
/-- the memory of a row of records lies apart: block number p of them -/
def partB (v : Value) (kv vv : Nat → Value) (p : Nat) : Option Nat := if p = 0 then v.ownBlock else if p % 2 = 1 then (kv ((p - 1) / 2)).ownBlock else (vv ((p - 2) / 2)).ownBlock
def Sep (v : Value) (kv vv : Nat → Value) (n : Nat) : Prop := ∀ p q k, p ≤ 2 * n → q ≤ 2 * n → p ≠ q → partB v kv vv p = some k → partB v kv vv q ≠ some k
/-- v is a row of the records rs, of the call's own, all its memory apart -/
def OwnRecs (w : World) (base : Nat) (v : Value) (rs : List Rec) : Prop :=
  ∃ kv vv : Nat → Value, Row6 w base v rs.length (rowF rs kv vv) ∧ (∀ i, i < rs.length → Own w base (kv i) (recAt rs i).key ∧ Own w base (vv i) (recAt rs i).val) ∧ Sep v kv vv rs.length
theorem OwnRecs.below {w w' : World} {base : Nat} {v : Value} {rs : List Rec} (h : OwnRecs w base v rs) (hb : Below w.heap.size w w') : OwnRecs w' base v rs := by
  obtain ⟨kv, vv, h1, h2, h3⟩ := h
  exact ⟨kv, vv, h1.below hb, fun i hi => ⟨(h2 i hi).1.below hb, (h2 i hi).2.below hb⟩, h3⟩
theorem OwnRecs.recs {w : World} {base : Nat} {v : Value} {rs : List Rec} (h : OwnRecs w base v rs) : Recs w v rs := by
  obtain ⟨kv, vv, h1, h2, h3⟩ := h
  have h1' := h1
  obtain ⟨xs, hr, _⟩ := h1'
  rcases hr.2 with ⟨rfl, h0⟩ | ⟨g, cap, cur, rfl, _, _, hl, hm, _⟩
  · exact ⟨none, 0, by rw [h0], by omega, by simp, fun h => by omega⟩
  · refine ⟨_, cap, rfl, hl, hm, fun _ => ⟨g, 0, rfl, fun i hi => ⟨kv i, vv i, ?_⟩⟩⟩
    have c : ∀ k, k < 6 → w.cell? ⟨g, 0 + i * 6 + k, none⟩ = some (six (.int .i64 (recAt rs i).off) (.int .i64 (recAt rs i).time) (.bool (recAt rs i).hk) (kv i) (.bool (recAt rs i).hv) (vv i) k) := fun k hk => by
      rw [Nat.zero_add, h1.cell (i * 6 + k) (by omega), rowF_at _ _ _ _ _ hk]
    exact ⟨c 0 (by omega), c 1 (by omega), c 2 (by omega), c 3 (by omega), c 4 (by omega), c 5 (by omega), (h2 i hi).1.ints, (h2 i hi).2.ints⟩
/-- v is a batch by value, its records of the call's own -/
def BatOwn (w : World) (base : Nat) (v : Value) (b : Bat) : Prop :=
  ∃ rv, v = .agg #[.bool b.packed, .bool b.mark, .int .i64 b.prod, .int .i64 b.epoch, .int .i64 b.seq, rv] ∧ OwnRecs w base rv b.recs
theorem BatOwn.below {w w' : World} {base : Nat} {v : Value} {b : Bat} (h : BatOwn w base v b) (hb : Below w.heap.size w w') : BatOwn w' base v b := by
  obtain ⟨rv, rfl, h1⟩ := h
  exact ⟨rv, rfl, h1.below hb⟩
theorem BatOwn.batV {w : World} {base : Nat} {v : Value} {b : Bat} (h : BatOwn w base v b) : BatV w v b := by
  obtain ⟨rv, rfl, h1⟩ := h
  exact ⟨rv, rfl, h1.recs⟩
/-- a row gets one record more -/
theorem Sep.snoc {w : World} {v : Value} {kv vv : Nat → Value} {n m : Nat} {k1 v1 : Value} (h : Sep v kv vv n) (hm : ∀ p k, p ≤ 2 * n → partB v kv vv p = some k → k < m) (hk : ∀ k, k1.ownBlock = some k → m ≤ k) (hv : ∀ k, v1.ownBlock = some k → m ≤ k)
    (ha : ∀ k, v1.ownBlock = some k → k1.ownBlock ≠ some k) : Sep v (fun i => if i = n then k1 else kv i) (fun i => if i = n then v1 else vv i) (n + 1) := by
  have old : ∀ p, p ≤ 2 * n → partB v (fun i => if i = n then k1 else kv i) (fun i => if i = n then v1 else vv i) p = partB v kv vv p := fun p hp => by
    unfold partB
    split
    · rfl
    · split
      · dsimp only; rw [if_neg (by omega)]
      · dsimp only; rw [if_neg (by omega)]
  have e1 : partB v (fun i => if i = n then k1 else kv i) (fun i => if i = n then v1 else vv i) (2 * n + 1) = k1.ownBlock := by
    unfold partB
    rw [if_neg (by omega), if_pos (by omega)]
    dsimp only
    rw [if_pos (by omega)]
  have e2 : partB v (fun i => if i = n then k1 else kv i) (fun i => if i = n then v1 else vv i) (2 * n + 2) = v1.ownBlock := by
    unfold partB
    rw [if_neg (by omega), if_neg (by omega)]
    dsimp only
    rw [if_pos (by omega)]
  intro p q k hp hq hpq h1 h2
  rcases (show p ≤ 2 * n ∨ p = 2 * n + 1 ∨ p = 2 * n + 2 by omega) with hp' | rfl | rfl <;> rcases (show q ≤ 2 * n ∨ q = 2 * n + 1 ∨ q = 2 * n + 2 by omega) with hq' | rfl | rfl
  · rw [old p hp'] at h1; rw [old q hq'] at h2; exact h p q k hp' hq' hpq h1 h2
  · rw [old p hp'] at h1; rw [e1] at h2; have := hm p k hp' h1; have := hk k h2; omega
  · rw [old p hp'] at h1; rw [e2] at h2; have := hm p k hp' h1; have := hv k h2; omega
  · rw [e1] at h1; rw [old q hq'] at h2; have := hm q k hq' h2; have := hk k h1; omega
  · omega
  · rw [e1] at h1; rw [e2] at h2; exact ha k h2 h1
  · rw [e2] at h1; rw [old q hq'] at h2; have := hm q k hq' h2; have := hv k h1; omega
  · rw [e2] at h1; rw [e1] at h2; exact ha k h1 h2
  · omega
theorem partB_lt {w : World} {base : Nat} {v : Value} {kv vv : Nat → Value} {n N : Nat} {rs : List Rec} {f : Nat → Value} (h1 : Row6 w base v N f) (h2 : ∀ i, i < n → Own w base (kv i) (recAt rs i).key ∧ Own w base (vv i) (recAt rs i).val) : ∀ p k, p ≤ 2 * n → partB v kv vv p = some k → k < w.heap.size := by
  intro p k hp h
  unfold partB at h
  split at h
  · exact (h1.lt k h).2
  · split at h
    · exact (h2 ((p - 1) / 2) (by omega)).1.lt2 k h
    · exact (h2 ((p - 2) / 2) (by omega)).2.lt2 k h
end Go.Proofs.Ytfapeppocfodpaa
