/- Rows of records beside a box: made of a literal, grown by a record of their own. -/
import Derived.Test.YtlppnhkgadcgdaaR7
namespace Go.Proofs.Ytlppnhkgadcgdaa
open Go.ChangeShapes Go.WideShapes Go.ChangeAt Go.RowKit
set_option linter.unusedVariables false

/-- a row of records of the call's own that has nothing in block X -/
def OwnX (w : World) (base X : Nat) (v : Value) (rs : List Rec) : Prop :=
  ∃ kv vv : Nat → Value, Row6 w base v rs.length (rowF rs kv vv) ∧ (∀ i, i < rs.length → Own w base (kv i) (recAt rs i).key ∧ Own w base (vv i) (recAt rs i).val) ∧ Sep v kv vv rs.length ∧ ∀ p, p ≤ 2 * rs.length → partB v kv vv p ≠ some X
theorem partB_k (v : Value) (kv vv : Nat → Value) (i : Nat) : partB v kv vv (2 * i + 1) = (kv i).ownBlock := by
  unfold partB
  rw [if_neg (by omega), if_pos (by omega), show (2 * i + 1 - 1) / 2 = i by omega]
theorem partB_v (v : Value) (kv vv : Nat → Value) (i : Nat) : partB v kv vv (2 * i + 2) = (vv i).ownBlock := by
  unfold partB
  rw [if_neg (by omega), if_neg (by omega), show (2 * i + 2 - 2) / 2 = i by omega]
theorem OwnX.recs {w : World} {base X : Nat} {v : Value} {rs : List Rec} (h : OwnX w base X v rs) : OwnRecs w base v rs := by
  obtain ⟨kv, vv, h1, h2, h3, _⟩ := h
  exact ⟨kv, vv, h1, h2, h3⟩
theorem OwnX.below {w w' : World} {base X : Nat} {v : Value} {rs : List Rec} (h : OwnX w base X v rs) (hb : Below w.heap.size w w') : OwnX w' base X v rs := by
  obtain ⟨kv, vv, h1, h2, h3, h4⟩ := h
  exact ⟨kv, vv, h1.below hb, fun i hi => ⟨(h2 i hi).1.below hb, (h2 i hi).2.below hb⟩, h3, h4⟩
theorem OwnX.by {w w' : World} {base X B : Nat} {v : Value} {rs : List Rec} (h : OwnX w base X v rs) (hB : B < base) (hg : w.grownBy w' (some B)) : OwnX w' base X v rs := by
  obtain ⟨kv, vv, h1, h2, h3, h4⟩ := h
  exact ⟨kv, vv, h1.byB hg hB, fun i hi => ⟨(h2 i hi).1.by hB hg, (h2 i hi).2.by hB hg⟩, h3, h4⟩
theorem OwnX.set {w w' : World} {base X : Nat} {v : Value} {rs : List Rec} (h : OwnX w base X v rs) (hg : w.grownBy w' (some X)) : OwnX w' base X v rs := by
  obtain ⟨kv, vv, h1, h2, h3, h4⟩ := h
  exact ⟨kv, vv, h1.kept hg (.inr (h4 0 (by omega))), fun i hi => ⟨(h2 i hi).1.grown hg (.inr (by rw [← partB_k v kv vv i]; exact h4 _ (by omega))), (h2 i hi).2.grown hg (.inr (by rw [← partB_v v kv vv i]; exact h4 _ (by omega)))⟩, h3, h4⟩
theorem OwnRm.ownX {w : World} {base m X : Nat} {v : Value} {rs : List Rec} (h : OwnRm w base m v rs) (hm : m ≤ X) : OwnX w base X v rs := by
  obtain ⟨kv, vv, h1, h2, h3, h4⟩ := h
  exact ⟨kv, vv, h1, h2, h3, fun p hp e => by have := h4 p X hp e; omega⟩
theorem Row6.baseB {w : World} {base b n : Nat} {v : Value} {f : Nat → Value} (h : Row6 w base v n f) (hb : b ≤ base) : Row6 w b v n f := by
  obtain ⟨xs, h, hx⟩ := h
  refine ⟨xs, ⟨h.1, ?_⟩, hx⟩
  rcases h.2 with h0 | ⟨g, cap, cur, e, hg, rest⟩
  · exact .inl h0
  · exact .inr ⟨g, cap, cur, e, Nat.le_trans hb hg, rest⟩
theorem OwnRecs.ownX {w : World} {base b X : Nat} {v : Value} {rs : List Rec} (h : OwnRecs w b v rs) (hX : X < b) (hb : base ≤ b) : OwnX w base X v rs := by
  obtain ⟨kv, vv, h1, h2, h3⟩ := h
  refine ⟨kv, vv, h1.baseB hb, fun i hi => ⟨(h2 i hi).1.base hb, (h2 i hi).2.base hb⟩, h3, fun p hp e => ?_⟩
  unfold partB at e
  split at e
  · have := (h1.lt X e).1; omega
  · split at e
    · have := (h2 ((p - 1) / 2) (by omega)).1.lt X e; omega
    · have := (h2 ((p - 2) / 2) (by omega)).2.lt X e; omega
/-- '[]impl.Record{r}' -/
theorem own_litR (w : World) (base : Nat) (r : Rec) (k1 v1 : Value) (o1 : Own w base k1 r.key) (o2 : Own w base v1 r.val) (ap : ∀ k, v1.ownBlock = some k → k1.ownBlock ≠ some k) (hb : base ≤ w.heap.size) :
    OwnRecs (w.alloc (.cells #[.int .i64 r.off, .int .i64 r.time, .bool r.hk, k1, .bool r.hv, v1] 58)) base (.slice (some ⟨w.heap.size, 0, none⟩) 1 1) [r] := by
  have bel := alloc_below' w (.cells #[.int .i64 r.off, .int .i64 r.time, .bool r.hk, k1, .bool r.hv, v1] 58)
  refine ⟨fun _ => k1, fun _ => v1, ⟨[.int .i64 r.off, .int .i64 r.time, .bool r.hk, k1, .bool r.hv, v1], ⟨rfl, .inr ⟨w.heap.size, 1, _, rfl, hb, heap_alloc_new w _, by simp, by unfold maxLen; omega, by simp, by simp⟩⟩, fun i hi => ?_⟩, fun i hi => ?_, ?_⟩
  · have hi6 : i < 6 := by simpa using hi
    have e := rowF_at [r] (fun _ => k1) (fun _ => v1) 0 i hi6
    rw [Nat.zero_mul, Nat.zero_add] at e
    rw [e]
    rcases (show i = 0 ∨ i = 1 ∨ i = 2 ∨ i = 3 ∨ i = 4 ∨ i = 5 by omega) with rfl | rfl | rfl | rfl | rfl | rfl
    all_goals rfl
  · obtain rfl : i = 0 := by simpa using hi
    exact ⟨o1.below bel, o2.below bel⟩
  · intro p q k hp hq hpq h5 h6
    have hp' : p ≤ 2 := by simpa using hp
    have hq' : q ≤ 2 := by simpa using hq
    have b0 : ∀ k, partB (.slice (some ⟨w.heap.size, 0, none⟩) 1 1) (fun _ => k1) (fun _ => v1) 0 = some k → k = w.heap.size := fun k hk => by
      have : w.heap.size = k := by simpa [partB, Value.ownBlock] using hk
      exact this.symm
    have b1 := partB_k (.slice (some ⟨w.heap.size, 0, none⟩) 1 1) (fun _ => k1) (fun _ => v1) 0
    have b2 := partB_v (.slice (some ⟨w.heap.size, 0, none⟩) 1 1) (fun _ => k1) (fun _ => v1) 0
    rcases (show p = 0 ∨ p = 2 * 0 + 1 ∨ p = 2 * 0 + 2 by omega) with rfl | rfl | rfl <;> rcases (show q = 0 ∨ q = 2 * 0 + 1 ∨ q = 2 * 0 + 2 by omega) with rfl | rfl | rfl
    · omega
    · have := b0 k h5; have := o1.lt2 k (b1.symm.trans h6); omega
    · have := b0 k h5; have := o2.lt2 k (b2.symm.trans h6); omega
    · have := b0 k h6; have := o1.lt2 k (b1.symm.trans h5); omega
    · omega
    · exact ap k (b2.symm.trans h6) (b1.symm.trans h5)
    · have := b0 k h6; have := o2.lt2 k (b2.symm.trans h5); omega
    · exact ap k (b2.symm.trans h5) (b1.symm.trans h6)
    · omega
/-- a row of records of the call's own that has nothing in block X; two records may have the same parts -/
def OwnY (w : World) (base X : Nat) (v : Value) (rs : List Rec) : Prop :=
  ∃ kv vv : Nat → Value, Row6 w base v rs.length (rowF rs kv vv) ∧ (∀ i, i < rs.length → Own w base (kv i) (recAt rs i).key ∧ Own w base (vv i) (recAt rs i).val) ∧ ∀ p, p ≤ 2 * rs.length → partB v kv vv p ≠ some X
theorem OwnX.ownY {w : World} {base X : Nat} {v : Value} {rs : List Rec} (h : OwnX w base X v rs) : OwnY w base X v rs := by
  obtain ⟨kv, vv, h1, h2, _, h4⟩ := h
  exact ⟨kv, vv, h1, h2, h4⟩
theorem OwnY.by {w w' : World} {base X B : Nat} {v : Value} {rs : List Rec} (h : OwnY w base X v rs) (hB : B < base) (hg : w.grownBy w' (some B)) : OwnY w' base X v rs := by
  obtain ⟨kv, vv, h1, h2, h4⟩ := h
  exact ⟨kv, vv, h1.byB hg hB, fun i hi => ⟨(h2 i hi).1.by hB hg, (h2 i hi).2.by hB hg⟩, h4⟩
theorem OwnY.set {w w' : World} {base X : Nat} {v : Value} {rs : List Rec} (h : OwnY w base X v rs) (hg : w.grownBy w' (some X)) : OwnY w' base X v rs := by
  obtain ⟨kv, vv, h1, h2, h4⟩ := h
  exact ⟨kv, vv, h1.kept hg (.inr (h4 0 (by omega))), fun i hi => ⟨(h2 i hi).1.grown hg (.inr (by rw [← partB_k v kv vv i]; exact h4 _ (by omega))), (h2 i hi).2.grown hg (.inr (by rw [← partB_v v kv vv i]; exact h4 _ (by omega)))⟩, h4⟩
theorem OwnY.recs {w : World} {base X : Nat} {v : Value} {rs : List Rec} (h : OwnY w base X v rs) : Recs w v rs := by
  obtain ⟨kv, vv, h1, h2, h3⟩ := h
  have h1' := h1
  obtain ⟨xs, hr, _⟩ := h1'
  rcases hr.2 with ⟨rfl, h0⟩ | ⟨g, cap, cur, rfl, _, _, hl, hm, _⟩
  · exact ⟨none, 0, by rw [h0], by omega, by simp, fun h => by omega⟩
  · refine ⟨_, cap, rfl, hl, hm, fun _ => ⟨g, 0, rfl, fun i hi => ⟨kv i, vv i, ?_⟩⟩⟩
    have c : ∀ k, k < 6 → w.cell? ⟨g, 0 + i * 6 + k, none⟩ = some (six (.int .i64 (recAt rs i).off) (.int .i64 (recAt rs i).time) (.bool (recAt rs i).hk) (kv i) (.bool (recAt rs i).hv) (vv i) k) := fun k hk => by
      rw [Nat.zero_add, h1.cell (i * 6 + k) (by omega), rowF_at _ _ _ _ _ hk]
    exact ⟨c 0 (by omega), c 1 (by omega), c 2 (by omega), c 3 (by omega), c 4 (by omega), c 5 (by omega), (h2 i hi).1.ints, (h2 i hi).2.ints⟩
/-- a row of records of the call's own; parts may be shared -/
def OwnP (w : World) (base : Nat) (v : Value) (rs : List Rec) : Prop :=
  ∃ kv vv : Nat → Value, Row6 w base v rs.length (rowF rs kv vv) ∧ ∀ i, i < rs.length → Own w base (kv i) (recAt rs i).key ∧ Own w base (vv i) (recAt rs i).val
theorem OwnY.ownP {w : World} {base X b : Nat} {v : Value} {rs : List Rec} (h : OwnY w base X v rs) (hb : b ≤ base) : OwnP w b v rs := by
  obtain ⟨kv, vv, h1, h2, _⟩ := h
  exact ⟨kv, vv, h1.baseB hb, fun i hi => ⟨(h2 i hi).1.base hb, (h2 i hi).2.base hb⟩⟩
theorem OwnRecs.ownP {w : World} {base b : Nat} {v : Value} {rs : List Rec} (h : OwnRecs w base v rs) (hb : b ≤ base) : OwnP w b v rs := by
  obtain ⟨kv, vv, h1, h2, _⟩ := h
  exact ⟨kv, vv, h1.baseB hb, fun i hi => ⟨(h2 i hi).1.base hb, (h2 i hi).2.base hb⟩⟩
theorem OwnP.base {w : World} {base b : Nat} {v : Value} {rs : List Rec} (h : OwnP w base v rs) (hb : b ≤ base) : OwnP w b v rs := by
  obtain ⟨kv, vv, h1, h2⟩ := h
  exact ⟨kv, vv, h1.baseB hb, fun i hi => ⟨(h2 i hi).1.base hb, (h2 i hi).2.base hb⟩⟩
theorem OwnP.below {w w' : World} {base : Nat} {v : Value} {rs : List Rec} (h : OwnP w base v rs) (hb : Below w.heap.size w w') : OwnP w' base v rs := by
  obtain ⟨kv, vv, h1, h2⟩ := h
  exact ⟨kv, vv, h1.below hb, fun i hi => ⟨(h2 i hi).1.below hb, (h2 i hi).2.below hb⟩⟩
theorem OwnP.by {w w' : World} {base B : Nat} {v : Value} {rs : List Rec} (h : OwnP w base v rs) (hB : B < base) (hg : w.grownBy w' (some B)) : OwnP w' base v rs := by
  obtain ⟨kv, vv, h1, h2⟩ := h
  exact ⟨kv, vv, h1.byB hg hB, fun i hi => ⟨(h2 i hi).1.by hB hg, (h2 i hi).2.by hB hg⟩⟩
theorem OwnP.recs {w : World} {base : Nat} {v : Value} {rs : List Rec} (h : OwnP w base v rs) : Recs w v rs := by
  obtain ⟨kv, vv, h1, h2⟩ := h
  have h1' := h1
  obtain ⟨xs, hr, _⟩ := h1'
  rcases hr.2 with ⟨rfl, h0⟩ | ⟨g, cap, cur, rfl, _, _, hl, hm, _⟩
  · exact ⟨none, 0, by rw [h0], by omega, by simp, fun h => by omega⟩
  · refine ⟨_, cap, rfl, hl, hm, fun _ => ⟨g, 0, rfl, fun i hi => ⟨kv i, vv i, ?_⟩⟩⟩
    have c : ∀ k, k < 6 → w.cell? ⟨g, 0 + i * 6 + k, none⟩ = some (six (.int .i64 (recAt rs i).off) (.int .i64 (recAt rs i).time) (.bool (recAt rs i).hk) (kv i) (.bool (recAt rs i).hv) (vv i) k) := fun k hk => by
      rw [Nat.zero_add, h1.cell (i * 6 + k) (by omega), rowF_at _ _ _ _ _ hk]
    exact ⟨c 0 (by omega), c 1 (by omega), c 2 (by omega), c 3 (by omega), c 4 (by omega), c 5 (by omega), (h2 i hi).1.ints, (h2 i hi).2.ints⟩
/-- the first record of a row, with its parts -/
theorem OwnX.first {w : World} {base X : Nat} {v : Value} {rs : List Rec} (h : OwnX w base X v rs) (h0 : 0 < rs.length) :
    ∃ (g cap : Nat) (k0 v0 : Value), v = .slice (some ⟨g, 0, none⟩) rs.length cap ∧ Own w base k0 (recAt rs 0).key ∧ Own w base v0 (recAt rs 0).val ∧
      (∀ j, j < 6 → w.cell? ⟨g, j, none⟩ = some (six (.int .i64 (recAt rs 0).off) (.int .i64 (recAt rs 0).time) (.bool (recAt rs 0).hk) k0 (.bool (recAt rs 0).hv) v0 j)) ∧
      ∃ f, Row6 w base v rs.length f ∧ ∀ (w' : World) (g' cap' H : Nat), Row6 w' base (.slice (some ⟨g', 0, none⟩) (rs.length + 1) cap') (rs.length + 1) (fun i => if i < rs.length * 6 then f i else six (.int .i64 (recAt rs 0).off) (.int .i64 (recAt rs 0).time) (.bool (recAt rs 0).hk) k0 (.bool (recAt rs 0).hv) v0 (i - rs.length * 6)) →
        w.grownBy w' v.ownBlock → (v.ownBlock = some g' ∨ g' = H) → X < H → OwnY w' base X (.slice (some ⟨g', 0, none⟩) (rs.length + 1) cap') (rs ++ [recAt rs 0]) := by
  obtain ⟨kv, vv, h1, h2, h3, h4⟩ := h
  have h1' := h1
  obtain ⟨xs, hr, _⟩ := h1'
  rcases hr.2 with ⟨rfl, hz⟩ | ⟨g, cap, cur, rfl, _, _, hl, hm, _⟩
  · omega
  · refine ⟨g, cap, kv 0, vv 0, rfl, (h2 0 h0).1, (h2 0 h0).2, fun j hj => ?_, rowF rs kv vv, h1, fun w' g' cap' H hrow hg hat hXH => ?_⟩
    · have := h1.cell (0 * 6 + j) (by omega)
      rw [rowF_at _ _ _ _ _ hj, Nat.zero_mul, Nat.zero_add] at this
      exact this
    · have hlen : (rs ++ [recAt rs 0]).length = rs.length + 1 := by simp
      have keep : ∀ (u : Value) (p : Nat) (xs : List Int), p ≤ 2 * rs.length → p ≠ 0 → partB (.slice (some ⟨g, 0, none⟩) rs.length cap) kv vv p = u.ownBlock → Own w base u xs → Own w' base u xs := fun u p xs hp hp0 e ho => ho.grown hg (by
        cases e2 : u.ownBlock with
        | none => exact .inl rfl
        | some q => exact .inr fun e3 => h3 0 p q (by omega) hp (fun x => hp0 x.symm) e3.symm (e.trans e2))
      refine ⟨fun j => if j = rs.length then kv 0 else kv j, fun j => if j = rs.length then vv 0 else vv j, ?_, fun i hi => ?_, fun p hp e => ?_⟩
      · rw [hlen]
        exact hrow.congr fun i hi => rowF_snoc hi
      · rw [hlen] at hi
        by_cases e : i = rs.length
        · subst e
          rw [show (fun j => if j = rs.length then kv 0 else kv j) rs.length = kv 0 from if_pos rfl, show (fun j => if j = rs.length then vv 0 else vv j) rs.length = vv 0 from if_pos rfl, recAt_app2]
          exact ⟨keep _ (2 * 0 + 1) _ (by omega) (by omega) (partB_k _ _ _ 0) (h2 0 h0).1, keep _ (2 * 0 + 2) _ (by omega) (by omega) (partB_v _ _ _ 0) (h2 0 h0).2⟩
        · dsimp only
          rw [if_neg e, if_neg e, recAt_app1 (by omega)]
          exact ⟨keep _ (2 * i + 1) _ (by omega) (by omega) (partB_k _ _ _ i) (h2 i (by omega)).1, keep _ (2 * i + 2) _ (by omega) (by omega) (partB_v _ _ _ i) (h2 i (by omega)).2⟩
      · rw [hlen] at hp
        have k1 := h4 (2 * 0 + 1) (by omega)
        have v1 := h4 (2 * 0 + 2) (by omega)
        rw [partB_k] at k1
        rw [partB_v] at v1
        unfold partB at e
        split at e
        · rcases hat with hat | hat
          · exact h4 0 (by omega) (hat.trans e)
          · have : g' = X := by simpa [Value.ownBlock] using e
            omega
        · split at e
          · dsimp only at e
            split at e
            · exact k1 e
            · exact h4 (2 * ((p - 1) / 2) + 1) (by omega) ((partB_k _ _ _ _).trans e)
          · dsimp only at e
            split at e
            · exact v1 e
            · exact h4 (2 * ((p - 2) / 2) + 2) (by omega) ((partB_v _ _ _ _).trans e)
end Go.Proofs.Ytlppnhkgadcgdaa
