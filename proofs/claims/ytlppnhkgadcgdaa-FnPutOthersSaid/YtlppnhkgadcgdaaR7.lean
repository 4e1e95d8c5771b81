/- Rows of records that grow. -/
import Derived.Test.YtlppnhkgadcgdaaR6
import Derived.Test.YtlppnhkgadcgdaaDX
import Derived.Deep.AppendLies
namespace Go.Proofs.Ytlppnhkgadcgdaa
open Go.ChangeShapes Go.WideShapes Go.ChangeAt Go.RowKit
set_option linter.unusedVariables false

theorem info_recR : (Try.prog.info? 58).map (fun i => (i.zero, i.size, i.bytes)) = some (some (.agg #[.int .i64 0, .int .i64 0, .bool false, .slice none 0 0, .bool false, .slice none 0 0]), 6, 80) := by kernel_rfl
/-- 'append(s, u...)', one record appended, in a region in order -/
theorem wp_appR {w : World} {ops : Array Oper} {rest : List Oper} {o : Oper} {a : Act} {Q : Exit → Act → World → Prop}
    (hg : o.guard = none) (s x : Operand) (hop : o.op = Op.call { callee := Callee.builtin Builtin.append, args := #[s, x], argTypes := #[31, 31] })
    (base : Nat) (v : Value) (n : Nat) (f : Nat → Value) (ad : Addr) (c : Nat) (v0 v1 v2 v3 v4 v5 : Value) (hs : a.eval s = v) (hx : a.eval x = .slice (some ad) 1 c)
    (hown : Row6 w base v n f) (hsrc : ∀ j, j < 6 → w.cell? (ad.add j) = some (six v0 v1 v2 v3 v4 v5 j)) (h1 : ∀ j, j < 6 → (six v0 v1 v2 v3 v4 v5 j).oneCell' = true) (hlen : n < 1000000000) (hb : base ≤ w.heap.size) (H : Nat) (hH : w.heap.size = H)
    (hK : ∀ g cap w', Row6 w' base (.slice (some ⟨g, 0, none⟩) (n + 1) cap) (n + 1) (fun i => if i < n * 6 then f i else six v0 v1 v2 v3 v4 v5 (i - n * 6)) → w.grownBy w' v.ownBlock → (v.ownBlock = some g ∨ g = H) → wpList Try.prog ops Q rest (a.put o.dst (.slice (some ⟨g, 0, none⟩) (n + 1) cap)) w') :
    wpList Try.prog ops Q (o :: rest) a w := by
  obtain ⟨i0, hi, hz0, hz1, hz2⟩ := info_parts info_recR
  obtain ⟨xs, hown, hf⟩ := hown
  have hxl := hown.1
  refine wpList_append_lies w hg s x 31 hop base 58 i0 _ 6 80 Try.underlying31 hi hz0 hz1 hz2 rfl (by decide) v n xs hs hown ad 1 c [v0, v1, v2, v3, v4, v5] hx rfl ?_ ?_ (by decide) (by unfold maxLen; omega) (by omega) hb H hH ?_
  · intro j u hj
    match j, hj with
    | 0, hj => simp at hj; subst hj; exact hsrc 0 (by decide)
    | 1, hj => simp at hj; subst hj; exact hsrc 1 (by decide)
    | 2, hj => simp at hj; subst hj; exact hsrc 2 (by decide)
    | 3, hj => simp at hj; subst hj; exact hsrc 3 (by decide)
    | 4, hj => simp at hj; subst hj; exact hsrc 4 (by decide)
    | 5, hj => simp at hj; subst hj; exact hsrc 5 (by decide)
  · intro u hu
    simp only [List.mem_cons, List.not_mem_nil, or_false] at hu
    rcases hu with rfl | rfl | rfl | rfl | rfl | rfl
    · exact h1 0 (by decide)
    · exact h1 1 (by decide)
    · exact h1 2 (by decide)
    · exact h1 3 (by decide)
    · exact h1 4 (by decide)
    · exact h1 5 (by decide)
  · intro g cap w' h2 h3 h4 _
    refine hK g cap w' ⟨_, h2, fun i hi => ?_⟩ h3 h4
    dsimp only
    by_cases hlt : i < n * 6
    · rw [if_pos hlt, List.getElem?_append_left (by omega)]
      exact hf i hlt
    · rw [if_neg hlt, List.getElem?_append_right (by omega), hxl]
      rcases (show i - n * 6 = 0 ∨ i - n * 6 = 1 ∨ i - n * 6 = 2 ∨ i - n * 6 = 3 ∨ i - n * 6 = 4 ∨ i - n * 6 = 5 by omega) with h | h | h | h | h | h
      all_goals (rw [h]; rfl)

/-- 'append(s, u...)', one record appended, as an operation -/
theorem op_appR {w : World} {o : Oper} {a : Act} {K : Act → World → Prop} {Q : Exit → Act → World → Prop}
    (s x : Operand) (hop : o.op = Op.call { callee := Callee.builtin Builtin.append, args := #[s, x], argTypes := #[31, 31] })
    (base : Nat) (v : Value) (n : Nat) (f : Nat → Value) (ad : Addr) (c : Nat) (v0 v1 v2 v3 v4 v5 : Value) (hs : a.eval s = v) (hx : a.eval x = .slice (some ad) 1 c)
    (hown : Row6 w base v n f) (hsrc : ∀ j, j < 6 → w.cell? (ad.add j) = some (six v0 v1 v2 v3 v4 v5 j)) (h1 : ∀ j, j < 6 → (six v0 v1 v2 v3 v4 v5 j).oneCell' = true) (hlen : n < 1000000000) (hb : base ≤ w.heap.size) (H : Nat) (hH : w.heap.size = H)
    (hK : ∀ g cap w', Row6 w' base (.slice (some ⟨g, 0, none⟩) (n + 1) cap) (n + 1) (fun i => if i < n * 6 then f i else six v0 v1 v2 v3 v4 v5 (i - n * 6)) → w.grownBy w' v.ownBlock → (v.ownBlock = some g ∨ g = H) → K (a.put o.dst (.slice (some ⟨g, 0, none⟩) (n + 1) cap)) w') :
    Oper.wp Try.prog o a w K Q := by
  obtain ⟨i0, hi, hz0, hz1, hz2⟩ := info_parts info_recR
  obtain ⟨xs, hown, hf⟩ := hown
  have hxl := hown.1
  refine wp_append_lies w s x 31 hop base 58 i0 _ 6 80 Try.underlying31 hi hz0 hz1 hz2 rfl (by decide) v n xs hs hown ad 1 c [v0, v1, v2, v3, v4, v5] hx rfl ?_ ?_ (by decide) (by unfold maxLen; omega) (by omega) hb H hH ?_
  · intro j u hj
    match j, hj with
    | 0, hj => simp at hj; subst hj; exact hsrc 0 (by decide)
    | 1, hj => simp at hj; subst hj; exact hsrc 1 (by decide)
    | 2, hj => simp at hj; subst hj; exact hsrc 2 (by decide)
    | 3, hj => simp at hj; subst hj; exact hsrc 3 (by decide)
    | 4, hj => simp at hj; subst hj; exact hsrc 4 (by decide)
    | 5, hj => simp at hj; subst hj; exact hsrc 5 (by decide)
  · intro u hu
    simp only [List.mem_cons, List.not_mem_nil, or_false] at hu
    rcases hu with rfl | rfl | rfl | rfl | rfl | rfl
    · exact h1 0 (by decide)
    · exact h1 1 (by decide)
    · exact h1 2 (by decide)
    · exact h1 3 (by decide)
    · exact h1 4 (by decide)
    · exact h1 5 (by decide)
  · intro g cap w' h2 h3 h4 _
    refine hK g cap w' ⟨_, h2, fun i hi => ?_⟩ h3 h4
    dsimp only
    by_cases hlt : i < n * 6
    · rw [if_pos hlt, List.getElem?_append_left (by omega)]
      exact hf i hlt
    · rw [if_neg hlt, List.getElem?_append_right (by omega), hxl]
      rcases (show i - n * 6 = 0 ∨ i - n * 6 = 1 ∨ i - n * 6 = 2 ∨ i - n * 6 = 3 ∨ i - n * 6 = 4 ∨ i - n * 6 = 5 by omega) with h | h | h | h | h | h
      all_goals (rw [h]; rfl)

/-- a row of records of the call's own, all its memory ahead of m -/
def OwnRm (w : World) (base m : Nat) (v : Value) (rs : List Rec) : Prop :=
  ∃ kv vv : Nat → Value, Row6 w base v rs.length (rowF rs kv vv) ∧ (∀ i, i < rs.length → Own w base (kv i) (recAt rs i).key ∧ Own w base (vv i) (recAt rs i).val) ∧ Sep v kv vv rs.length ∧ ∀ p k, p ≤ 2 * rs.length → partB v kv vv p = some k → k < m
theorem OwnRecs.bound {w : World} {base : Nat} {v : Value} {rs : List Rec} (h : OwnRecs w base v rs) : OwnRm w base w.heap.size v rs := by
  obtain ⟨kv, vv, h1, h2, h3⟩ := h
  exact ⟨kv, vv, h1, h2, h3, partB_lt h1 h2⟩
theorem OwnRm.recs {w : World} {base m : Nat} {v : Value} {rs : List Rec} (h : OwnRm w base m v rs) : OwnRecs w base v rs := by
  obtain ⟨kv, vv, h1, h2, h3, _⟩ := h
  exact ⟨kv, vv, h1, h2, h3⟩
theorem OwnRm.below {w w' : World} {base m : Nat} {v : Value} {rs : List Rec} (h : OwnRm w base m v rs) (hb : Below w.heap.size w w') : OwnRm w' base m v rs := by
  obtain ⟨kv, vv, h1, h2, h3, h4⟩ := h
  exact ⟨kv, vv, h1.below hb, fun i hi => ⟨(h2 i hi).1.below hb, (h2 i hi).2.below hb⟩, h3, h4⟩
theorem Row6.byB {w w' : World} {base n B : Nat} {v : Value} {f : Nat → Value} (h : Row6 w base v n f) (hg : w.grownBy w' (some B)) (hB : B < base) : Row6 w' base v n f := h.kept hg (by
  cases e : v.ownBlock with
  | none => exact .inl rfl
  | some q => exact .inr fun e2 => by have := (h.lt q e).1; simp only [Option.some.injEq] at e2; omega)
theorem OwnRm.by {w w' : World} {base m B : Nat} {v : Value} {rs : List Rec} (h : OwnRm w base m v rs) (hB : B < base) (hg : w.grownBy w' (some B)) : OwnRm w' base m v rs := by
  obtain ⟨kv, vv, h1, h2, h3, h4⟩ := h
  exact ⟨kv, vv, h1.byB hg hB, fun i hi => ⟨(h2 i hi).1.by hB hg, (h2 i hi).2.by hB hg⟩, h3, h4⟩
/-- a block that is not of the row is written to -/
theorem OwnRm.other {w w' : World} {base m B : Nat} {v : Value} {rs : List Rec} (h : OwnRm w base m v rs) (hB : m ≤ B) (hg : w.grownBy w' (some B)) : OwnRm w' base m v rs := by
  obtain ⟨kv, vv, h1, h2, h3, h4⟩ := h
  have ne : ∀ (u : Value) (p : Nat), p ≤ 2 * rs.length → partB v kv vv p = u.ownBlock → u.ownBlock = none ∨ u.ownBlock ≠ some B := fun u p hp e => by
    cases e2 : u.ownBlock with
    | none => exact .inl rfl
    | some q => exact .inr fun e3 => by have := h4 p q hp (e.trans e2); simp only [Option.some.injEq] at e3; omega
  refine ⟨kv, vv, h1.kept hg (ne v 0 (by omega) rfl), fun i hi => ⟨(h2 i hi).1.grown hg (ne _ (2 * i + 1) (by omega) ?_), (h2 i hi).2.grown hg (ne _ (2 * i + 2) (by omega) ?_)⟩, h3, h4⟩
  · unfold partB
    rw [if_neg (by omega), if_pos (by omega), show (2 * i + 1 - 1) / 2 = i by omega]
  · unfold partB
    rw [if_neg (by omega), if_neg (by omega), show (2 * i + 2 - 2) / 2 = i by omega]
theorem own_nilR (w : World) (base : Nat) : OwnRecs w base (.slice none 0 0) [] :=
  ⟨fun _ => undef, fun _ => undef, ⟨[], World.ownsRow_nil _ _ _ _, fun i hi => by simp at hi⟩, fun i hi => by simp at hi, fun p q k hp hq hpq => by simp at hp hq; omega⟩
theorem own_emptyR (w : World) (base : Nat) (hb : base ≤ w.heap.size) : OwnRecs (w.alloc (.cells #[] 58)) base (.slice (some ⟨w.heap.size, 0, none⟩) 0 0) [] :=
  ⟨fun _ => undef, fun _ => undef, ⟨[], World.ownsRow_made w #[] 0 hb (by simp) (by simp), fun i hi => by simp at hi⟩, fun i hi => by simp at hi, fun p q k hp hq hpq => by simp at hp hq; omega⟩
theorem rowF_snoc {rs : List Rec} {r : Rec} {kv vv : Nat → Value} {k1 v1 : Value} {i : Nat} (hi : i < (rs.length + 1) * 6) :
    (if i < rs.length * 6 then rowF rs kv vv i else six (.int .i64 r.off) (.int .i64 r.time) (.bool r.hk) k1 (.bool r.hv) v1 (i - rs.length * 6)) = rowF (rs ++ [r]) (fun j => if j = rs.length then k1 else kv j) (fun j => if j = rs.length then v1 else vv j) i := by
  by_cases h : i < rs.length * 6
  · rw [if_pos h]
    unfold rowF
    dsimp only
    rw [if_neg (by omega), if_neg (by omega), recAt_app1 (by omega)]
  · rw [if_neg h]
    have e : i / 6 = rs.length := by omega
    unfold rowF
    dsimp only
    rw [e, if_pos rfl, if_pos rfl, recAt_app2, show i - rs.length * 6 = i % 6 by omega]
/-- one record is appended; its parts are new -/
theorem snocK {w w' : World} {base m H g cap : Nat} {v k1 v1 : Value} {rs : List Rec} {r : Rec} {kv vv : Nat → Value} (h2 : ∀ i, i < rs.length → Own w base (kv i) (recAt rs i).key ∧ Own w base (vv i) (recAt rs i).val) (h3 : Sep v kv vv rs.length) (h4 : ∀ p k, p ≤ 2 * rs.length → partB v kv vv p = some k → k < m)
    (hbm : base ≤ m) (hmH : m ≤ H) (o1 : Own w m k1 r.key) (o2 : Own w m v1 r.val) (ap : ∀ k, v1.ownBlock = some k → k1.ownBlock ≠ some k) (l1 : ∀ k, k1.ownBlock = some k → k < H) (l2 : ∀ k, v1.ownBlock = some k → k < H)
    (hrow : Row6 w' base (.slice (some ⟨g, 0, none⟩) (rs.length + 1) cap) (rs.length + 1) (fun i => if i < rs.length * 6 then rowF rs kv vv i else six (.int .i64 r.off) (.int .i64 r.time) (.bool r.hk) k1 (.bool r.hv) v1 (i - rs.length * 6)))
    (hg : w.grownBy w' v.ownBlock) (hat : v.ownBlock = some g ∨ g = H) : OwnRecs w' base (.slice (some ⟨g, 0, none⟩) (rs.length + 1) cap) (rs ++ [r]) := by
  have hl : (rs ++ [r]).length = rs.length + 1 := by simp
  have hv0 : ∀ k, v.ownBlock = some k → k < m := fun k hk => h4 0 k (by omega) hk
  have pk : ∀ i, partB v kv vv (2 * i + 1) = (kv i).ownBlock := fun i => by
    unfold partB
    rw [if_neg (by omega), if_pos (by omega), show (2 * i + 1 - 1) / 2 = i by omega]
  have pv : ∀ i, partB v kv vv (2 * i + 2) = (vv i).ownBlock := fun i => by
    unfold partB
    rw [if_neg (by omega), if_neg (by omega), show (2 * i + 2 - 2) / 2 = i by omega]
  have keep : ∀ (u : Value) (b : Nat) (xs : List Int), Own w b u xs → b ≥ base → (∀ k, v.ownBlock = some k → u.ownBlock ≠ some k) → Own w' base u xs := fun u b xs ho hb hne => (ho.grown hg (by
    cases e : u.ownBlock with
    | none => exact .inl rfl
    | some q => exact .inr fun e2 => hne q e2.symm e)).base hb
  have S0 : Sep (.slice (some ⟨g, 0, none⟩) (rs.length + 1) cap) kv vv rs.length := by
    have e0 : ∀ p, p ≠ 0 → partB (.slice (some ⟨g, 0, none⟩) (rs.length + 1) cap) kv vv p = partB v kv vv p := fun p hp => by
      unfold partB
      rw [if_neg hp, if_neg hp]
    have e1 : partB (.slice (some ⟨g, 0, none⟩) (rs.length + 1) cap) kv vv 0 = some g := rfl
    have far : ∀ q k, q ≤ 2 * rs.length → q ≠ 0 → partB v kv vv q = some k → k ≠ g := fun q k hq hq0 hk e => by
      rcases hat with hat | hat
      · exact h3 0 q g (by omega) hq (fun x => hq0 x.symm) hat (e ▸ hk)
      · have := h4 q k hq hk; omega
    intro p q k hp hq hpq h5 h6
    by_cases p0 : p = 0
    · subst p0
      rw [e1] at h5
      rw [e0 q (fun x => hpq x.symm)] at h6
      simp only [Option.some.injEq] at h5
      exact far q k hq (fun x => hpq x.symm) h6 h5.symm
    · rw [e0 p p0] at h5
      by_cases q0 : q = 0
      · subst q0
        rw [e1] at h6
        simp only [Option.some.injEq] at h6
        exact far p k hp p0 h5 h6.symm
      · rw [e0 q q0] at h6
        exact h3 p q k hp hq hpq h5 h6
  refine ⟨fun j => if j = rs.length then k1 else kv j, fun j => if j = rs.length then v1 else vv j, ?_, fun i hi => ?_, ?_⟩
  · rw [hl]
    exact hrow.congr fun i hi => rowF_snoc hi
  · rw [hl] at hi
    by_cases e : i = rs.length
    · subst e
      rw [show (fun j => if j = rs.length then k1 else kv j) rs.length = k1 from if_pos rfl, show (fun j => if j = rs.length then v1 else vv j) rs.length = v1 from if_pos rfl, recAt_app2]
      exact ⟨keep k1 m _ o1 hbm (fun k hk e => by have := hv0 k hk; have := o1.lt k e; omega), keep v1 m _ o2 hbm (fun k hk e => by have := hv0 k hk; have := o2.lt k e; omega)⟩
    · dsimp only
      rw [if_neg e, if_neg e, recAt_app1 (by omega)]
      have q := h2 i (by omega)
      exact ⟨keep _ _ _ q.1 (Nat.le_refl _) (fun k hk e2 => h3 0 (2 * i + 1) k (by omega) (by omega) (by omega) hk ((pk i).trans e2)), keep _ _ _ q.2 (Nat.le_refl _) (fun k hk e2 => h3 0 (2 * i + 2) k (by omega) (by omega) (by omega) hk ((pv i).trans e2))⟩
  · rw [hl]
    rcases hat with hat | hat
    · refine S0.snoc (w := w) (m := m) (fun p k hp hk => ?_) (fun k hk => o1.lt k hk) (fun k hk => o2.lt k hk) ap
      by_cases p0 : p = 0
      · subst p0
        have : g = k := by simpa [partB, Value.ownBlock] using hk
        subst this
        exact hv0 g hat
      · have e0 : partB v kv vv p = some k := by rw [← hk]; unfold partB; rw [if_neg p0, if_neg p0]
        exact h4 p k hp e0
    · intro p q k hp hq hpq h5 h6
      have T := (h3.snoc (w := w) (m := m) h4 (fun k hk => o1.lt k hk) (fun k hk => o2.lt k hk) ap)
      have e0 : ∀ p, p ≠ 0 → partB (.slice (some ⟨g, 0, none⟩) (rs.length + 1) cap) (fun j => if j = rs.length then k1 else kv j) (fun j => if j = rs.length then v1 else vv j) p = partB v (fun j => if j = rs.length then k1 else kv j) (fun j => if j = rs.length then v1 else vv j) p := fun p hp => by
        unfold partB
        rw [if_neg hp, if_neg hp]
      have lt : ∀ q k, q ≤ 2 * (rs.length + 1) → q ≠ 0 → partB v (fun j => if j = rs.length then k1 else kv j) (fun j => if j = rs.length then v1 else vv j) q = some k → k < H := fun q k hq hq0 hk => by
        unfold partB at hk
        rw [if_neg hq0] at hk
        split at hk
        · dsimp only at hk
          split at hk
          · exact l1 k hk
          · have := h4 (2 * ((q - 1) / 2) + 1) k (by omega) ((pk _).trans hk); omega
        · dsimp only at hk
          split at hk
          · exact l2 k hk
          · have := h4 (2 * ((q - 2) / 2) + 2) k (by omega) ((pv _).trans hk); omega
      have e1 : ∀ k, partB (.slice (some ⟨g, 0, none⟩) (rs.length + 1) cap) (fun j => if j = rs.length then k1 else kv j) (fun j => if j = rs.length then v1 else vv j) 0 = some k → k = g := fun k hk => by
        have : g = k := by simpa [partB, Value.ownBlock] using hk
        exact this.symm
      by_cases p0 : p = 0
      · subst p0
        have := e1 k h5
        rw [e0 q (fun x => hpq x.symm)] at h6
        have := lt q k hq (fun x => hpq x.symm) h6
        omega
      · rw [e0 p p0] at h5
        by_cases q0 : q = 0
        · subst q0
          have := e1 k h6
          have := lt p k hp p0 h5
          omega
        · rw [e0 q q0] at h6
          exact T p q k hp hq hpq h5 h6
theorem Own.oneCell {w : World} {base : Nat} {v : Value} {xs : List Int} (h : Own w base v xs) : v.oneCell' = true := by
  obtain ⟨a, cap, rfl, _⟩ := h.ints
  rfl
/-- 'append(s, u...)', one record with parts of its own appended to a row of the call's own -/
theorem wp_appO {w : World} {ops : Array Oper} {rest : List Oper} {o : Oper} {a : Act} {Q : Exit → Act → World → Prop}
    (hg : o.guard = none) (s x : Operand) (hop : o.op = Op.call { callee := Callee.builtin Builtin.append, args := #[s, x], argTypes := #[31, 31] })
    (base m : Nat) (v : Value) (rs : List Rec) (r : Rec) (k1 v1 : Value) (ad : Addr) (c : Nat) (hs : a.eval s = v) (hx : a.eval x = .slice (some ad) 1 c)
    (h : OwnRm w base m v rs) (hbm : base ≤ m) (H : Nat) (hH : w.heap.size = H) (hmH : m ≤ H) (o1 : Own w m k1 r.key) (o2 : Own w m v1 r.val) (ap : ∀ k, v1.ownBlock = some k → k1.ownBlock ≠ some k)
    (hsrc : ∀ j, j < 6 → w.cell? (ad.add j) = some (six (.int .i64 r.off) (.int .i64 r.time) (.bool r.hk) k1 (.bool r.hv) v1 j)) (hlen : rs.length < 1000000000)
    (hK : ∀ g cap w', OwnRecs w' base (.slice (some ⟨g, 0, none⟩) (rs.length + 1) cap) (rs ++ [r]) → w.grownBy w' v.ownBlock → (v.ownBlock = some g ∨ g = H) → (∀ k, v.ownBlock = some k → k < m ∧ base ≤ k) → wpList Try.prog ops Q rest (a.put o.dst (.slice (some ⟨g, 0, none⟩) (rs.length + 1) cap)) w') :
    wpList Try.prog ops Q (o :: rest) a w := by
  obtain ⟨kv, vv, h1, h2, h3, h4⟩ := h
  refine wp_appR hg s x hop base v rs.length (rowF rs kv vv) ad c _ _ _ _ _ _ hs hx h1 hsrc ?_ hlen (by omega) H hH ?_
  · intro j hj
    rcases (show j = 0 ∨ j = 1 ∨ j = 2 ∨ j = 3 ∨ j = 4 ∨ j = 5 by omega) with rfl | rfl | rfl | rfl | rfl | rfl
    · rfl
    · rfl
    · rfl
    · exact o1.oneCell
    · rfl
    · exact o2.oneCell
  · intro g cap w' hrow hgr hat
    exact hK g cap w' (snocK h2 h3 h4 hbm hmH o1 o2 ap (fun k hk => by have := o1.lt2 k hk; omega) (fun k hk => by have := o2.lt2 k hk; omega) hrow hgr hat) hgr hat (fun k hk => ⟨h4 0 k (by omega) hk, (h1.lt k hk).1⟩)
end Go.Proofs.Ytlppnhkgadcgdaa
