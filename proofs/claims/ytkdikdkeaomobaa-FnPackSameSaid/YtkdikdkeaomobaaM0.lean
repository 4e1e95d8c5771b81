/- A map from three numbers in a row to the places where they have begun: what the program's map laws need. -/
import Derived.Test.YtkdikdkeaomobaaW4f
import Derived.Test.YtkdikdkeaomobaaW4e
import Derived.WideKeyArr
import Derived.WideKeyEntry
import Derived.Maps.GroupsBeside
namespace Go.Proofs.Ytkdikdkeaomobaa
open Go.ChangeShapes Go.WideShapes Go.ChangeAt Go.RowKit Go.WideMaps Go.WideElems Go.ChangeMaps
set_option linter.unusedVariables false

theorem tri_arr : ArrKey Try.prog 48 3 3 := ⟨Try.underlying48, by kernel_rfl, by kernel_rfl, by kernel_rfl⟩
theorem tri_law : KeyLaw Try.prog 48 := tri_arr.law
theorem tri_key {a b c : Int} (wa : (Lit.int .i64 a).wf = true) (wb : (Lit.int .i64 b).wf = true) (wc : (Lit.int .i64 c).wf = true) : ∃ l, keyOf Try.prog 48 (.agg #[.int .i64 a, .int .i64 b, .int .i64 c]) = some l := by
  have hsz : ∃ m, Try.prog.types.size = m + 1 := ⟨_, Nat.succ_pred_eq_of_pos (by decide +kernel) |>.symm⟩
  have hkt := tri_arr.keyType hsz
  obtain ⟨m, hm⟩ := hsz
  unfold keyOf
  simp only [tri_arr.hu]
  rw [if_pos (by simp [hkt, Value.formed, tri_arr.hu, tri_arr.size]), hm]
  unfold Program.keyLits
  simp only [tri_arr.hu, Value.cells]
  rw [if_pos (by rw [tri_arr.size]; rfl), show List.range 3 = [0, 1, 2] from rfl]
  simp [tri_arr.one, Program.keyLits, Try.underlying3, wa, wb, wc]
/-- numbers that fit -/
def Fits (xs : List Int) : Prop := ∀ i, (Lit.int .i64 (xs.getD i 0)).wf = true
theorem trip_key {xs : List Int} (h : Fits xs) (q : Nat) : ∃ l, keyOf Try.prog 48 (trip xs q) = some l := tri_key (h _) (h _) (h _)
theorem tri_zero (w : World) : (zeroValue 23).run Try.prog w = .ok (.slice none 0 0) w := by kernel_rfl

theorem key_at {l : List MapEntry} (hn : (l.map (·.key)).Nodup) {i j : Nat} {a b : MapEntry} (ha : l[i]? = some a) (hb : l[j]? = some b) (h : a.key = b.key) : i = j := by
  have hi : i < l.length := (List.getElem?_eq_some_iff.1 ha).1
  exact (List.getElem?_inj (l := l.map (·.key)) (by simpa using hi) hn).1 (by simp [ha, hb, h])
/-- 'm[k] = ..' with the old element read first, as two operations -/
theorem entry_two {w : World} {b : Nat} {es : Array MapEntry} {clock : Nat} {key : Value} {kl : Lit} (hb : w.heap[b]? = some (.map es clock)) (hs : MapKept.Stamped es clock) (hsz : es.size ≤ maxLen)
    (hks : ∀ x ∈ es.toList, ∃ l, keyOf Try.prog 48 x.key = some l) (hkey : keyOf Try.prog 48 key = some kl) :
    ∃ (v0 : Value) (st : Nat) (es1 : Array MapEntry) (c1 : Nat), (Instr.mapEntry 37 (.map (some b)) key).run Try.prog w = .ok (.tuple #[v0, goInt st]) (setBlock w b (.map es1 c1)) ∧
      ((∃ e0 ∈ es.toList, e0.key = key ∧ v0 = e0.val) ∨ ((∀ x ∈ es.toList, x.key ≠ key) ∧ v0 = .slice none 0 0)) ∧
      ∀ val, ∃ es2 c2, MapKept.Stamped es2 c2 ∧ es2.size ≤ es.size + 1 ∧ (∀ w2 : World, w2.heap[b]? = some (.map es1 c1) → (Instr.entryStore 37 (.map (some b)) (goInt st) val).run Try.prog w2 = .ok () (setBlock w2 b (.map es2 c2))) ∧
        (∀ y ∈ es2.toList, (y ∈ es.toList ∧ y.key ≠ key) ∨ (y.key = key ∧ y.val = val)) ∧ (∀ x ∈ es.toList, x.key ≠ key → x ∈ es2.toList) ∧ ∃ y ∈ es2.toList, y.key = key := by
  have F : Fit Try.prog 48 (fun _ => some ((.nil : DataW Unit), ([] : List MemPlace))) es clock := ⟨hsz, hs, fun x hx => by
    obtain ⟨l, hl⟩ := hks x hx
    exact ⟨(l, .nil), by simp [Go.WideElems.rd, hl]⟩⟩
  obtain ⟨v0, st, es1, c1, r1, r2, r3⟩ := entry_then_store tri_law Try.underlying37 tri_zero hb F hkey
  refine ⟨v0, st, es1, c1, r1, r2, fun val => ?_⟩
  have same : ∀ {es2 c2}, (Instr.mapUpdate 37 (.map (some b)) key val).run Try.prog w = .ok () (setBlock w b (.map es2 c2)) → ∀ w2 : World, w2.heap[b]? = some (.map es1 c1) → (Instr.entryStore 37 (.map (some b)) (goInt st) val).run Try.prog w2 = .ok () (setBlock w2 b (.map es2 c2)) := by
    intro es2 c2 hu w2 hw2
    obtain ⟨es', c', q1, q2⟩ := r3 w2 val hw2
    rw [hu] at q2
    have e : setBlock w b (.map es2 c2) = setBlock w b (.map es' c') := by simpa using q2
    have e1 := congrArg (fun W : World => W.heap[b]?) e
    simp only [heap_setBlock_same hb, Option.some.injEq, Obj.map.injEq] at e1
    obtain ⟨rfl, rfl⟩ := e1
    exact q1
  rcases tri_law.find w hkey es.toList hks with ⟨h1, h2⟩ | ⟨j, e0, h1, h2, h3⟩
  · refine ⟨es.push ⟨key, val, clock⟩, clock + 1, MapKept.stamped_push hs h2, by simp, same ?_, ?_, ?_, ?_⟩
    · simp [Instr.mapUpdate, run_underlying Try.underlying37, MapKept.run_getObj_map hb, tri_law.check w false hkey, h1, MapKept.run_setObj_map _ hb, Result.andThen, setBlock]
    · intro y hy
      simp only [Array.toList_push, List.mem_append, List.mem_singleton] at hy
      rcases hy with hy | rfl
      · exact .inl ⟨hy, h2 y hy⟩
      · exact .inr ⟨rfl, rfl⟩
    · intro x hx hne
      rw [Array.toList_push]
      exact List.mem_append_left _ hx
    · exact ⟨⟨key, val, clock⟩, by simp, rfl⟩
  · have hj : es[j]? = some e0 := by simpa using h2
    have hjl : j < es.toList.length := (List.getElem?_eq_some_iff.1 h2).1
    have hlist : (es.modify j (fun e' => { e' with key := key, val := val })).toList = es.toList.set j { e0 with key := key, val := val } := by
      rw [Array.toList_modify, modify_eq_set _ _ _ _ h2]
    refine ⟨es.modify j (fun e' => { e' with key := key, val := val }), clock, MapKept.stamped_modify hs j _ (fun _ _ => rfl) (fun e he hje => ?_), by simp, same ?_, ?_, ?_, ?_⟩
    · rw [hj] at hje
      obtain rfl := Option.some.inj hje
      exact h3.symm
    · simp [Instr.mapUpdate, run_underlying Try.underlying37, MapKept.run_getObj_map hb, tri_law.check w false hkey, h1, hj, h3, tri_law.stays w hkey, MapKept.run_setObj_map _ hb, Result.andThen, setBlock]
    · intro y hy
      rw [hlist] at hy
      obtain ⟨i, hi⟩ := List.mem_iff_getElem?.1 hy
      by_cases hij : j = i
      · subst hij
        rw [List.getElem?_set_self hjl] at hi
        obtain rfl := Option.some.inj hi
        exact .inr ⟨rfl, rfl⟩
      · rw [List.getElem?_set_ne hij] at hi
        exact .inl ⟨List.mem_of_getElem? hi, fun hk => hij (key_at hs.2.2 h2 hi (h3.trans hk.symm))⟩
    · intro x hx hne
      rw [hlist]
      obtain ⟨i, hi⟩ := List.mem_iff_getElem?.1 hx
      have hij : j ≠ i := fun e => by
        subst e
        rw [h2] at hi
        obtain rfl := Option.some.inj hi
        exact hne h3
      exact List.mem_of_getElem? ((List.getElem?_set_ne hij).trans hi)
    · exact ⟨{ e0 with key := key, val := val }, by rw [hlist]; exact List.mem_of_getElem? (List.getElem?_set_self hjl), rfl⟩

/-- three numbers at two places are the same -/
def plcOf (xs : List Int) (n q : Nat) : List Nat := (List.range n).filter (fun p => decide (p + 3 ≤ xs.length ∧ xs.getD p 0 = xs.getD q 0 ∧ xs.getD (p + 1) 0 = xs.getD (q + 1) 0 ∧ xs.getD (p + 2) 0 = xs.getD (q + 2) 0))
theorem trip_eq {xs : List Int} {p q : Nat} : trip xs p = trip xs q ↔ xs.getD p 0 = xs.getD q 0 ∧ xs.getD (p + 1) 0 = xs.getD (q + 1) 0 ∧ xs.getD (p + 2) 0 = xs.getD (q + 2) 0 := by
  simp [trip]
theorem plcOf_congr {xs : List Int} {n p q : Nat} (h : trip xs p = trip xs q) : plcOf xs n p = plcOf xs n q := by
  obtain ⟨h1, h2, h3⟩ := trip_eq.1 h
  unfold plcOf
  rw [h1, h2, h3]
theorem plcOf_here {xs : List Int} {n q : Nat} (hn : n + 3 ≤ xs.length) (h : trip xs n = trip xs q) : plcOf xs (n + 1) q = plcOf xs n q ++ [n] := by
  unfold plcOf
  rw [List.range_succ, List.filter_append]
  have hd : decide (n + 3 ≤ xs.length ∧ xs.getD n 0 = xs.getD q 0 ∧ xs.getD (n + 1) 0 = xs.getD (q + 1) 0 ∧ xs.getD (n + 2) 0 = xs.getD (q + 2) 0) = true := decide_eq_true ⟨hn, trip_eq.1 h⟩
  congr 1
  simp only [List.filter, hd]
theorem plcOf_other {xs : List Int} {n q : Nat} (h : ¬ (n + 3 ≤ xs.length) ∨ trip xs n ≠ trip xs q) : plcOf xs (n + 1) q = plcOf xs n q := by
  unfold plcOf
  rw [List.range_succ, List.filter_append]
  have : ¬ (n + 3 ≤ xs.length ∧ xs.getD n 0 = xs.getD q 0 ∧ xs.getD (n + 1) 0 = xs.getD (q + 1) 0 ∧ xs.getD (n + 2) 0 = xs.getD (q + 2) 0) := fun hh => by
    rcases h with h | h
    · exact h hh.1
    · exact h (trip_eq.2 hh.2)
  rw [List.filter_cons_of_neg (by simpa using this), List.filter_nil, List.append_nil]
theorem plcOf_none {xs : List Int} {n q : Nat} (h : ∀ p, p < n → p + 3 ≤ xs.length → trip xs p ≠ trip xs q) : plcOf xs n q = [] := by
  unfold plcOf
  rw [List.filter_eq_nil_iff]
  intro p hp hh
  simp only [decide_eq_true_eq] at hh
  exact h p (List.mem_range.1 hp) hh.1 (trip_eq.2 hh.2)
theorem plcOf_len (xs : List Int) (n q : Nat) : (plcOf xs n q).length ≤ n := by
  unfold plcOf
  have := List.length_filter_le (fun p => decide (p + 3 ≤ xs.length ∧ xs.getD p 0 = xs.getD q 0 ∧ xs.getD (p + 1) 0 = xs.getD (q + 1) 0 ∧ xs.getD (p + 2) 0 = xs.getD (q + 2) 0)) (List.range n)
  simpa using this
/-- places as numbers -/
def nums (l : List Nat) : List Int := l.map (fun p : Nat => (p : Int))

/-- block b tells, for each three numbers that begin ahead of place n, where; none of its rows lies where r does -/
def Plc (w : World) (b : Nat) (xs : List Int) (n : Nat) (r : Value) : Prop :=
  ∃ es clock, w.heap[b]? = some (.map es clock) ∧ MapKept.Stamped es clock ∧ es.size ≤ n ∧ (∀ x ∈ es.toList, ∃ q, x.key = trip xs q ∧ Own w (b + 1) x.val (nums (plcOf xs n q))) ∧
    (∀ q, q < n → q + 3 ≤ xs.length → ∃ x ∈ es.toList, x.key = trip xs q) ∧ (∀ x ∈ es.toList, ∀ y ∈ es.toList, x.key ≠ y.key → Apart x.val y.val) ∧ ∀ x ∈ es.toList, Apart x.val r
theorem grown_none {a b : World} (h : Below a.heap.size a b) : a.grownBy b none := ⟨h.os, h.tape, h.output, h.size, fun i hi _ => h.block i hi⟩
theorem Plc.made (w : World) (xs : List Int) (r : Value) : Plc (w.alloc (.map #[] 0)) w.heap.size xs 0 r := ⟨#[], 0, heap_alloc_new w _, MapKept.stamped_empty 0, by simp, by simp, by omega, by simp, by simp⟩
theorem Plc.lt {w : World} {b n : Nat} {xs : List Int} {r : Value} (h : Plc w b xs n r) : b < w.heap.size := by
  obtain ⟨es, clock, hb, _⟩ := h
  exact (Array.getElem?_eq_some_iff.1 hb).1
theorem Plc.grown {w w' : World} {b n : Nat} {xs : List Int} {r : Value} {row : Option Nat} (h : Plc w b xs n r) (hg : w.grownBy w' row) (hr : ∀ k, row = some k → k < b ∨ (r.ownBlock = some k ∧ k ≠ b)) : Plc w' b xs n r := by
  have hlt := h.lt
  obtain ⟨es, clock, hb, h1, h2, h3, h4, h5, h6⟩ := h
  refine ⟨es, clock, (hg.block b hlt fun e => ?_).trans hb, h1, h2, fun x hx => ?_, h4, h5, h6⟩
  · rcases hr b e.symm with h | ⟨_, h⟩
    · omega
    · exact h rfl
  · obtain ⟨q, e, ho⟩ := h3 x hx
    refine ⟨q, e, ho.grown hg ?_⟩
    cases ex : x.val.ownBlock with
    | none => exact .inl rfl
    | some k =>
      refine .inr fun e2 => ?_
      have hk := ho.lt k ex
      rcases hr k e2.symm with h | ⟨h, _⟩
      · omega
      · exact h6 x hx k h ex
theorem Plc.below {w w' : World} {b n : Nat} {xs : List Int} {r : Value} (h : Plc w b xs n r) (hb : Below w.heap.size w w') : Plc w' b xs n r := h.grown (row := none) (grown_none hb) (fun k e => by cases e)
/-- what is shunned may move to where nothing was -/
theorem Plc.move {w : World} {b n : Nat} {xs : List Int} {r r' : Value} (h : Plc w b xs n r) (hr : r'.ownBlock = r.ownBlock ∨ ∀ k, r'.ownBlock = some k → w.heap.size ≤ k) : Plc w b xs n r' := by
  obtain ⟨es, clock, hb, h1, h2, h3, h4, h5, h6⟩ := h
  refine ⟨es, clock, hb, h1, h2, h3, h4, h5, fun x hx k hk e => ?_⟩
  rcases hr with h | h
  · exact h6 x hx k (h ▸ hk) e
  · obtain ⟨q, _, ho⟩ := h3 x hx
    have := ho.lt2 k e
    have := h k hk
    omega
/-- 'm[k]' -/
theorem Plc.look {w : World} {b n : Nat} {xs : List Int} {r : Value} (h : Plc w b xs n r) (hf : Fits xs) (hn : n ≤ 100000) (q : Nat) :
    ∃ u, (Instr.lookup 37 (.map (some b)) (trip xs q) false).run Try.prog w = .ok u w ∧ Own w (b + 1) u (nums (plcOf xs n q)) := by
  obtain ⟨es, clock, hb, h1, h2, h3, h4, h5, _⟩ := h
  obtain ⟨kl, hkey⟩ := trip_key hf q
  have hks : ∀ x ∈ es.toList, ∃ l, keyOf Try.prog 48 x.key = some l := fun x hx => by
    obtain ⟨p, e, _⟩ := h3 x hx
    rw [e]
    exact trip_key hf p
  have F : Fit Try.prog 48 (fun _ => some ((.nil : DataW Unit), ([] : List MemPlace))) es clock := ⟨by unfold maxLen; omega, h1, fun x hx => by
    obtain ⟨l, hl⟩ := hks x hx
    exact ⟨(l, .nil), by simp [Go.WideElems.rd, hl]⟩⟩
  rcases Maps.fit_look false (Go.Maps.Keyed.of_law tri_law) Try.underlying37 (tri_zero w) hb F hkey with ⟨hrun, hno, _⟩ | ⟨e0, y, he0, hk, hrun, _⟩
  · refine ⟨.slice none 0 0, by simpa using hrun, ?_⟩
    rw [plcOf_none (fun p hp hp3 e => by
      obtain ⟨x, hx, hxk⟩ := h4 p hp hp3
      exact hno x hx (hxk.trans e))]
    exact own_nil w (b + 1)
  · refine ⟨e0.val, by simpa using hrun, ?_⟩
    obtain ⟨p, e, ho⟩ := h3 e0 he0
    rw [plcOf_congr (show trip xs q = trip xs p from (hk.symm.trans e))]
    exact ho
end Go.Proofs.Ytkdikdkeaomobaa
