/- A place is added to the map of places. -/
import Derived.Test.YtkdikdkeaomobaaM0
namespace Go.Proofs.Ytkdikdkeaomobaa
open Go.ChangeShapes Go.WideShapes Go.ChangeAt Go.RowKit Go.WideMaps Go.WideElems Go.ChangeMaps
set_option linter.unusedVariables false

theorem grown_setBlock {w : World} {b : Nat} {es : Array MapEntry} {clock : Nat} (hb : w.heap[b]? = some (.map es clock)) (o : Obj) : w.grownBy (setBlock w b o) (some b) :=
  ⟨rfl, rfl, rfl, by simp [setBlock], fun k hk hne => heap_setBlock_other hb o (fun e => hne (by rw [e]))⟩
theorem Own.byRow {w w' : World} {base b : Nat} {v : Value} {xs : List Int} (h : Own w base v xs) (hb : b < base) (hg : w.grownBy w' (some b)) : Own w' base v xs :=
  h.grown hg (by
    cases e : v.ownBlock with
    | none => exact .inl rfl
    | some k => refine .inr fun e2 => ?_; have := h.lt k e; simp only [Option.some.injEq] at e2; omega)

theorem Plc.put {w : World} {b n : Nat} {xs : List Int} {r : Value} (h : Plc w b xs n r) (hf : Fits xs) (hn : n + 3 ≤ xs.length) (hsz : n ≤ 100000) (hr : ∀ k, r.ownBlock = some k → k < w.heap.size) :
    ∃ (v0 : Value) (st : Nat) (w2 : World), (Instr.mapEntry 37 (.map (some b)) (trip xs n)).run Try.prog w = .ok (.tuple #[v0, .int .i64 (st : Int)]) w2 ∧ Own w2 (b + 1) v0 (nums (plcOf xs n n)) ∧ w.grownBy w2 (some b) ∧ w2.heap.size = w.heap.size ∧ Apart v0 r ∧
      ∀ (v' : Value) (w3 : World), Own w3 (b + 1) v' (nums (plcOf xs n n) ++ [(n : Int)]) → w2.grownBy w3 v0.ownBlock → (v'.ownBlock = v0.ownBlock ∨ v'.ownBlock = some w2.heap.size) →
        ∃ w4, (Instr.entryStore 37 (.map (some b)) (.int .i64 (st : Int)) v').run Try.prog w3 = .ok () w4 ∧ Plc w4 b xs (n + 1) r ∧ w3.grownBy w4 (some b) := by
  have hlt := h.lt
  obtain ⟨es, clock, hb, h1, h2, h3, h4, h5, h6⟩ := h
  obtain ⟨kl, hkey⟩ := trip_key hf n
  have hks : ∀ x ∈ es.toList, ∃ l, keyOf Try.prog 48 x.key = some l := fun x hx => by
    obtain ⟨p, e, _⟩ := h3 x hx
    rw [e]
    exact trip_key hf p
  obtain ⟨v0, st, es1, c1, run1, hv0, hst⟩ := entry_two hb h1 (by unfold maxLen; omega) hks hkey
  have g1 := grown_setBlock hb (.map es1 c1)
  have own0 : Own w (b + 1) v0 (nums (plcOf xs n n)) := by
    rcases hv0 with ⟨e0, he0, hk, rfl⟩ | ⟨hno, rfl⟩
    · obtain ⟨p, e, ho⟩ := h3 e0 he0
      rw [plcOf_congr (show trip xs n = trip xs p from hk.symm.trans e)]
      exact ho
    · rw [plcOf_none (fun p hp hp3 e => by
        obtain ⟨x, hx, hxk⟩ := h4 p hp hp3
        exact hno x hx (hxk.trans e))]
      exact own_nil w (b + 1)
  have ap0 : Apart v0 r := by
    rcases hv0 with ⟨e0, he0, hk, rfl⟩ | ⟨hno, rfl⟩
    · exact h6 e0 he0
    · exact fun k _ e => by simp [Value.ownBlock] at e
  have apo : ∀ x ∈ es.toList, x.key ≠ trip xs n → Apart x.val v0 := by
    intro x hx hne
    rcases hv0 with ⟨e0, he0, hk, rfl⟩ | ⟨hno, rfl⟩
    · exact h5 x hx e0 he0 (fun e => hne (e.trans hk))
    · exact fun k e _ => by simp [Value.ownBlock] at e
  refine ⟨v0, st, _, run1, own0.byRow (Nat.lt_succ_self b) g1, g1, by simp [setBlock], ap0, fun v' w3 own3 g3 hat => ?_⟩
  obtain ⟨es2, c2, s1, s2, s3, s4, s5, s6⟩ := hst v'
  have hb1 : (setBlock w b (.map es1 c1)).heap[b]? = some (.map es1 c1) := heap_setBlock_same hb _
  have hsz1 : (setBlock w b (.map es1 c1)).heap.size = w.heap.size := by simp [setBlock]
  have hb3 : w3.heap[b]? = some (.map es1 c1) := (g3.block b (by rw [hsz1]; exact hlt) (fun e => by have := own0.lt b e.symm; omega)).trans hb1
  have g4 := grown_setBlock hb3 (.map es2 c2)
  have old : ∀ x ∈ es.toList, x.key ≠ trip xs n → ∀ q, Own w (b + 1) x.val (nums (plcOf xs n q)) → Own (setBlock w3 b (.map es2 c2)) (b + 1) x.val (nums (plcOf xs n q)) := by
    intro x hx hne q ho
    refine ((ho.byRow (Nat.lt_succ_self b) g1).grown g3 ?_).byRow (Nat.lt_succ_self b) g4
    cases ex : x.val.ownBlock with
    | none => exact .inl rfl
    | some k => exact .inr fun e2 => apo x hx hne k e2.symm ex
  have apn : ∀ x ∈ es.toList, x.key ≠ trip xs n → Apart x.val v' := by
    intro x hx hne k hk e
    rcases hat with h | h
    · exact apo x hx hne k (h ▸ hk) e
    · obtain ⟨q, _, ho⟩ := h3 x hx
      have := ho.lt2 k e
      rw [h, hsz1] at hk
      simp only [Option.some.injEq] at hk
      omega
  refine ⟨_, s3 w3 hb3, ⟨es2, c2, heap_setBlock_same hb3 _, s1, by omega, ?_, ?_, ?_, ?_⟩, g4⟩
  · intro y hy
    rcases s4 y hy with ⟨hy0, hne⟩ | ⟨hk, rfl⟩
    · obtain ⟨q, e, ho⟩ := h3 y hy0
      exact ⟨q, e, by rw [plcOf_other (.inr fun e2 => hne (e.trans e2.symm))]; exact old y hy0 hne q ho⟩
    · refine ⟨n, hk, ?_⟩
      rw [plcOf_here hn rfl]
      have : nums (plcOf xs n n ++ [n]) = nums (plcOf xs n n) ++ [(n : Int)] := by simp [nums]
      rw [this]
      exact own3.byRow (Nat.lt_succ_self b) g4
  · intro q hq hq3
    by_cases e : trip xs q = trip xs n
    · obtain ⟨y, hy, hk⟩ := s6
      exact ⟨y, hy, hk.trans e.symm⟩
    · have hqn : q ≠ n := fun e2 => e (by rw [e2])
      obtain ⟨x, hx, hk⟩ := h4 q (by omega) hq3
      exact ⟨x, s5 x hx (fun e2 => e (hk.symm.trans e2)), hk⟩
  · intro x hx y hy hne
    rcases s4 x hx with ⟨hx0, hxk⟩ | ⟨hxk, hxv⟩
    · rcases s4 y hy with ⟨hy0, hyk⟩ | ⟨hyk, hyv⟩
      · exact h5 x hx0 y hy0 hne
      · rw [hyv]; exact apn x hx0 hxk
    · rcases s4 y hy with ⟨hy0, hyk⟩ | ⟨hyk, hyv⟩
      · rw [hxv]; exact (apn y hy0 hyk).comm
      · exact absurd (hxk.trans hyk.symm) hne
  · intro x hx
    rcases s4 x hx with ⟨hx0, hxk⟩ | ⟨hxk, hxv⟩
    · exact h6 x hx0
    · rw [hxv]
      intro k hk e
      rcases hat with h | h
      · exact ap0 k hk (h ▸ e)
      · rw [h, hsz1] at e
        simp only [Option.some.injEq] at e
        have := hr k hk
        omega
end Go.Proofs.Ytkdikdkeaomobaa
