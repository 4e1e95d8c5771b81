/- What is drawn stays as it is while its own blocks do. -/
import Derived.Test.YtlppnhkgadcgdaaR8
import Derived.Test.YtlppnhkgadcgdaaT12b
namespace Go.Proofs.Ytlppnhkgadcgdaa
open Go.ChangeShapes Go.WideShapes Go.ChangeAt Go.RowKit
set_option linter.unusedVariables false

/-- the blocks from lo up to hi are the same in both worlds -/
def SameIn (lo hi : Nat) (W W' : World) : Prop := ∀ k, lo ≤ k → k < hi → W'.heap[k]? = W.heap[k]?
theorem SameIn.trans {lo hi : Nat} {a b c : World} (h : SameIn lo hi a b) (k : SameIn lo hi b c) : SameIn lo hi a c := fun i h1 h2 => (k i h1 h2).trans (h i h1 h2)
theorem SameIn.below {lo hi : Nat} {W W' : World} (hb : Below W.heap.size W W') (hs : hi ≤ W.heap.size) : SameIn lo hi W W' := fun k _ h2 => hb.block k (by omega)
theorem SameIn.by {lo hi X : Nat} {W W' : World} (hg : W.grownBy W' (some X)) (hs : hi ≤ W.heap.size) (hX : X < lo ∨ hi ≤ X) : SameIn lo hi W W' := fun k h1 h2 => hg.block k (by omega) fun e => by simp only [Option.some.injEq] at e; omega
/-- rv is a slice of the records rs, and stays so while the blocks from lo up to hi stay -/
def RecsIn (W : World) (lo hi : Nat) (rv : Value) (rs : List Rec) : Prop := hi ≤ W.heap.size ∧ ∀ W', SameIn lo hi W W' → Recs W' rv rs
theorem RecsIn.recs {W : World} {lo hi : Nat} {rv : Value} {rs : List Rec} (h : RecsIn W lo hi rv rs) : Recs W rv rs := h.2 W fun _ _ _ => rfl
theorem RecsIn.keep {W W' : World} {lo hi : Nat} {rv : Value} {rs : List Rec} (h : RecsIn W lo hi rv rs) (hs : W.heap.size ≤ W'.heap.size) (hk : SameIn lo hi W W') : RecsIn W' lo hi rv rs :=
  ⟨Nat.le_trans h.1 hs, fun W2 h2 => h.2 W2 (hk.trans h2)⟩
theorem RecsIn.below {W W' : World} {lo hi : Nat} {rv : Value} {rs : List Rec} (h : RecsIn W lo hi rv rs) (hb : Below W.heap.size W W') : RecsIn W' lo hi rv rs := h.keep hb.size (SameIn.below hb h.1)
theorem RecsIn.by {W W' : World} {lo hi X : Nat} {rv : Value} {rs : List Rec} (h : RecsIn W lo hi rv rs) (hg : W.grownBy W' (some X)) (hX : X < lo ∨ hi ≤ X) : RecsIn W' lo hi rv rs := h.keep hg.size (SameIn.by hg h.1 hX)
theorem OwnP.within {w : World} {base : Nat} {v : Value} {rs : List Rec} (h : OwnP w base v rs) : RecsIn w base w.heap.size v rs := by
  refine ⟨Nat.le_refl _, fun W' hs => ?_⟩
  obtain ⟨kv, vv, h1, h2⟩ := h
  have h1' := h1
  obtain ⟨xs, hr, _⟩ := h1'
  rcases hr.2 with ⟨rfl, h0⟩ | ⟨g, cap, cur, rfl, hg, _, hl, hm, _⟩
  · exact ⟨none, 0, by rw [h0], by omega, by simp, fun h => by omega⟩
  · have hlt := (h1.lt g rfl).2
    refine ⟨_, cap, rfl, hl, hm, fun _ => ⟨g, 0, rfl, fun i hi => ⟨kv i, vv i, ?_⟩⟩⟩
    have c : ∀ k, k < 6 → w.cell? ⟨g, 0 + i * 6 + k, none⟩ = some (six (.int .i64 (recAt rs i).off) (.int .i64 (recAt rs i).time) (.bool (recAt rs i).hk) (kv i) (.bool (recAt rs i).hv) (vv i) k) := fun k hk => by
      rw [Nat.zero_add, h1.cell (i * 6 + k) (by omega), rowF_at _ _ _ _ _ hk]
    have r : RecC w g (0 + i * 6) (recAt rs i) (kv i) (vv i) := ⟨c 0 (by omega), c 1 (by omega), c 2 (by omega), c 3 (by omega), c 4 (by omega), c 5 (by omega), (h2 i hi).1.ints, (h2 i hi).2.ints⟩
    exact r.keep (hs g hg hlt) ((h2 i hi).1.ints.keep fun b hb hlb => hs b ((h2 i hi).1.lt b hb) hlb) ((h2 i hi).2.ints.keep fun b hb hlb => hs b ((h2 i hi).2.lt b hb) hlb)
/-- u is a slice of the producers ts, and stays so while the blocks from lo up to hi stay -/
def TsIn (W : World) (lo hi : Nat) (u : Value) (ts : List Trm) : Prop := hi ≤ W.heap.size ∧ ∀ W', SameIn lo hi W W' → Ts W' u ts
theorem TsIn.ts {W : World} {lo hi : Nat} {u : Value} {ts : List Trm} (h : TsIn W lo hi u ts) : Ts W u ts := h.2 W fun _ _ _ => rfl
theorem TsIn.keep {W W' : World} {lo hi : Nat} {u : Value} {ts : List Trm} (h : TsIn W lo hi u ts) (hs : W.heap.size ≤ W'.heap.size) (hk : SameIn lo hi W W') : TsIn W' lo hi u ts :=
  ⟨Nat.le_trans h.1 hs, fun W2 h2 => h.2 W2 (hk.trans h2)⟩
theorem TsIn.below {W W' : World} {lo hi : Nat} {u : Value} {ts : List Trm} (h : TsIn W lo hi u ts) (hb : Below W.heap.size W W') : TsIn W' lo hi u ts := h.keep hb.size (SameIn.below hb h.1)
theorem TsIn.by {W W' : World} {lo hi X : Nat} {u : Value} {ts : List Trm} (h : TsIn W lo hi u ts) (hg : W.grownBy W' (some X)) (hX : X < lo ∨ hi ≤ X) : TsIn W' lo hi u ts := h.keep hg.size (SameIn.by hg h.1 hX)
theorem OwnT.within {w : World} {base : Nat} {v : Value} {ts : List Trm} (h : OwnT w base v ts) : TsIn w base w.heap.size v ts :=
  ⟨Nat.le_refl _, fun W' hs => h.ts.keep fun _ b hb hlb => hs b (h.lt b hb).1 hlb⟩
end Go.Proofs.Ytlppnhkgadcgdaa
