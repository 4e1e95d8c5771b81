/- Chapter 32: the exact laws of terms. -/
import Derived.Test.YtmhgddlkhbkbaaaW32d
import Derived.Test.YtmhgddlkhbkbaaaW32b
import Derived.Deep.Fields
import Derived.Deep.Slices
import Derived.ChangeSame
import Derived.ChangeArms
import Derived.ChangeSlices
namespace Go.Proofs.Ytmhgddlkhbkbaaa
open Go.ChangeShapes Go.WideShapes Go.ChangeAt Go.RowKit
set_option linter.unusedVariables false

section
variable {H : Type} {enc : TypeId × Value → H} {P : Program} {w : World} {base : Nat} {spare : Nat → Bool} {held : Bool}
/-- a struct of one-cell fields, field by field, out of its cells -/
theorem fields_ofT {t : TypeId} {fs : Array Field} {cs : List Value} {fuel : Nat} {x : DataW H × List MemPlace} (hs : P.underlying t = some (.struct fs)) (hone : Go.Deep.oneCellFields P fs = true) (hC : P.cellsOf t = fs.size)
    (h : DataW.trod enc P w base spare held fuel t cs = some x) : cs.length = fs.size ∧ ∃ n, ∀ (j : Nat) (f : Field), fs[j]? = some f → ∃ c y, cs[j]? = some c ∧ DataW.trod enc P w base spare held n f.type [c] = some y := by
  obtain ⟨xs, n, _, _, hcl, hlen, hg⟩ := DataW.trod_struct hs h
  refine ⟨hcl.trans hC, n, fun j f hj => ?_⟩
  have hjl : j < fs.size := (Array.getElem?_eq_some_iff.1 hj).1
  have hjc : j < cs.length := by omega
  obtain ⟨o, k⟩ := Go.Deep.hone_of hone j f hj
  have h1 := hg j f hj
  rw [o, k, List.drop_eq_getElem_cons hjc] at h1
  exact ⟨cs[j], _, List.getElem?_eq_getElem hjc, h1.trans (List.getElem?_eq_getElem (show j < xs.length by omega))⟩
end
/-- the cells of a term that comes in -/
theorem term_cells {H : Type} {enc : TypeId × Value → H} {W : World} {held : Bool} {n : Nat} {cs : List Value} {y : DataW H × List MemPlace} (h : DataW.trod enc Try.prog W 0 (fun _ => true) held n 40 cs = some y) :
    ∃ t : Trm, cs = [.string t.name, .int .i64 t.next] := by
  obtain ⟨hlen, m, hf⟩ := fields_ofT Try.underlying40 (by kernel_rfl) (by kernel_rfl) h
  match cs, hlen with
  | [c0, c1], _ =>
    obtain ⟨_, y0, e0, h0⟩ := hf 0 _ rfl
    obtain ⟨_, y1, e1, h1⟩ := hf 1 _ rfl
    cases e0
    cases e1
    obtain ⟨n0, f0, _, r0⟩ := DataW.trod_string Try.underlying9 h0
    obtain ⟨n1, f1, _, r1⟩ := DataW.trod_int Try.underlying3 h1
    cases f0
    cases f1
    exact ⟨⟨n0, n1, r0⟩, rfl⟩
theorem cell_Ts {H : Type} {enc : TypeId × Value → H} {W : World} {held : Bool} {n : Nat} {c : Value} {y : DataW H × List MemPlace} (h : DataW.trod enc Try.prog W 0 (fun _ => true) held n 36 [c] = some y) : ∃ ts, Ts W c ts := by
  rcases Go.Deep.open_slice Try.underlying36 h with ⟨hcs, _⟩ | ⟨a, len, cap, m, k, D, Pl, hcs, _, hl, hm, hmm, _, hi⟩
  · simp only [List.cons.injEq, and_true] at hcs
    subst hcs
    exact ⟨[], ts_none W⟩
  · simp only [List.cons.injEq, and_true] at hcs
    subst hcs
    have hC : Try.prog.cellsOf 40 = 2 := by kernel_rfl
    rw [hC] at hi
    have hex : ∀ i, i < len → ∃ t : Trm, ∀ j v, [Value.string t.name, .int .i64 t.next][j]? = some v → W.cell? ((a.add (i * 2)).add j) = some v := fun i hil => by
      obtain ⟨cs', hc, ht'⟩ := hi i (by rw [hmm]; simp; omega)
      obtain ⟨_, hlen, hat⟩ := World.cells?_some hc
      obtain ⟨t, rfl⟩ := term_cells ht'
      refine ⟨t, fun j v hj => ?_⟩
      have hjl : j < 2 := by
        have := (List.getElem?_eq_some_iff.1 hj).1
        simpa using this
      rw [hat j hjl, hj]
    by_cases h0 : len = 0
    · subst h0
      exact ⟨[], ⟨some a, cap, rfl, by simp, hm, fun h => by simp at h⟩⟩
    · have : Inhabited Trm := ⟨Trm.zero⟩
      obtain ⟨f, hf⟩ := Go.Deep.choose_lt hex
      obtain ⟨b, off, spot⟩ := a
      have hs : spot = none := by
        have := hf 0 (by omega) 0 _ rfl
        simpa [Addr.add] using World.cell?_spot this
      subst hs
      refine ⟨(List.range len).map f, ⟨_, cap, by simp, by simpa using hl, hm, fun _ => ⟨b, off, rfl, fun i hil => ?_⟩⟩⟩
      have hil' : i < len := by simpa using hil
      have er : tAt ((List.range len).map f) i = f i := by
        rw [tAt_in hil]
        simp
      rw [er]
      have q : ∀ j v, [Value.string (f i).name, .int .i64 (f i).next][j]? = some v → W.cell? ⟨b, off + i * 2 + j, none⟩ = some v := fun j v h => by
        have := hf i hil' j v h
        rw [Addr.add_lit, Addr.add_lit] at this
        exact this
      exact ⟨q 0 _ rfl, q 1 _ rfl⟩
theorem in_SGroup {H : Type} {enc : TypeId × Value → H} {W : World} {held : Bool} {r : Reach} {b0 : Nat} {v : Value} {d : DataW H} {p : List MemPlace}
    (hv : Value.okWide Try.prog W r b0 36 v) (h : DataW.Trod enc Try.prog W 0 (fun _ => true) held 36 v d p) : ∃ z, Ts W v z := by
  obtain ⟨a, len, cap, rfl⟩ := okWide_slice Try.underlying36 hv
  obtain ⟨fuel, hfu⟩ := h
  exact cell_Ts hfu
theorem in_Group {H : Type} {enc : TypeId × Value → H} {W : World} {held : Bool} {r : Reach} {b0 : Nat} {v : Value} {d : DataW H} {p : List MemPlace}
    (hv : Value.okWide Try.prog W r b0 40 v) (h : DataW.Trod enc Try.prog W 0 (fun _ => true) held 40 v d p) : ∃ t : Trm, v = .agg #[.string t.name, .int .i64 t.next] := by
  obtain ⟨cs, rfl, hsz⟩ := okWide_struct Try.underlying40 hv
  obtain ⟨fuel, hfu⟩ := h
  obtain ⟨cs⟩ := cs
  have hfu' : DataW.trod enc Try.prog W 0 (fun _ => true) held fuel 40 cs = some (d, p) := hfu
  obtain ⟨t, rfl⟩ := term_cells hfu'
  exact ⟨t, rfl⟩
theorem below_row {w w' x : World} {base : Nat} {v : Value} {ts : List Trm} (h : Below w.heap.size w w') (own : OwnT w' base v ts) (hb : w.heap.size ≤ base) (hg : w'.grownBy x v.ownBlock) : Below w.heap.size w x :=
  h.grown hg h.size fun k hk => Nat.le_trans hb (own.lt k hk).1
theorem apart_row {w1 w2 : World} {b1 b2 : Nat} {v u : Value} {ts ss : List Trm} (h : OwnT w1 b1 v ts) (g : OwnT w2 b2 u ss) (hb : w1.heap.size ≤ b2) : v.ownBlock = none ∨ v.ownBlock ≠ u.ownBlock := by
  cases e : v.ownBlock with
  | none => exact .inl rfl
  | some q => exact .inr fun e2 => by have h1 := (h.lt q e).2; have h2 := (g.lt q e2.symm).1; omega
theorem apart_row' {w1 w2 : World} {b1 b2 : Nat} {v u : Value} {ts ss : List Trm} (h : OwnT w1 b1 v ts) (g : OwnT w2 b2 u ss) (hb : w1.heap.size ≤ b2) : u.ownBlock = none ∨ u.ownBlock ≠ v.ownBlock := by
  cases e : u.ownBlock with
  | none => exact .inl rfl
  | some q => exact .inr fun e2 => by have h1 := (h.lt q e2.symm).2; have h2 := (g.lt q e).1; omega
theorem law_FnExactGroupsValid (w : World) (v : Value) (ts : List Trm) (h : Ts w v ts) : Calls Try.prog 8 #[v] w (Yes w) := by
  have hv := h
  obtain ⟨a, cap, rfl, hl, hm, hc⟩ := h
  unfold maxLen at hm
  clear hc
  have C0 := Lib.hid (laws_szGroupS (.slice a ts.length cap) ts 1048576 w hv (by omega) (by omega))
  unfold SzRes at C0
  have hin := szT_in ts 1048576 (by omega)
  have hlong : 0 ≤ szT ts 1048576 → ts.length ≤ 1048576 := fun h => by
    unfold szT at h
    split at h
    · omega
    · omega
  obtain ⟨sz, hsz⟩ : ∃ sz, szT ts 1048576 = sz := ⟨_, rfl⟩
  rw [hsz] at C0 hin hlong
  clear hsz
  by_cases hlen : sz < 0
  · have d0 : decide (sz < 0) = true := decide_eq_true hlen
    go_enter Try.func8, Try.ntmps8
    go_wp2_with fail
    refine C0.out.mono ?_
    rintro e w1 ⟨rfl, b1⟩
    go_wp2_with fail
    go_ret
    exact ⟨rfl, b1⟩
  · have d0 : decide (sz < 0) = false := decide_eq_false hlen
    have hl2 := hlong (by omega)
    have C3 : Hid (∀ W, Below w.heap.size w W → Calls Try.prog 22 #[.slice a ts.length cap] W (CopyT W ts)) := Lib.hid fun W hW => laws_toGroupS _ ts W (hv.below hW) (by omega)
    have C1 : Hid (∀ W u, Ts W u ts → Calls Try.prog 19 #[u] W (Same W (tsOk ts))) := Lib.hid fun W u hu => spec_GroupsValid u ts W hu
    have C2 : Hid (∀ W u, Ts W u ts → Calls Try.prog 15 #[u] W (Same W (tsOk ts))) := Lib.hid fun W u hu => impl_GroupsValid u ts W hu
    have C6 : Hid (∀ W u v, Ts W u ts → Ts W v ts → Calls Try.prog 23 #[u, v] W (Same W true)) := Lib.hid fun W u v hu hv => laws_eqGroupS u v ts W hu hv
    obtain ⟨b, hb⟩ : ∃ b, tsOk ts = b := ⟨_, rfl⟩
    rw [hb] at C1 C2
    have hbb : (b != b) = false := by simp
    clear hb hlong
    cases b
    all_goals
      go_enter Try.func8, Try.ntmps8
      go_wp2_with fail
      refine C0.out.mono ?_
      rintro e w0 ⟨rfl, b0⟩
      go_wp2_with fail
      refine (C3.out w0 b0).mono ?_
      rintro e w1 ⟨v1, rfl, own1, b1⟩
      have B1 := Bstep b0 b1
      go_wp2_with fail
      refine (C1.out w1 v1 own1.ts).mono ?_
      rintro e w2 ⟨rfl, b2⟩
      have B2 := Bstep B1 b2
      go_wp2_with fail
      refine (C3.out w2 B2).mono ?_
      rintro e w3 ⟨v3, rfl, own3, b3⟩
      have B3 := Bstep B2 b3
      go_wp2_with fail
      refine (C2.out w3 v3 own3.ts).mono ?_
      rintro e w4 ⟨rfl, b4⟩
      have B4 := Bstep B3 b4
      have own34 := own3.below b4
      go_wp2_with fail
      refine (C3.out w4 B4).mono ?_
      rintro e w5 ⟨v5, rfl, own5, b5⟩
      have B5 := Bstep B4 b5
      go_wp2_with fail
      refine (C6.out w5 v3 v5 (own34.ts.below b5) own5.ts).mono ?_
      rintro e w6 ⟨rfl, b6⟩
      go_wp2_with fail
      go_ret
      exact ⟨rfl, Bstep B5 b6⟩
theorem law_FnExactGroupsLeast (w : World) (v : Value) (ts : List Trm) (h : Ts w v ts) : Calls Try.prog 10 #[v] w (Yes w) := by
  have hv := h
  obtain ⟨a, cap, rfl, hl, hm, hc⟩ := h
  unfold maxLen at hm
  clear hc
  have C0 := Lib.hid (laws_szGroupS (.slice a ts.length cap) ts 1048576 w hv (by omega) (by omega))
  unfold SzRes at C0
  have hin := szT_in ts 1048576 (by omega)
  have hlong : 0 ≤ szT ts 1048576 → ts.length ≤ 1048576 := fun h => by
    unfold szT at h
    split at h
    · omega
    · omega
  obtain ⟨sz, hsz⟩ : ∃ sz, szT ts 1048576 = sz := ⟨_, rfl⟩
  rw [hsz] at C0 hin hlong
  clear hsz
  by_cases hlen : sz < 0
  · have d0 : decide (sz < 0) = true := decide_eq_true hlen
    go_enter Try.func10, Try.ntmps10
    go_wp2_with fail
    refine C0.out.mono ?_
    rintro e w1 ⟨rfl, b1⟩
    go_wp2_with fail
    go_ret
    exact ⟨rfl, b1⟩
  · have d0 : decide (sz < 0) = false := decide_eq_false hlen
    have hl2 := hlong (by omega)
    have C3 : Hid (∀ W, Below w.heap.size w W → Calls Try.prog 22 #[.slice a ts.length cap] W (CopyT W ts)) := Lib.hid fun W hW => laws_toGroupS _ ts W (hv.below hW) (by omega)
    have C1 : Hid (∀ W u, Ts W u ts → Calls Try.prog 18 #[u] W (SameI W (leastI ts))) := Lib.hid fun W u hu => spec_GroupsLeast u ts W hu
    have C2 : Hid (∀ W u, Ts W u ts → Calls Try.prog 17 #[u] W (SameI W (leastI ts))) := Lib.hid fun W u hu => impl_GroupsLeast u ts W hu
    have C6 : Hid (∀ W u v, Ts W u ts → Ts W v ts → Calls Try.prog 23 #[u, v] W (Same W true)) := Lib.hid fun W u v hu hv => laws_eqGroupS u v ts W hu hv
    obtain ⟨b, hb⟩ : ∃ b, leastI ts = b := ⟨_, rfl⟩
    rw [hb] at C1 C2
    have hbb : (b != b) = false := by simp
    clear hb hlong
    all_goals
      go_enter Try.func10, Try.ntmps10
      go_wp2_with fail
      refine C0.out.mono ?_
      rintro e w0 ⟨rfl, b0⟩
      go_wp2_with fail
      refine (C3.out w0 b0).mono ?_
      rintro e w1 ⟨v1, rfl, own1, b1⟩
      have B1 := Bstep b0 b1
      go_wp2_with fail
      refine (C1.out w1 v1 own1.ts).mono ?_
      rintro e w2 ⟨rfl, b2⟩
      have B2 := Bstep B1 b2
      go_wp2_with fail
      refine (C3.out w2 B2).mono ?_
      rintro e w3 ⟨v3, rfl, own3, b3⟩
      have B3 := Bstep B2 b3
      go_wp2_with fail
      refine (C2.out w3 v3 own3.ts).mono ?_
      rintro e w4 ⟨rfl, b4⟩
      have B4 := Bstep B3 b4
      have own34 := own3.below b4
      go_wp2_with fail
      refine (C3.out w4 B4).mono ?_
      rintro e w5 ⟨v5, rfl, own5, b5⟩
      have B5 := Bstep B4 b5
      go_wp2_with fail
      refine (C6.out w5 v3 v5 (own34.ts.below b5) own5.ts).mono ?_
      rintro e w6 ⟨rfl, b6⟩
      go_wp2_with fail
      go_ret
      exact ⟨rfl, Bstep B5 b6⟩
end Go.Proofs.Ytmhgddlkhbkbaaa
