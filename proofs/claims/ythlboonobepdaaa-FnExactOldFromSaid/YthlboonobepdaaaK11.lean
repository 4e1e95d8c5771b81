/- Chapter 11: the exact law of a message's test. -/
import Derived.Test.YthlboonobepdaaaWX11
import Derived.Test.YthlboonobepdaaaL11
import Derived.Deep.Fields
import Derived.Deep.QuietTactic
import Derived.Deep.RegionHeld3
import Derived.ChangeSame
import Derived.ChangeArms
import Derived.ChangeSlices
namespace Go.Proofs.Ythlboonobepdaaa
open Go.ChangeShapes Go.WideShapes Go.ChangeAt Go.RowKit
set_option linter.unusedVariables false

/-- a message as it comes in -/
def MesIn (w : World) (v : Value) (m : Mes) : Prop := MesV w v m ∧ I64 m.off ∧ I64 m.time ∧ (∀ i, I64 (m.key.getD i 0)) ∧ ∀ i, I64 (m.val.getD i 0)
section
variable {H : Type} {enc : TypeId × Value → H} {P : Program} {w : World} {base : Nat} {spare : Nat → Bool} {held : Bool}
/-- a struct of one-cell fields that comes in by value, field by field -/
theorem in_fields {r : Reach} {b0 : Nat} {t : TypeId} {fs : Array Field} {v : Value} {d : DataW H} {p : List MemPlace} (hs : P.underlying t = some (.struct fs)) (hone : Go.Deep.oneCellFields P fs = true) (hC : P.cellsOf t = fs.size)
    (hv : Value.okWide P w r b0 t v) (h : DataW.Trod enc P w base spare held t v d p) :
    ∃ (cs : Array Value) (n : Nat), v = .agg cs ∧ cs.size = fs.size ∧ ∀ (j : Nat) (f : Field), fs[j]? = some f → ∃ c y, cs[j]? = some c ∧ DataW.trod enc P w base spare held n f.type [c] = some y := by
  obtain ⟨cs, rfl, hsz⟩ := okWide_struct hs hv
  obtain ⟨fuel, hf⟩ := h
  obtain ⟨xs, n, _, _, _, hlen, hg⟩ := DataW.trod_struct hs hf
  refine ⟨cs, n, rfl, hsz.trans hC, fun j f hj => ?_⟩
  have hjl : j < fs.size := (Array.getElem?_eq_some_iff.1 hj).1
  have hjc : j < cs.size := by omega
  obtain ⟨o, k⟩ := Go.Deep.hone_of hone j f hj
  have h1 := hg j f hj
  rw [o, k] at h1
  have e : ((Value.agg cs).cells.toList.drop j).take 1 = [cs[j]] := by
    simp only [Value.cells]
    rw [List.drop_eq_getElem_cons (by simpa using hjc)]
    simp
  rw [e] at h1
  exact ⟨cs[j], _, Array.getElem?_eq_getElem hjc, h1.trans (List.getElem?_eq_getElem (show j < xs.length by omega))⟩
end
theorem in_Ints {H : Type} {enc : TypeId × Value → H} {W : World} {held : Bool} {n : Nat} {c : Value} {y : DataW H × List MemPlace} (hf : DataW.trod enc Try.prog W 0 (fun _ => true) held n 23 [c] = some y) : ∃ zs, IntsIn W c zs := by
  rcases open_ints Try.underlying23 Try.underlying3 (by kernel_rfl) hf with ⟨hcs, _⟩ | ⟨x, l, cp, zs, hcs, _, hl, hm, hz, _, hcell, hwz⟩
  · simp only [List.cons.injEq, and_true] at hcs
    subst hcs
    exact ⟨[], IntsIn.none W⟩
  · simp only [List.cons.injEq, and_true] at hcs
    subst hcs
    exact ⟨zs.take l, IntsIn.of hl hm (by simpa using hz) hcell hwz⟩
theorem in_Old {H : Type} {enc : TypeId × Value → H} {W : World} {held : Bool} {r : Reach} {b0 : Nat} {v : Value} {d : DataW H} {p : List MemPlace}
    (hv : Value.okWide Try.prog W r b0 37 v) (h : DataW.Trod enc Try.prog W 0 (fun _ => true) held 37 v d p) : ∃ z, MesIn W v z := by
  obtain ⟨⟨cs⟩, n, rfl, hsz, hf⟩ := in_fields Try.underlying37 (by kernel_rfl) (by kernel_rfl) hv h
  match cs, hsz with
  | [c0, c1, c2, c3, c4, c5, c6], _ =>
    obtain ⟨_, y0, e0, h0⟩ := hf 0 _ rfl
    obtain ⟨_, y1, e1, h1⟩ := hf 1 _ rfl
    obtain ⟨_, y2, e2, h2⟩ := hf 2 _ rfl
    obtain ⟨_, y3, e3, h3⟩ := hf 3 _ rfl
    obtain ⟨_, y4, e4, h4⟩ := hf 4 _ rfl
    obtain ⟨_, y5, e5, h5⟩ := hf 5 _ rfl
    obtain ⟨_, y6, e6, h6⟩ := hf 6 _ rfl
    cases e0
    cases e1
    cases e2
    cases e3
    cases e4
    cases e5
    cases e6
    obtain ⟨n0, f0, _, r0⟩ := DataW.trod_int Try.underlying3 h0
    obtain ⟨n1, f1, _⟩ := DataW.trod_bool Try.underlying4 h1
    obtain ⟨n2, f2, _, r2⟩ := DataW.trod_int Try.underlying3 h2
    obtain ⟨z3, i3⟩ := in_Ints h3
    obtain ⟨z4, i4⟩ := in_Ints h4
    obtain ⟨n5, f5, _⟩ := DataW.trod_bool Try.underlying4 h5
    obtain ⟨n6, f6, _⟩ := DataW.trod_bool Try.underlying4 h6
    cases f0
    cases f1
    cases f2
    cases f5
    cases f6
    exact ⟨⟨n0, n1, n2, z3, z4, n5, n6⟩, ⟨_, _, rfl, i3.1, i4.1⟩, i64_range r0, i64_range r2, i3.2, i4.2⟩
/-- the cells of two boxes of messages, as the last comparison reads them -/
def TwoOlds (W : World) (A X : Nat) (off timed time kv vv hk miss k2 v2 : Value) : Prop :=
  W.cell? ⟨A, 0, none⟩ = some off ∧ W.cell? ⟨A, 1, none⟩ = some timed ∧ W.cell? ⟨A, 2, none⟩ = some time ∧ W.cell? ⟨A, 3, none⟩ = some kv ∧ W.cell? ⟨A, 4, none⟩ = some vv ∧ W.cell? ⟨A, 5, none⟩ = some hk ∧ W.cell? ⟨A, 6, none⟩ = some miss ∧ W.cell? ⟨X, 0, none⟩ = some off ∧ W.cell? ⟨X, 1, none⟩ = some timed ∧ W.cell? ⟨X, 2, none⟩ = some time ∧ W.cell? ⟨X, 3, none⟩ = some k2 ∧ W.cell? ⟨X, 4, none⟩ = some v2 ∧ W.cell? ⟨X, 5, none⟩ = some hk ∧ W.cell? ⟨X, 6, none⟩ = some miss
theorem two_olds {W : World} {A X : Nat} {off timed time kv vv hk miss k2 v2 : Value} (h : Blk W A #[off, timed, time, kv, vv, hk, miss]) (g : Blk W X #[off, timed, time, k2, v2, hk, miss]) : TwoOlds W A X off timed time kv vv hk miss k2 v2 :=
  ⟨h.cell 0, h.cell 1, h.cell 2, h.cell 3, h.cell 4, h.cell 5, h.cell 6, g.cell 0, g.cell 1, g.cell 2, g.cell 3, g.cell 4, g.cell 5, g.cell 6⟩
set_option maxHeartbeats 2000000 in
theorem law_FnExactOldValid (w : World) (v : Value) (m : Mes) (h : MesIn w v m) : Calls Try.prog 9 #[v] w (Yes w) := by
  have hv := h.1
  obtain ⟨off, timed, time, key, val, hk, miss⟩ := m
  obtain ⟨kv, vv, rfl, ik, iv⟩ := h.1
  simp only at ik iv
  clear ik iv h
  have bw := alloc_below' w (.cells #[.int .i64 off, .bool timed, .int .i64 time, kv, vv, .bool hk, .bool miss] 37)
  have xA := Blk.made w #[.int .i64 off, .bool timed, .int .i64 time, kv, vv, .bool hk, .bool miss] 37
  go_enter Try.func9, Try.ntmps9
  go_wp2_with fail
  generalize hwb : w.alloc (.cells #[.int .i64 off, .bool timed, .int .i64 time, kv, vv, .bool hk, .bool miss] 37) = wb at bw xA ⊢
  clear hwb
  have hAl : w.heap.size < wb.heap.size := xA.lt
  obtain ⟨A, hA⟩ : ∃ A, w.heap.size = A := ⟨_, rfl⟩
  rw [hA] at xA hAl ⊢
  refine (laws_szOld _ ⟨off, timed, time, key, val, hk, miss⟩ 1048576 wb (hv.below bw) (by omega) (by omega)).mono ?_
  rintro e w1 ⟨⟨n, rfl, hn⟩, b1⟩
  have B1 := Bstep bw b1
  have x1 := xA.belowS b1
  have HA := Lib.hid hA
  clear xA hA
  rcases hn with ⟨rfl, hn⟩ | ⟨n0, hn⟩
  · go_wp2_with fail
    go_ret
    exact ⟨rfl, B1⟩
  · have d0 : decide (n < 0) = false := decide_eq_false (by omega)
    simp only at hn
    have l1 : key.length ≤ 1048576 := by omega
    have l2 : val.length ≤ 1048576 := by omega
    have C3 : Hid (∀ wn, Below w.heap.size w wn → Calls Try.prog 24 #[.agg #[.int .i64 off, .bool timed, .int .i64 time, kv, vv, .bool hk, .bool miss]] wn (MesCopy wn ⟨off, timed, time, key, val, hk, miss⟩)) := fun wn hw => laws_toOld _ _ wn (hv.below hw) (by simp only; omega) (by simp only; omega)
    have C1 : Hid (∀ wn u, MesV wn u ⟨off, timed, time, key, val, hk, miss⟩ → Calls Try.prog 22 #[u] wn (Same wn (mOk ⟨off, timed, time, key, val, hk, miss⟩))) := fun wn u hu => spec_OldValid u _ wn hu (by simp only; omega) (by simp only; omega)
    have C2 : Hid (∀ wn u, MesV wn u ⟨off, timed, time, key, val, hk, miss⟩ → Calls Try.prog 20 #[u] wn (Same wn (mOk ⟨off, timed, time, key, val, hk, miss⟩))) := fun wn u hu => impl_OldValid u _ wn hu (by simp only; omega) (by simp only; omega)
    have C4 : Hid (∀ wn u v, MesV wn u ⟨off, timed, time, key, val, hk, miss⟩ → MesV wn v ⟨off, timed, time, key, val, hk, miss⟩ → Calls Try.prog 25 #[u, v] wn (Same wn true)) := fun wn u v hu hv => laws_eqOld u v _ wn hu hv
    obtain ⟨b, hb⟩ : ∃ b, mOk ⟨off, timed, time, key, val, hk, miss⟩ = b := ⟨_, rfl⟩
    rw [hb] at C1 C2
    have hbb : (b != b) = false := by simp
    clear hb hn bw b1 hAl
    obtain ⟨c0, c1, c2, c3, c4, c5, c6⟩ := x1.seven?
    go_wp2_with fail
    refine (C3.out w1 B1).mono ?_
    rintro e w2 ⟨v2, rfl, own2, b2⟩
    have B2 := Bstep B1 b2
    have x2 := x1.belowS b2
    clear c0 c1 c2 c3 c4 c5 c6
    go_wp2_with fail
    refine (C1.out w2 v2 own2.mesV).mono ?_
    rintro e w3 ⟨rfl, b3⟩
    have B3 := Bstep B2 b3
    have x3 := x2.belowS b3
    clear x1 x2 own2 b2 b3 B2 B1
    obtain ⟨c0, c1, c2, c3, c4, c5, c6⟩ := x3.seven?
    go_wp2_with fail
    refine (C3.out w3 B3).mono ?_
    rintro e w4 ⟨v4, rfl, own4, b4⟩
    have B4 := Bstep B3 b4
    have x4 := x3.belowS b4
    obtain ⟨k4, u4, rfl, o4, p4, ap4⟩ := own4
    simp only at o4 p4
    obtain ⟨a5, cap5, rfl, _, _, _⟩ := o4.ints
    obtain ⟨a7, cap7, rfl, _, _, _⟩ := p4.ints
    clear c0 c1 c2 c3 c4 c5 c6 x3 B3
    have bx := alloc_below' w4 (.cells #[.int .i64 off, .bool timed, .int .i64 time, .slice a5 key.length cap5, .slice a7 val.length cap7, .bool hk, .bool miss] 25)
    have xx := Blk.made w4 #[.int .i64 off, .bool timed, .int .i64 time, .slice a5 key.length cap5, .slice a7 val.length cap7, .bool hk, .bool miss] 25
    go_wp2_with fail
    generalize hw5 : w4.alloc (.cells #[.int .i64 off, .bool timed, .int .i64 time, .slice a5 key.length cap5, .slice a7 val.length cap7, .bool hk, .bool miss] 25) = w5 at bx xx ⊢
    obtain ⟨X, hX⟩ : ∃ X, w4.heap.size = X := ⟨_, rfl⟩
    have x5 := x4.belowS bx
    have B5 := Bstep B4 bx
    have o5 := o4.below bx
    have p5 := p4.below bx
    rw [hX] at xx ⊢
    clear hw5 x4 B4 bx o4 p4 hX
    refine (C2.out w5 _ ⟨_, _, rfl, o5.ints, p5.ints⟩).mono ?_
    rintro e w6 ⟨rfl, b6⟩
    have B6 := Bstep B5 b6
    have x6 := x5.belowS b6
    have xx6 := xx.belowS b6
    have o6 := o5.below b6
    have p6 := p5.below b6
    clear x5 B5 b6 xx o5 p5
    have HS : Hid (∀ W, Below w6.heap.size w6 W → TwoOlds W A X (.int .i64 off) (.bool timed) (.int .i64 time) kv vv (.bool hk) (.bool miss) (.slice a5 key.length cap5) (.slice a7 val.length cap7)) := Lib.hid fun W hW => two_olds (x6.belowS hW) (xx6.belowS hW)
    have bdr : Below w6.heap.size w6 w6.drew := below_drewN (Below.refl _ _) 1
    have S6 := HS.out w6.drew bdr
    have D3 := Lib.hid (C3.out w6.drew (Bstep B6 bdr))
    have D4 : Hid (∀ W u, Below w6.heap.size w6 W → MesV W u ⟨off, timed, time, key, val, hk, miss⟩ → Calls Try.prog 25 #[.agg #[.int .i64 off, .bool timed, .int .i64 time, .slice a5 key.length cap5, .slice a7 val.length cap7, .bool hk, .bool miss], u] W (Same W true)) := Lib.hid fun W u hW hu => C4.out W _ u ⟨_, _, rfl, (o6.below hW).ints, (p6.below hW).ints⟩ hu
    cases b
    all_goals
      go_wp2_with fail
      unfold TwoOlds at S6
      go_region_held3 (fun W => W.cell? ⟨A, 0, none⟩ = some (.int .i64 off) ∧ W.cell? ⟨A, 1, none⟩ = some (.bool timed) ∧ W.cell? ⟨A, 2, none⟩ = some (.int .i64 time) ∧ W.cell? ⟨A, 3, none⟩ = some kv ∧ W.cell? ⟨A, 4, none⟩ = some vv ∧ W.cell? ⟨A, 5, none⟩ = some (.bool hk) ∧ W.cell? ⟨A, 6, none⟩ = some (.bool miss) ∧ W.cell? ⟨X, 0, none⟩ = some (.int .i64 off) ∧ W.cell? ⟨X, 1, none⟩ = some (.bool timed) ∧ W.cell? ⟨X, 2, none⟩ = some (.int .i64 time) ∧ W.cell? ⟨X, 3, none⟩ = some (.slice a5 key.length cap5) ∧ W.cell? ⟨X, 4, none⟩ = some (.slice a7 val.length cap7) ∧ W.cell? ⟨X, 5, none⟩ = some (.bool hk) ∧ W.cell? ⟨X, 6, none⟩ = some (.bool miss)) (first | with_reducible exact S6 | exact HS.out _ (Bstep bdr b7) | exact HS.out _ (Bstep (Bstep bdr b7) b8) | go_keep)
        (first
          | (go_at_call 24; ((with_reducible refine D3.out.mono ?_); rintro e w7 ⟨v7, rfl, own7, b7⟩))
          | (go_at_call 25; ((with_reducible refine (D4.out _ _ (Bstep bdr b7) own7.mesV).mono ?_); rintro e w8 ⟨rfl, b8⟩)))
      go_wp2_with fail
      go_ret
      exact ⟨rfl, B6.trans ((Bstep (Bstep bdr b7) b8).mono B6.size)⟩
end Go.Proofs.Ythlboonobepdaaa
