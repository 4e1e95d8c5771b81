/- Chapter 5: batches are drawn. -/
import Derived.Test.YtlppnhkgadcgdaaD5
import Derived.Test.YtlppnhkgadcgdaaR8
import Derived.Deep.Cut
import Derived.Test.YtlppnhkgadcgdaaG0
import Derived.Deep.RegionLaw
namespace Go.Proofs.Ytlppnhkgadcgdaa
open Go.ChangeShapes Go.WideShapes Go.ChangeAt Go.RowKit
set_option linter.unusedVariables false

/-- a batch that was drawn -/
def BatDrawn (w : World) (B c : Nat) (e : Ending) (w' : World) : Prop :=
  ∃ (b : Bat) (v : Value), e = .returned v ∧ (BatV w' v b ∧ ∀ (W' : World) (X0 : Nat), X0 < w.heap.size → w'.grownBy W' (some X0) → BatV W' v b) ∧ b.recs.length ≤ 8 ∧ Rd w' B (c + 700) ∧ w.grownBy w' (some B)
/-- the same, with all its blocks of the draw's own -/
def BatDrawnP (w : World) (B c : Nat) (e : Ending) (w' : World) : Prop :=
  ∃ (b : Bat) (rv : Value), e = .returned (.agg #[.bool b.packed, .bool b.mark, .int .i64 b.prod, .int .i64 b.epoch, .int .i64 b.seq, rv]) ∧ OwnP w' w.heap.size rv b.recs ∧ (1 ≤ b.recs.length ∧ b.recs.length ≤ 8) ∧ Rd w' B (c + 700) ∧ w.grownBy w' (some B)
theorem BatDrawnP.drawn {w w' : World} {B c : Nat} {e : Ending} (h : BatDrawnP w B c e w') : BatDrawn w B c e w' := by
  obtain ⟨b, rv, rfl, h1, h2, h3, h4⟩ := h
  exact ⟨b, _, rfl, ⟨⟨_, rfl, h1.recs⟩, fun W' X0 hX0 gX0 => ⟨_, rfl, (h1.by hX0 gX0).recs⟩⟩, h2.2, h3, h4⟩
/-- the state of a draw: the box of the batch, the box of the result, the reader -/
def BatSt (w wr : World) (Z X B c : Nat) (b : Bat) (rv : Value) : Prop :=
  Blk wr X #[.bool b.packed, .bool b.mark, .int .i64 b.prod, .int .i64 b.epoch, .int .i64 b.seq, rv] ∧ Blk wr Z #[.bool false, .bool false, .int .i64 0, .int .i64 0, .int .i64 0, .slice none 0 0] ∧ OwnX wr (Z + 1) X rv b.recs ∧ b.recs.length ≤ 7 ∧ 1 ≤ b.recs.length ∧ Rd wr B c ∧ w.grownBy wr (some B)
theorem BatSt.pick {w wr w' : World} {Z X B c d : Nat} {b : Bat} {rv : Value} (h : BatSt w wr Z X B c b rv) (hB : B < Z) (hBX : B < X) (hR : Rd w' B d) (hg : wr.grownBy w' (some B)) : BatSt w w' Z X B d b rv := by
  obtain ⟨h1, h2, h3, h4, h5, h6, h7⟩ := h
  exact ⟨h1.by (by omega) hg, h2.by (by omega) hg, h3.by (by omega) hg, h4, h5, hR, grown_trans h7 hg⟩
theorem BatSt.set {w wr w' : World} {Z X B c : Nat} {b b' : Bat} {rv : Value} (h : BatSt w wr Z X B c b rv) (hB : B < X) (hZ : Z < X) (hwX : w.heap.size ≤ X) (hr : b'.recs = b.recs) (hx : Blk w' X #[.bool b'.packed, .bool b'.mark, .int .i64 b'.prod, .int .i64 b'.epoch, .int .i64 b'.seq, rv]) (hg : wr.grownBy w' (some X)) : BatSt w w' Z X B c b' rv := by
  obtain ⟨h1, h2, h3, h4, h5, h6, h7⟩ := h
  exact ⟨hx, h2.by (by omega) hg, by rw [hr]; exact h3.set hg, by rw [hr]; exact h4, by rw [hr]; exact h5, h6.set hB hg, grown_new h7 hwX hg⟩
theorem BatSt.below {w wr w' : World} {Z X B c : Nat} {b : Bat} {rv : Value} (h : BatSt w wr Z X B c b rv) (hb : Below wr.heap.size wr w') : BatSt w w' Z X B c b rv := by
  obtain ⟨h1, h2, h3, h4, h5, h6, h7⟩ := h
  exact ⟨h1.belowS hb, h2.belowS hb, h3.below hb, h4, h5, h6.below hb, grown_trans h7 (grown_of_below hb)⟩
theorem BatSt.more {w wr : World} {Z X B c d : Nat} {b : Bat} {rv : Value} (h : BatSt w wr Z X B c b rv) (hd : c ≤ d) : BatSt w wr Z X B d b rv := ⟨h.1, h.2.1, h.2.2.1, h.2.2.2.1, h.2.2.2.2.1, h.2.2.2.2.2.1.more hd, h.2.2.2.2.2.2⟩
theorem BatSt.form {w wr : World} {Z X B c : Nat} {b : Bat} {rv : Value} (h : BatSt w wr Z X B c b rv) : ∃ a cap, rv = .slice a b.recs.length cap := by
  obtain ⟨a, cap, rfl, _⟩ := h.2.2.1.recs.recs
  exact ⟨a, cap, rfl⟩

/-- behind the append of the first record -/
def AppSt (w w8 : World) (Z X B c : Nat) (packed mark : Bool) (prod epoch seq : Int) (rv : Value) (g' cap' : Nat) (recs : List Rec) : Prop :=
  Blk w8 X #[.bool packed, .bool mark, .int .i64 prod, .int .i64 epoch, .int .i64 seq, rv] ∧ Blk w8 Z #[.bool false, .bool false, .int .i64 0, .int .i64 0, .int .i64 0, .slice none 0 0] ∧ OwnY w8 (Z + 1) X (.slice (some ⟨g', 0, none⟩) (recs.length + 1) cap') (recs ++ [recAt recs 0]) ∧ Rd w8 B c ∧ w.grownBy w8 (some B)
set_option maxRecDepth 100000 in
set_option maxHeartbeats 4000000 in
theorem spec_l91BatchP (B c : Nat) (o : Int) (w : World) (h : Rd w B c) (hc : c ≤ 700000000) (o0 : 0 ≤ o) (o1 : o ≤ 1000) :
    Calls Try.prog 69 #[.pointer (some ⟨B, 0, none⟩), .int .i64 o] w (BatDrawnP w B c) := by
  have hB := h.lt
  have xZ := Blk.made w #[.bool false, .bool false, .int .i64 0, .int .i64 0, .int .i64 0, .slice none 0 0] 33
  have bZ := alloc_below' w (.cells #[.bool false, .bool false, .int .i64 0, .int .i64 0, .int .i64 0, .slice none 0 0] 33)
  have hRz := h.below bZ
  have gz := grown_of_below (row := some B) bZ
  go_enter Try.func69, Try.ntmps69
  go_wp2_with fail
  generalize hwz : w.alloc (.cells #[.bool false, .bool false, .int .i64 0, .int .i64 0, .int .i64 0, .slice none 0 0] 33) = wz at xZ bZ hRz gz ⊢
  obtain ⟨Z, hZ⟩ : ∃ Z, w.heap.size = Z := ⟨_, rfl⟩
  rw [hZ] at xZ ⊢
  have hBZ : B < Z := by omega
  have lZ := xZ.lt
  have HZ := Lib.hid hZ
  clear hwz hZ bZ
  (with_reducible refine (spec_pick B _ 2 wz hRz (by omega) (by omega) (by omega)).mono ?_)
  rintro e w1 ⟨k1, rfl, hk1, hR1, g1⟩
  have x1 := xZ.by (by omega) g1
  have G1 := grown_trans gz g1
  have s1 := g1.size
  obtain ⟨pk, hpk⟩ : ∃ pk, ((k1 : Int) == 0) = pk := ⟨_, rfl⟩
  clear xZ gz g1 hRz hk1
  go_wp2_with fail
  have C4 : Calls Try.prog 78 #[.pointer (some ⟨B, 0, none⟩), .int .i64 o, .int .i64 4] w1 (RecsDrawn w1 B (c + 1)) := spec_l91Records B (c + 1) o 4 w1 hR1 (by omega) o0 o1 (by omega) (by omega)
  (with_reducible refine C4.mono ?_)
  rintro e w2 ⟨rs, rv, rfl, own2, l1, l6, hR2, g2⟩
  have x2 := x1.by (by omega) g2
  have G2 := grown_trans G1 g2
  have s2 := g2.size
  obtain ⟨ra, rc, rfl⟩ : ∃ a cap, rv = .slice a rs.length cap := by
    obtain ⟨a, cap, rfl, _⟩ := own2.recs
    exact ⟨a, cap, rfl⟩
  have own2' : OwnRm w2 (Z + 1) w2.heap.size (.slice ra rs.length rc) rs := by
    obtain ⟨kv, vv, q1, q2, q3, q4⟩ := own2.bound
    exact ⟨kv, vv, q1.baseB (by omega), fun i hi => ⟨(q2 i hi).1.base (by omega), (q2 i hi).2.base (by omega)⟩, q3, q4⟩
  have own2x := own2'.ownX (X := w2.heap.size) (Nat.le_refl _)
  clear x1 own2 own2' G1 g2 hR1
  have bX := alloc_below' w2 (.cells #[.bool pk, .bool false, .int .i64 255, .int .i64 0, .int .i64 0, .slice ra rs.length rc] 33)
  have xX := Blk.made w2 #[.bool pk, .bool false, .int .i64 255, .int .i64 0, .int .i64 0, .slice ra rs.length rc] 33
  have st : BatSt w _ Z w2.heap.size B (c + 1 + 600) ⟨pk, false, 255, 0, 0, rs⟩ (.slice ra rs.length rc) := ⟨xX, x2.belowS bX, own2x.below bX, by simp only; omega, l1, hR2.below bX, grown_trans G2 (grown_of_below bX)⟩
  clear x2 own2x hR2 G2 xX bX
  go_wp2_with fail
  generalize hwx : w2.alloc (.cells #[.bool pk, .bool false, .int .i64 255, .int .i64 0, .int .i64 0, .slice ra rs.length rc] 33) = wx at st ⊢
  obtain ⟨X, hX⟩ : ∃ X, w2.heap.size = X := ⟨_, rfl⟩
  rw [hX] at st ⊢
  have hBX : B < X := by omega
  have hZX : Z < X := by omega
  have hwX : w.heap.size ≤ X := by have := HZ.out; omega
  clear hwx hX s1 s2 lZ
  have hRx := st.2.2.2.2.2.1
  (with_reducible refine (spec_pick B _ 3 wx hRx (by omega) (by omega) (by omega)).mono ?_)
  rintro e w3 ⟨k3, rfl, hk3, hR3, g3⟩
  have st3 := st.pick hBZ hBX hR3 g3
  clear st hRx g3 hR3 hk3
  go_upto_if 15 with (fail)
  go_cut [0] from 6 (fun s0 wc => s0 = .pointer (some ⟨B, 0, none⟩) ∧ ∃ b rv, BatSt w wc Z X B (c + 620) b rv)
  case first =>
    by_cases k30 : k3 = 0
    · have e0 : ((k3 : Int) == 0) = true := by rw [beq_iff_eq]; omega
      clear k30
      have hR3 := st3.2.2.2.2.2.1
      go_wp2_with fail
      (with_reducible refine (spec_pick B _ 3 w3 hR3 (by omega) (by omega) (by omega)).mono ?_)
      rintro e w4 ⟨q1, rfl, hq1, hR4, g4⟩
      have st4 := st3.pick hBZ hBX hR4 g4
      have st5 : BatSt w (w4.setCell ⟨X, 2, none⟩ (.int .i64 (q1 : Int))) Z X B _ ⟨pk, false, (q1 : Int), 0, 0, rs⟩ (.slice ra rs.length rc) := st4.set hBX hZX hwX rfl (st4.1.set 2 (.int .i64 (q1 : Int))) (set_grown _ _ _ _)
      obtain ⟨c0, c1, c2, c3, c4, c5⟩ := st4.1.sixC
      have fx := st4.1.free
      clear st3 hR3 hR4 g4 hq1 st4
      go_wp2_with fail
      generalize hw5 : w4.setCell ⟨X, 2, none⟩ (.int .i64 (q1 : Int)) = w5 at st5 ⊢
      clear hw5 c0 c1 c2 c3 c4 c5 fx
      have hR5 := st5.2.2.2.2.2.1
      (with_reducible refine (spec_pick B _ 3 w5 hR5 (by omega) (by omega) (by omega)).mono ?_)
      rintro e w6 ⟨q2, rfl, hq2, hR6, g6⟩
      have st6 := st5.pick hBZ hBX hR6 g6
      have st7 : BatSt w (w6.setCell ⟨X, 3, none⟩ (.int .i64 (q2 : Int))) Z X B _ ⟨pk, false, (q1 : Int), (q2 : Int), 0, rs⟩ (.slice ra rs.length rc) := st6.set hBX hZX hwX rfl (st6.1.set 3 (.int .i64 (q2 : Int))) (set_grown _ _ _ _)
      obtain ⟨c0, c1, c2, c3, c4, c5⟩ := st6.1.sixC
      have fx := st6.1.free
      clear st5 hR5 hR6 g6 hq2 st6
      go_wp2_with fail
      generalize hw7 : w6.setCell ⟨X, 3, none⟩ (.int .i64 (q2 : Int)) = w7 at st7 ⊢
      clear hw7 c0 c1 c2 c3 c4 c5 fx
      have hR7 := st7.2.2.2.2.2.1
      (with_reducible refine (spec_pick B _ 5 w7 hR7 (by omega) (by omega) (by omega)).mono ?_)
      rintro e w8 ⟨q3, rfl, hq3, hR8, g8⟩
      have st8 := st7.pick hBZ hBX hR8 g8
      have st9 : BatSt w (w8.setCell ⟨X, 4, none⟩ (.int .i64 (q3 : Int))) Z X B _ ⟨pk, false, (q1 : Int), (q2 : Int), (q3 : Int), rs⟩ (.slice ra rs.length rc) := st8.set hBX hZX hwX rfl (st8.1.set 4 (.int .i64 (q3 : Int))) (set_grown _ _ _ _)
      obtain ⟨c0, c1, c2, c3, c4, c5⟩ := st8.1.sixC
      have fx := st8.1.free
      clear st7 hR7 hR8 g8 hq3 st8
      go_wp2_with fail
      generalize hw9 : w8.setCell ⟨X, 4, none⟩ (.int .i64 (q3 : Int)) = w9 at st9 ⊢
      clear hw9 c0 c1 c2 c3 c4 c5 fx
      have hR9 := st9.2.2.2.2.2.1
      (with_reducible refine (spec_pick B _ 3 w9 hR9 (by omega) (by omega) (by omega)).mono ?_)
      rintro e w10 ⟨q4, rfl, hq4, hR10, g10⟩
      have st10 := st9.pick hBZ hBX hR10 g10
      clear st9 hR9 hR10 g10 hq4
      by_cases q40 : q4 = 0
      · have e1 : ((q4 : Int) == 0) = true := by rw [beq_iff_eq]; omega
        clear q40
        have st11 : BatSt w (w10.setCell ⟨X, 1, none⟩ (.bool true)) Z X B _ ⟨pk, true, (q1 : Int), (q2 : Int), (q3 : Int), rs⟩ (.slice ra rs.length rc) := st10.set hBX hZX hwX rfl (st10.1.set 1 (.bool true)) (set_grown _ _ _ _)
        obtain ⟨c0, c1, c2, c3, c4, c5⟩ := st10.1.sixC
        have fx := st10.1.free
        clear st10
        go_wp2_with fail
        generalize hw11 : w10.setCell ⟨X, 1, none⟩ (.bool true) = w11 at st11 ⊢
        clear hw11 c0 c1 c2 c3 c4 c5 fx
        have hR11 := st11.2.2.2.2.2.1
        (with_reducible refine (spec_pick B _ 200 w11 hR11 (by omega) (by omega) (by omega)).mono ?_)
        rintro e w12 ⟨q5, rfl, hq5, hR12, g12⟩
        have st12 := st11.pick hBZ hBX hR12 g12
        have st13 := st12.below (alloc_below' w12 (.cells #[] 3))
        have ownE := own_empty w12 (X + 1) st12.1.lt
        clear st11 hR11 hR12 g12 hq5 st12
        go_wp2_with fail
        generalize hw13 : w12.alloc (.cells #[] 3) = w13 at st13 ownE ⊢
        obtain ⟨E, hE⟩ : ∃ E, w12.heap.size = E := ⟨_, rfl⟩
        rw [hE] at ownE ⊢
        clear hw13 hE
        have hR13 := st13.2.2.2.2.2.1
        (with_reducible refine (spec_pick B _ 2 w13 hR13 (by omega) (by omega) (by omega)).mono ?_)
        rintro e w14 ⟨q6, rfl, hq6, hR14, g14⟩
        have st14 := st13.pick hBZ hBX hR14 g14
        have ownE2 := ownE.by (show B < X + 1 by omega) g14
        obtain ⟨c0, c1, c2, c3, c4, c5⟩ := st14.1.sixC
        have fx := st14.1.free
        have lx := st14.1.lt
        clear st13 ownE hR13 hR14 g14 hq6
        go_wp2_with fail
        have gS := set_grown w14 X 5 (.slice (some ⟨w14.heap.size + 1, 0, none⟩) 1 1)
        have lw := w14.heap.size
        have xS : Blk (w14.setCell ⟨X, 5, none⟩ (.slice (some ⟨w14.heap.size + 1, 0, none⟩) 1 1)) X #[.bool pk, .bool true, .int .i64 (q1 : Int), .int .i64 (q2 : Int), .int .i64 (q3 : Int), .slice (some ⟨w14.heap.size + 1, 0, none⟩) 1 1] := st14.1.set 5 (.slice (some ⟨w14.heap.size + 1, 0, none⟩) 1 1)
        have zS : Blk (w14.setCell ⟨X, 5, none⟩ (.slice (some ⟨w14.heap.size + 1, 0, none⟩) 1 1)) Z _ := st14.2.1.by (by omega) gS
        have rS : Rd (w14.setCell ⟨X, 5, none⟩ (.slice (some ⟨w14.heap.size + 1, 0, none⟩) 1 1)) B _ := st14.2.2.2.2.2.1.set hBX gS
        have GS := grown_new st14.2.2.2.2.2.2 hwX gS
        have eS := ownE2.by (Nat.lt_succ_self X) gS
        have sS : (w14.setCell ⟨X, 5, none⟩ (.slice (some ⟨w14.heap.size + 1, 0, none⟩) 1 1)).heap.size = w14.heap.size := by simp
        have bA := alloc_below' (w14.setCell ⟨X, 5, none⟩ (.slice (some ⟨w14.heap.size + 1, 0, none⟩) 1 1)) (.cells #[.int .i64 (q6 : Int)] 3)
        have vA := own_lit1 (w14.setCell ⟨X, 5, none⟩ (.slice (some ⟨w14.heap.size + 1, 0, none⟩) 1 1)) (X + 1) (q6 : Int) (by rw [sS]; omega)
        rw [sS] at vA
        have eE := ownE2.lt2
        have ap : ∀ k, (Value.slice (some ⟨w14.heap.size, 0, none⟩) 1 1).ownBlock = some k → (Value.slice (some ⟨E, 0, none⟩) 0 0).ownBlock ≠ some k := fun k hk e => by
          have h1 := eE k e
          simp only [Value.ownBlock, Option.some.injEq] at hk
          omega
        have sA : ((w14.setCell ⟨X, 5, none⟩ (.slice (some ⟨w14.heap.size + 1, 0, none⟩) 1 1)).alloc (.cells #[.int .i64 (q6 : Int)] 3)).heap.size = w14.heap.size + 1 := by simp
        have rowL := own_litR ((w14.setCell ⟨X, 5, none⟩ (.slice (some ⟨w14.heap.size + 1, 0, none⟩) 1 1)).alloc (.cells #[.int .i64 (q6 : Int)] 3)) (X + 1) ⟨o, (q5 : Int), false, [], true, [(q6 : Int)]⟩ _ _ (eS.below bA) vA ap (by rw [sA]; omega)
        rw [sA] at rowL
        have bL := alloc_below' ((w14.setCell ⟨X, 5, none⟩ (.slice (some ⟨w14.heap.size + 1, 0, none⟩) 1 1)).alloc (.cells #[.int .i64 (q6 : Int)] 3)) (.cells #[.int .i64 o, .int .i64 (q5 : Int), .bool false, .slice (some ⟨E, 0, none⟩) 0 0, .bool true, .slice (some ⟨w14.heap.size, 0, none⟩) 1 1] 58)
        have stF : BatSt w _ Z X B (c + 620) ⟨pk, true, (q1 : Int), (q2 : Int), (q3 : Int), [⟨o, (q5 : Int), false, [], true, [(q6 : Int)]⟩]⟩ (.slice (some ⟨w14.heap.size + 1, 0, none⟩) 1 1) :=
          ⟨(xS.belowS bA).belowS bL, (zS.belowS bA).belowS bL, rowL.ownX (Nat.lt_succ_self X) (by omega), by simp, by simp, ((rS.below bA).below bL).more (by omega), grown_trans GS (grown_of_below (Bstep bA bL))⟩
        clear xS zS rS GS eS vA rowL gS st14 ownE2 bA bL c0 c1 c2 c3 c4 c5 fx ap sS sA eE lw
        go_meet
        case rel => exact ⟨rfl, _, _, stF⟩
      · have e1 : ((q4 : Int) == 0) = false := by rw [beq_eq_false_iff_ne]; omega
        go_wp2_with fail
        go_meet
        case rel => exact ⟨rfl, _, _, st10.more (by omega)⟩
    · have e0 : ((k3 : Int) == 0) = false := by rw [beq_eq_false_iff_ne]; omega
      go_wp2_with fail
      go_meet
      case rel => exact ⟨rfl, _, _, st3.more (by omega)⟩
  case rest =>
    clear st3
    obtain ⟨rfl, b, rv, st⟩ := hcut
    obtain ⟨ra, rc, rfl⟩ := st.form
    obtain ⟨packed, mark, prod, epoch, seq, recs⟩ := b
    have hR := st.2.2.2.2.2.1
    have hl7 : recs.length ≤ 7 := st.2.2.2.1
    have hl1 : 1 ≤ recs.length := st.2.2.2.2.1
    simp only at st
    go_wp2_with fail
    (with_reducible refine (spec_pick B _ 40 wc hR (by omega) (by omega) (by omega)).mono ?_)
    rintro e v1 ⟨q, rfl, hq, hR1, g1⟩
    have st1 := st.pick hBZ hBX hR1 g1
    clear st hR hR1 g1 hq
    by_cases q0 : q = 0
    · have e0 : ((q : Int) == 0) = true := by rw [beq_iff_eq]; omega
      clear q0
      have st2 := st1.below (alloc_below' v1 (.cells #[.int .i64 (-1), .int .i64 1, .int .i64 100] 3))
      have hR2 := st2.2.2.2.2.2.1
      have hL := heap_alloc_new v1 (.cells #[.int .i64 (-1), .int .i64 1, .int .i64 100] 3)
      go_wp2_with fail
      (with_reducible refine (spec_pick B _ 3 _ hR2 (by omega) (by omega) (by omega)).mono ?_)
      rintro e v3 ⟨y, rfl, hy, hR3, g3⟩
      have st3 := st2.pick hBZ hBX hR3 g3
      have hy3 : y < 3 := by omega
      have hLne : v1.heap.size ≠ B := by have := st1.2.2.2.2.2.1.lt; omega
      have hL3 := (g3.block v1.heap.size (by simp) (fun e => hLne (by simpa using e))).trans hL
      have hcell := lit_cell [-1, 1, 100] hL3 y hy3
      have hn : ∃ n, [-1, 1, 100].getD y (0 : Int) = n ∧ -1 ≤ n ∧ n ≤ 100 := by
        match y, hy3 with
        | 0, _ => exact ⟨_, rfl, by decide, by decide⟩
        | 1, _ => exact ⟨_, rfl, by decide, by decide⟩
        | 2, _ => exact ⟨_, rfl, by decide, by decide⟩
      obtain ⟨n, en, n0, n1⟩ := hn
      rw [en] at hcell
      have st4 : BatSt w (v3.setCell ⟨X, 3, none⟩ (.int .i64 n)) Z X B _ ⟨packed, mark, prod, n, seq, recs⟩ (.slice ra recs.length rc) := st3.set hBX hZX hwX rfl (st3.1.set 3 (.int .i64 n)) (set_grown _ _ _ _)
      obtain ⟨c0, c1, c2, c3, c4, c5⟩ := st3.1.sixC
      have fx := st3.1.free
      clear st1 st2 st3 hR2 hR3 g3 hL hL3 en hy hLne
      go_upto_region 16 with (fail)
      generalize hWF : v3.setCell ⟨X, 3, none⟩ (.int .i64 n) = WF at st4 ⊢
      clear hWF c0 c1 c2 c3 c4 c5 fx hcell
      obtain ⟨xF, zF, oF, _, _, rF, GF⟩ := st4
      simp only at xF oF
      obtain ⟨c0, c1, c2, c3, c4, c5⟩ := xF.sixC
      obtain ⟨d0, d1, d2, d3, d4, d5⟩ := zF.sixC
      have fz := zF.free
      have zz := zF.six (.bool packed) (.bool mark) (.int .i64 prod) (.int .i64 n) (.int .i64 seq) (.slice ra recs.length rc)
      have gz := six_grown WF Z (.bool packed) (.bool mark) (.int .i64 prod) (.int .i64 n) (.int .i64 seq) (.slice ra recs.length rc)
      have rr := oF.ownY.by (Nat.lt_succ_self Z) gz
      have rR := Rd.set rF hBZ gz
      have GG := grown_new GF (show w.heap.size ≤ Z by have := HZ.out; omega) gz
      go_wp2_with fail
      generalize hWW : (((((WF.setCell ⟨Z, 0, none⟩ (.bool packed)).setCell ⟨Z, 1, none⟩ (.bool mark)).setCell ⟨Z, 2, none⟩ (.int .i64 prod)).setCell ⟨Z, 3, none⟩ (.int .i64 n)).setCell ⟨Z, 4, none⟩ (.int .i64 seq)).setCell ⟨Z, 5, none⟩ (.slice ra recs.length rc) = WW at zz rr rR GG ⊢
      clear hWW c0 c1 c2 c3 c4 c5 d0 d1 d2 d3 d4 d5 fz xF zF oF rF GF gz
      obtain ⟨c0, c1, c2, c3, c4, c5⟩ := zz.sixC
      refine bodyPost_ret (v := .agg #[.bool packed, .bool mark, .int .i64 prod, .int .i64 n, .int .i64 seq, (.slice ra recs.length rc)]) (by simp [results, Try.results69, go_sem, c0, c1, c2, c3, c4, c5]) rfl ?_
      exact ⟨⟨packed, mark, prod, n, seq, recs⟩, _, rfl, rr.ownP (by have := HZ.out; omega), by simp only; omega, rR.more (by omega), GG⟩
    have e0 : ((q : Int) == 0) = false := by rw [beq_eq_false_iff_ne]; omega
    by_cases q1 : q = 1
    · have e1 : ((q : Int) == 1) = true := by rw [beq_iff_eq]; omega
      clear q0 q1
      go_upto_region 13 with (fail)
      obtain ⟨g, cap, k0, v0, eg, ok0, ov0, hcells, f, hrow, hfin⟩ := st1.2.2.1.first (show 0 < recs.length by omega)
      simp only [Value.slice.injEq, true_and] at eg
      obtain ⟨rfl, rfl⟩ := eg
      have hst := st1
      (try dsimp only at hcells)
      (try dsimp only at hrow)
      (try dsimp only at hfin)
      (try dsimp only at ok0)
      (try dsimp only at ov0)
      obtain ⟨ka, kc, rfl, hj1⟩ := ok0.ints
      obtain ⟨va, vc, rfl, hj2⟩ := ov0.ints
      clear hj1 hj2
      obtain ⟨r0, hr0⟩ : ∃ r, recAt recs 0 = r := ⟨_, rfl⟩
      rw [hr0] at hcells hfin
      have Hr0 := Lib.hid hr0
      have H6 := And.intro (hcells 0 (by omega)) (And.intro (hcells 1 (by omega)) (And.intro (hcells 2 (by omega)) (And.intro (hcells 3 (by omega)) (And.intro (hcells 4 (by omega)) (hcells 5 (by omega))))))
      obtain ⟨r1, r2, r3, r4, r5, r6⟩ := r0
      have h0 : v1.cell? ⟨g, 0, none⟩ = some (.int .i64 r1) := H6.1
      have h1 : v1.cell? ⟨g, 1, none⟩ = some (.int .i64 r2) := H6.2.1
      have h2 : v1.cell? ⟨g, 2, none⟩ = some (.bool r3) := H6.2.2.1
      have h3 : v1.cell? ⟨g, 3, none⟩ = some (.slice ka r4.length kc) := H6.2.2.2.1
      have h4 : v1.cell? ⟨g, 4, none⟩ = some (.bool r5) := H6.2.2.2.2.1
      have h5 : v1.cell? ⟨g, 5, none⟩ = some (.slice va r6.length vc) := H6.2.2.2.2.2
      clear H6
      have hlp : 0 < recs.length := by omega
      have Hfin := Lib.hid hfin
      clear hr0 hcells ok0 ov0 hfin
      have bL : Below v1.heap.size v1 (v1.alloc (.cells #[.int .i64 r1, .int .i64 r2, .bool r3, .slice ka r4.length kc, .bool r5, .slice va r6.length vc] 58)).drew := Bstep (alloc_below' v1 (.cells #[.int .i64 r1, .int .i64 r2, .bool r3, .slice ka r4.length kc, .bool r5, .slice va r6.length vc] 58)) (below_drewN (Below.refl _ _) 1)
      have xL : Blk (v1.alloc (.cells #[.int .i64 r1, .int .i64 r2, .bool r3, .slice ka r4.length kc, .bool r5, .slice va r6.length vc] 58)).drew v1.heap.size _ := (Blk.made v1 #[.int .i64 r1, .int .i64 r2, .bool r3, .slice ka r4.length kc, .bool r5, .slice va r6.length vc] 58).drew 1
      have row7 := hrow.below bL
      have hsz : (v1.alloc (.cells #[.int .i64 r1, .int .i64 r2, .bool r3, .slice ka r4.length kc, .bool r5, .slice va r6.length vc] 58)).drew.heap.size = v1.heap.size + 1 := by simp
      have lx := st1.1.lt
      have fx := st1.1.free
      have lg := (hrow.lt g rfl).2
      have hgl := (hrow.lt g rfl).1
      have hXg : X ≠ g := by
        obtain ⟨kv, vv, _, _, _, h4⟩ := st1.2.2.1
        exact fun e => h4 0 (by omega) (by rw [e]; rfl)
      have hZg : Z ≠ g := by omega
      have hwg : w.heap.size ≤ g := by have := HZ.out; omega
      have hzs : Z + 1 ≤ v1.heap.size + 1 := by omega
      obtain ⟨c0, c1, c2, c3, c4, c5⟩ := st1.1.sixC
      have HApp : Hid (∀ w8 g' cap', Row6 w8 (Z + 1) (.slice (some ⟨g', 0, none⟩) (recs.length + 1) cap') (recs.length + 1) (fun i => if i < recs.length * 6 then f i else six (.int .i64 r1) (.int .i64 r2) (.bool r3) (.slice ka r4.length kc) (.bool r5) (.slice va r6.length vc) (i - recs.length * 6)) → (v1.alloc (.cells #[.int .i64 r1, .int .i64 r2, .bool r3, .slice ka r4.length kc, .bool r5, .slice va r6.length vc] 58)).drew.grownBy w8 (some g) → ((some g : Option Nat) = some g' ∨ g' = v1.heap.size + 1) → AppSt w w8 Z X B (c + 620 + 1) packed mark prod epoch seq (.slice (some ⟨g, 0, none⟩) recs.length rc) g' cap' recs) := Lib.hid fun w8 g' cap' row8 g8 hat8 => by
        have g78 : v1.grownBy w8 (some g) := grown_trans (grown_of_below bL) g8
        have hfin8 := Hfin.out w8 g' cap' (v1.heap.size + 1) row8 g78 hat8 (by omega)
        have r8 : Rd w8 B _ := st1.2.2.2.2.2.1.keep fun b hb => g78.block b (Nat.lt_of_le_of_lt hb st1.2.2.2.2.2.1.lt) fun e => by simp only [Option.some.injEq] at e; omega
        exact ⟨st1.1.by hXg g78, st1.2.1.by hZg g78, by rw [Hr0.out]; exact hfin8, r8, grown_new st1.2.2.2.2.2.2 hwg g78⟩
      clear st1 hrow
      go_region_law (
        rw [if_pos (by rfl)]
        refine op_appR _ _ rfl (Z + 1) _ recs.length f ⟨v1.heap.size, 0, none⟩ 1 (.int .i64 r1) (.int .i64 r2) (.bool r3) (.slice ka r4.length kc) (.bool r5) (.slice va r6.length vc) rfl rfl row7 ?_ ?_ (by omega) (by simp; omega) _ hsz ?_
        · intro j hj
          rw [Addr.add_lit, Nat.zero_add, xL.cell j]
          rcases (show j = 0 ∨ j = 1 ∨ j = 2 ∨ j = 3 ∨ j = 4 ∨ j = 5 by omega) with rfl | rfl | rfl | rfl | rfl | rfl
          all_goals rfl
        · intro j hj
          rcases (show j = 0 ∨ j = 1 ∨ j = 2 ∨ j = 3 ∨ j = 4 ∨ j = 5 by omega) with rfl | rfl | rfl | rfl | rfl | rfl
          all_goals rfl
        intro g' cap' w8 row8 g8 hat8
        have st8 := HApp.out w8 g' cap' row8 g8 hat8
        obtain ⟨d0, d1, d2, d3, d4, d5⟩ := st8.1.sixC
        have f8 := st8.1.free
        have l8 := st8.1.lt)
      all_goals
        obtain ⟨x8, z8, o8, r8, G8⟩ := st8
        have xF : Blk (w8.setCell ⟨X, 5, none⟩ (.slice (some ⟨g', 0, none⟩) (recs.length + 1) cap')) X #[.bool packed, .bool mark, .int .i64 prod, .int .i64 epoch, .int .i64 seq, (.slice (some ⟨g', 0, none⟩) (recs.length + 1) cap')] := x8.set 5 (.slice (some ⟨g', 0, none⟩) (recs.length + 1) cap')
        have gX := set_grown w8 X 5 (.slice (some ⟨g', 0, none⟩) (recs.length + 1) cap')
        have zF := z8.by (show Z ≠ X by omega) gX
        have oF := o8.set gX
        have rF := Rd.set r8 hBX gX
        have GF := grown_new G8 hwX gX
        generalize hWF : w8.setCell ⟨X, 5, none⟩ (.slice (some ⟨g', 0, none⟩) (recs.length + 1) cap') = WF at xF zF oF rF GF ⊢
        clear hWF x8 z8 o8 r8 G8 gX c0 c1 c2 c3 c4 c5 d0 d1 d2 d3 d4 d5 f8 l8 fx lx h0 h1 h2 h3 h4 h5 row7 row8 g8 hat8 xL bL hsz HApp Hfin Hr0 hst hXg hZg hwg hzs hgl lg
        generalize hL : recs.length + 1 = L at xF oF ⊢
        clear hL hlp e0 e1
        go_upto_region 16 with (fail)
        generalize hrl : recAt recs 0 = r0x at oF ⊢
        clear hrl
        obtain ⟨c0, c1, c2, c3, c4, c5⟩ := xF.sixC
        obtain ⟨d0, d1, d2, d3, d4, d5⟩ := zF.sixC
        have fz := zF.free
        have zz := zF.six (.bool packed) (.bool mark) (.int .i64 prod) (.int .i64 epoch) (.int .i64 seq) (.slice (some ⟨g', 0, none⟩) L cap')
        have gz := six_grown WF Z (.bool packed) (.bool mark) (.int .i64 prod) (.int .i64 epoch) (.int .i64 seq) (.slice (some ⟨g', 0, none⟩) L cap')
        have rr := oF.by (Nat.lt_succ_self Z) gz
        have rR := Rd.set rF hBZ gz
        have GG := grown_new GF (show w.heap.size ≤ Z by have := HZ.out; omega) gz
        go_wp2_with fail
        generalize hWW : (((((WF.setCell ⟨Z, 0, none⟩ (.bool packed)).setCell ⟨Z, 1, none⟩ (.bool mark)).setCell ⟨Z, 2, none⟩ (.int .i64 prod)).setCell ⟨Z, 3, none⟩ (.int .i64 epoch)).setCell ⟨Z, 4, none⟩ (.int .i64 seq)).setCell ⟨Z, 5, none⟩ (.slice (some ⟨g', 0, none⟩) L cap') = WW at zz rr rR GG ⊢
        clear hWW c0 c1 c2 c3 c4 c5 d0 d1 d2 d3 d4 d5 fz xF zF oF rF GF gz
        obtain ⟨c0, c1, c2, c3, c4, c5⟩ := zz.sixC
        refine bodyPost_ret (v := .agg #[.bool packed, .bool mark, .int .i64 prod, .int .i64 epoch, .int .i64 seq, (.slice (some ⟨g', 0, none⟩) L cap')]) (by simp [results, Try.results69, go_sem, c0, c1, c2, c3, c4, c5]) rfl ?_
        exact ⟨⟨packed, mark, prod, epoch, seq, (recs ++ [r0x])⟩, _, rfl, rr.ownP (by have := HZ.out; omega), by simp only [List.length_append, List.length_cons, List.length_nil]; omega, rR.more (by omega), GG⟩
    have e1 : ((q : Int) == 1) = false := by rw [beq_eq_false_iff_ne]; omega
    by_cases q2 : q = 2
    · have e2 : ((q : Int) == 2) = true := by rw [beq_iff_eq]; omega
      clear q0 q1 q2
      have st4 : BatSt w (v1.setCell ⟨X, 1, none⟩ (.bool (!mark))) Z X B _ ⟨packed, !mark, prod, epoch, seq, recs⟩ (.slice ra recs.length rc) := st1.set hBX hZX hwX rfl (st1.1.set 1 (.bool (!mark))) (set_grown _ _ _ _)
      obtain ⟨nm, hnm⟩ : ∃ nm, (!mark) = nm := ⟨_, rfl⟩
      rw [hnm] at st4
      obtain ⟨c0, c1, c2, c3, c4, c5⟩ := st1.1.sixC
      have fx := st1.1.free
      clear st1
      go_upto_region 16 with (fail)
      generalize hWF : v1.setCell ⟨X, 1, none⟩ (.bool nm) = WF at st4 ⊢
      clear hWF hnm c0 c1 c2 c3 c4 c5 fx
      obtain ⟨xF, zF, oF, _, _, rF, GF⟩ := st4
      simp only at xF oF
      obtain ⟨c0, c1, c2, c3, c4, c5⟩ := xF.sixC
      obtain ⟨d0, d1, d2, d3, d4, d5⟩ := zF.sixC
      have fz := zF.free
      have zz := zF.six (.bool packed) (.bool nm) (.int .i64 prod) (.int .i64 epoch) (.int .i64 seq) (.slice ra recs.length rc)
      have gz := six_grown WF Z (.bool packed) (.bool nm) (.int .i64 prod) (.int .i64 epoch) (.int .i64 seq) (.slice ra recs.length rc)
      have rr := oF.ownY.by (Nat.lt_succ_self Z) gz
      have rR := Rd.set rF hBZ gz
      have GG := grown_new GF (show w.heap.size ≤ Z by have := HZ.out; omega) gz
      go_wp2_with fail
      generalize hWW : (((((WF.setCell ⟨Z, 0, none⟩ (.bool packed)).setCell ⟨Z, 1, none⟩ (.bool nm)).setCell ⟨Z, 2, none⟩ (.int .i64 prod)).setCell ⟨Z, 3, none⟩ (.int .i64 epoch)).setCell ⟨Z, 4, none⟩ (.int .i64 seq)).setCell ⟨Z, 5, none⟩ (.slice ra recs.length rc) = WW at zz rr rR GG ⊢
      clear hWW c0 c1 c2 c3 c4 c5 d0 d1 d2 d3 d4 d5 fz xF zF oF rF GF gz
      obtain ⟨c0, c1, c2, c3, c4, c5⟩ := zz.sixC
      refine bodyPost_ret (v := .agg #[.bool packed, .bool nm, .int .i64 prod, .int .i64 epoch, .int .i64 seq, (.slice ra recs.length rc)]) (by simp [results, Try.results69, go_sem, c0, c1, c2, c3, c4, c5]) rfl ?_
      exact ⟨⟨packed, nm, prod, epoch, seq, recs⟩, _, rfl, rr.ownP (by have := HZ.out; omega), by simp only; omega, rR.more (by omega), GG⟩
    have e2 : ((q : Int) == 2) = false := by rw [beq_eq_false_iff_ne]; omega
    clear q0 q1 q2
    obtain ⟨xF, zF, oF, _, _, rF, GF⟩ := st1
    simp only at xF oF
    obtain ⟨WF, hWF⟩ : ∃ W, v1 = W := ⟨_, rfl⟩
    subst hWF
    obtain ⟨c0, c1, c2, c3, c4, c5⟩ := xF.sixC
    obtain ⟨d0, d1, d2, d3, d4, d5⟩ := zF.sixC
    have fz := zF.free
    have zz := zF.six (.bool packed) (.bool mark) (.int .i64 prod) (.int .i64 epoch) (.int .i64 seq) (.slice ra recs.length rc)
    have gz := six_grown v1 Z (.bool packed) (.bool mark) (.int .i64 prod) (.int .i64 epoch) (.int .i64 seq) (.slice ra recs.length rc)
    have rr := oF.ownY.by (Nat.lt_succ_self Z) gz
    have rR := Rd.set rF hBZ gz
    have GG := grown_new GF (show w.heap.size ≤ Z by have := HZ.out; omega) gz
    go_wp2_with fail
    generalize hWW : (((((v1.setCell ⟨Z, 0, none⟩ (.bool packed)).setCell ⟨Z, 1, none⟩ (.bool mark)).setCell ⟨Z, 2, none⟩ (.int .i64 prod)).setCell ⟨Z, 3, none⟩ (.int .i64 epoch)).setCell ⟨Z, 4, none⟩ (.int .i64 seq)).setCell ⟨Z, 5, none⟩ (.slice ra recs.length rc) = WW at zz rr rR GG ⊢
    clear hWW c0 c1 c2 c3 c4 c5 d0 d1 d2 d3 d4 d5 fz xF zF oF rF GF gz
    obtain ⟨c0, c1, c2, c3, c4, c5⟩ := zz.sixC
    refine bodyPost_ret (v := .agg #[.bool packed, .bool mark, .int .i64 prod, .int .i64 epoch, .int .i64 seq, (.slice ra recs.length rc)]) (by simp [results, Try.results69, go_sem, c0, c1, c2, c3, c4, c5]) rfl ?_
    exact ⟨⟨packed, mark, prod, epoch, seq, recs⟩, _, rfl, rr.ownP (by have := HZ.out; omega), by simp only; omega, rR.more (by omega), GG⟩
theorem spec_l91Batch (B c : Nat) (o : Int) (w : World) (h : Rd w B c) (hc : c ≤ 700000000) (o0 : 0 ≤ o) (o1 : o ≤ 1000) :
    Calls Try.prog 69 #[.pointer (some ⟨B, 0, none⟩), .int .i64 o] w (BatDrawn w B c) :=
  (spec_l91BatchP B c o w h hc o0 o1).mono fun _ _ q => q.drawn
end Go.Proofs.Ytlppnhkgadcgdaa
