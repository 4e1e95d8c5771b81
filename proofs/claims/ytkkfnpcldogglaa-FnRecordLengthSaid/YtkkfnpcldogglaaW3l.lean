/- Chapter 3: the program's reader reads parts and records. -/
import Derived.Test.YtkkfnpcldogglaaW3k
import Derived.Test.YtkkfnpcldogglaaR1
namespace Go.Proofs.Ytkkfnpcldogglaa
open Go.ChangeShapes Go.WideShapes Go.ChangeAt Go.RowKit
set_option linter.unusedVariables false

theorem grown_none {w w' : World} {row : Option Nat} (h : w.grownBy w' none) : w.grownBy w' row := ⟨h.os, h.tape, h.output, h.size, fun k hk _ => h.block k hk (by simp)⟩

theorem takeR_len (xs : List Int) (k : Int) (f : Bool) (m : Int) : (takeR xs k f m).1.length ≤ m.toNat := by
  unfold takeR
  split
  · simp
  split
  · simp
  split
  · simp
  split
  · simp
  · simp only [List.length_take]; omega
def RPartRes (w : World) (B : Nat) (v : Value) (g : Bool × List Int × Int × Bool) (e : Ending) (w' : World) : Prop :=
  ∃ u, e = .returned (.tuple #[.bool g.1, u]) ∧ Own w' w.heap.size u g.2.1 ∧ Rdr w' B v g.2.2.1 g.2.2.2 ∧ w.grownBy w' (some B)

theorem reader_part (B : Nat) (v : Value) (xs : List Int) (k : Int) (f : Bool) (w : World) (h : Rdr w B v k f) (hv : ∀ W : World, w.grownBy W (some B) → Ints W v xs) (hok : okBs xs = true) (hk : I64 k) :
    Calls Try.prog 63 #[.pointer (some ⟨B, 0, none⟩)] w (RPartRes w B v (partR xs k f)) := by
  have C1 := Lib.hid (reader_number B v xs k f w h (hv w (World.grownBy.refl _ _)) hk)
  obtain ⟨r1, r2, r3, r4⟩ := numR_range hok k f
  have hlen : (xs.length : Int) ≤ 9223372036854775807 := by
    obtain ⟨a, cap, _, hl, hm, _⟩ := hv w (World.grownBy.refl _ _)
    unfold maxLen at hm
    omega
  obtain ⟨k0, k1⟩ := hk
  unfold partR
  obtain ⟨⟨n, k', f'⟩, hg⟩ : ∃ g, numR xs k f = g := ⟨_, rfl⟩
  rw [hg] at C1 r1 r2 r3 r4 ⊢
  simp only at r1 r2 r3 r4 ⊢
  have HK : Hid (I64 k') := Lib.hid ⟨by omega, by omega⟩
  have HV := Lib.hid hv
  have C2 : Hid (∀ W : World, w.grownBy W (some B) → Rdr W B v k' f' → Calls Try.prog 48 #[.pointer (some ⟨B, 0, none⟩), .int .i64 n] W (RTakeRes W B v xs (takeR xs k' f' n))) := fun W hW hr => reader_take B v xs k' n f' W hr (HV.out W hW) HK.out ⟨by omega, by omega⟩
  have hl12 : Hid (okBs xs = true) := Lib.hid hok
  clear hg r3 r4 hv hok
  by_cases hn : n = -1
  · subst hn
    rw [if_pos rfl]
    go_enter Try.func63, Try.ntmps63
    go_wp2_with fail
    refine C1.out.mono ?_
    rintro e w1 ⟨rfl, R1, g1⟩
    go_wp2_with fail
    go_ret2
    exact ⟨_, rfl, own_nil _ _, R1, g1⟩
  · rw [if_neg hn]
    have d0 : (n == -1) = false := by rw [beq_eq_false_iff_ne]; exact hn
    clear hn
    obtain ⟨⟨ys, k2, f2⟩, hg2⟩ : ∃ g, takeR xs k' f' n = g := ⟨_, rfl⟩
    rw [hg2] at C2 ⊢
    simp only
    have hy0 := takeR_len xs k' f' n
    rw [hg2] at hy0
    have hy : ys.length ≤ 1000000 := Nat.le_trans hy0 (by omega)
    clear hy0
    clear hg2
    go_enter Try.func63, Try.ntmps63
    go_wp2_with fail
    refine C1.out.mono ?_
    rintro e w1 ⟨rfl, R1, g1⟩
    go_wp2_with fail
    refine (C2.out w1 g1 R1).mono ?_
    rintro e w2 ⟨u, rfl, iuf, R2, g2⟩
    have G2 := grown_trans g1 g2
    have iu := iuf w2 (HV.out w2 G2)
    clear iuf
    have hsz := G2.size
    have ow0 : Own w2 w.heap.size (.slice none 0 0) [] := own_nil _ _
    go_wp2_with (at_builtin; refine wp_appI rfl _ _ rfl w.heap.size (.slice none 0 0) u [] ys rfl rfl ow0 iu (by simp; omega) hsz ?_; intro v7 w7 own7 g7)
    go_ret2
    exact ⟨_, rfl, own7, Blk.grown R2 (by simp [Value.ownBlock]) g7, grown_trans G2 (grown_none g7)⟩

def RRecRes (w : World) (B : Nat) (v : Value) (g : Rec × Int × Bool) (e : Ending) (w' : World) : Prop :=
  ∃ kv vv, e = .returned (.agg #[.int .i64 g.1.off, .int .i64 g.1.time, .bool g.1.hk, kv, .bool g.1.hv, vv]) ∧ Own w' w.heap.size kv g.1.key ∧ Own w' w.heap.size vv g.1.val ∧ (∀ q, vv.ownBlock = some q → kv.ownBlock ≠ some q) ∧ Rdr w' B v g.2.1 g.2.2 ∧ w.grownBy w' (some B)
theorem partR_range {xs : List Int} (hok : okBs xs = true) (k : Int) (f : Bool) : k ≤ (partR xs k f).2.2.1 ∧ ((partR xs k f).2.2.1 = k ∨ (partR xs k f).2.2.1 ≤ xs.length) := by
  obtain ⟨_, _, r3, r4⟩ := numR_range hok k f
  have t := takeR_range xs (numR xs k f).2.1 (numR xs k f).2.2 (numR xs k f).1
  unfold partR
  split
  · exact ⟨r3, r4⟩
  · simp only; omega
set_option maxHeartbeats 1000000 in
theorem reader_record (B : Nat) (v : Value) (xs : List Int) (k : Int) (f : Bool) (o t : Int) (w : World) (h : Rdr w B v k f) (hv : ∀ W : World, w.grownBy W (some B) → Ints W v xs) (hok : okBs xs = true) (hk : I64 k) (hb : baseOk o t = true) :
    Calls Try.prog 50 #[.pointer (some ⟨B, 0, none⟩), .int .i64 o, .int .i64 t] w (RRecRes w B v (bodyR xs k f o t)) := by
  obtain ⟨⟨o0, o1⟩, t0, t1⟩ := baseOk_iff.1 hb
  have hlen : (xs.length : Int) ≤ 9223372036854775807 := by
    obtain ⟨a, cap, _, hl, hm, _⟩ := hv w (World.grownBy.refl _ _)
    unfold maxLen at hm
    omega
  obtain ⟨k0, k1⟩ := hk
  have HV := Lib.hid hv
  have Ra := numR_range hok k f
  have C1 : Hid (∀ W : World, w.grownBy W (some B) → Rdr W B v k f → Calls Try.prog 49 #[.pointer (some ⟨B, 0, none⟩)] W (RNumRes W B v (numR xs k f))) := fun W hW hr => reader_number B v xs k f W hr (HV.out W hW) ⟨k0, k1⟩
  have HG : bodyR xs k f o t = bodyR xs k f o t := rfl
  conv at HG => rhs; unfold bodyR
  obtain ⟨⟨dt, ka, fa⟩, ga⟩ : ∃ g, numR xs k f = g := ⟨_, rfl⟩
  rw [ga] at C1 Ra HG
  simp only at Ra HG
  obtain ⟨a0, a1, a2, a3⟩ := Ra
  have C2 : Hid (∀ W : World, w.grownBy W (some B) → Rdr W B v ka fa → Calls Try.prog 49 #[.pointer (some ⟨B, 0, none⟩)] W (RNumRes W B v (numR xs ka fa))) := fun W hW hr => reader_number B v xs ka fa W hr (HV.out W hW) ⟨by omega, by omega⟩
  have Rb := numR_range hok ka fa
  obtain ⟨⟨dd, kb, fb⟩, gb⟩ : ∃ g, numR xs ka fa = g := ⟨_, rfl⟩
  rw [gb] at C2 Rb HG
  simp only at Rb HG
  obtain ⟨b0, b1, b2, b3⟩ := Rb
  have C3 : Hid (∀ W : World, w.grownBy W (some B) → Rdr W B v kb fb → Calls Try.prog 63 #[.pointer (some ⟨B, 0, none⟩)] W (RPartRes W B v (partR xs kb fb))) := fun W hW hr => reader_part B v xs kb fb W hr (fun V hV => HV.out V (grown_trans hW hV)) hok ⟨by omega, by omega⟩
  have Rc := partR_range hok kb fb
  obtain ⟨⟨hk1, key, kc, fc⟩, gc⟩ : ∃ g, partR xs kb fb = g := ⟨_, rfl⟩
  rw [gc] at C3 Rc HG
  simp only at Rc HG
  obtain ⟨r1, r2⟩ := Rc
  have C4 : Hid (∀ W : World, w.grownBy W (some B) → Rdr W B v kc fc → Calls Try.prog 63 #[.pointer (some ⟨B, 0, none⟩)] W (RPartRes W B v (partR xs kc fc))) := fun W hW hr => reader_part B v xs kc fc W hr (fun V hV => HV.out V (grown_trans hW hV)) hok ⟨by omega, by omega⟩
  obtain ⟨⟨hv1, val, kd, fd⟩, gd⟩ : ∃ g, partR xs kc fc = g := ⟨_, rfl⟩
  rw [gd] at C4 HG
  simp only at HG
  have s1 : IntKind.i64.wrap (t + dt) = t + dt := IntWalk.i64_in _ ⟨by omega, by omega⟩
  have s2 : IntKind.i64.wrap (o + dd) = o + dd := IntWalk.i64_in _ ⟨by omega, by omega⟩
  rw [HG]
  clear ga gb gc gd HG a2 a3 b2 b3 r1 r2 hok hlen hb hv
  have hB := h.lt
  have zR0 := Blk.made w #[.int .i64 0, .int .i64 0, .bool false, .slice none 0 0, .bool false, .slice none 0 0] 25
  have bA := alloc_below' w (.cells #[.int .i64 0, .int .i64 0, .bool false, .slice none 0 0, .bool false, .slice none 0 0] 25)
  generalize hwA : w.alloc (.cells #[.int .i64 0, .int .i64 0, .bool false, .slice none 0 0, .bool false, .slice none 0 0] 25) = wA at zR0 bA
  have zX := Blk.made wA #[.int .i64 0, .int .i64 0, .bool false, .slice none 0 0, .bool false, .slice none 0 0] 25
  have bB := alloc_below' wA (.cells #[.int .i64 0, .int .i64 0, .bool false, .slice none 0 0, .bool false, .slice none 0 0] 25)
  have zR := zR0.belowS bB
  have hXe : wA.heap.size = w.heap.size + 1 := by rw [← hwA]; simp
  have hXe2 := Lib.hid hXe
  rw [hXe] at zX
  rw [← hwA] at zX bB zR
  have b0w := Bstep (alloc_below' w (.cells #[.int .i64 0, .int .i64 0, .bool false, .slice none 0 0, .bool false, .slice none 0 0] 25)) bB
  clear hwA hXe zR0 bA bB
  go_enter Try.func50, Try.ntmps50
  go_wp2_with fail
  generalize hwB : ((w.alloc (.cells #[.int .i64 0, .int .i64 0, .bool false, .slice none 0 0, .bool false, .slice none 0 0] 25)).alloc (.cells #[.int .i64 0, .int .i64 0, .bool false, .slice none 0 0, .bool false, .slice none 0 0] 25)) = wB at zX zR b0w ⊢
  clear hwB
  obtain ⟨R, hR⟩ : ∃ R, w.heap.size = R := ⟨_, rfl⟩
  obtain ⟨X, hX⟩ : ∃ X, w.heap.size + 1 = X := ⟨_, rfl⟩
  rw [hX] at zX ⊢
  have hBR : B ≠ R := by omega
  have hBX : B ≠ X := by omega
  have hRX : R ≠ X := by omega
  have hRB := hBR.symm
  have hXB := hBX.symm
  have hXR := hRX.symm
  have hwR : w.heap.size ≤ R := by omega
  have hwX : w.heap.size ≤ X := by omega
  have hRX1 : R < X + 1 := by omega
  have hXX1 : X < X + 1 := by omega
  have hBX1 : B < X + 1 := by omega
  rw [hR] at zR ⊢
  have HRX := Lib.hid (And.intro hR hX)
  clear hR hX hXe2
  have G0 : w.grownBy wB (some B) := grown_of_below b0w
  have RB := h.belowS b0w
  refine (C1.out wB G0 RB).mono ?_
  rintro e w1 ⟨rfl, R1, g1⟩
  have X1 := zX.by hXB g1
  have Z1 := zR.by hRB g1
  have G1 := grown_trans G0 g1
  have x0 := X1.free
  have c0 := X1.cell 0
  have c1 := X1.cell 1
  have lx := X1.lt
  clear RB zX zR b0w g1 G0
  go_wp2_with fail
  have X2 : Blk (w1.setCell ⟨X, 1, none⟩ (.int .i64 (t + dt))) X #[.int .i64 0, .int .i64 (t + dt), .bool false, .slice none 0 0, .bool false, .slice none 0 0] := X1.set 1 (.int .i64 (t + dt))
  have g2 := grown_set w1 X 1 (.int .i64 (t + dt))
  have Z2 : Blk (w1.setCell ⟨X, 1, none⟩ (.int .i64 (t + dt))) R _ := Z1.other hRX
  have R2 : Rdr (w1.setCell ⟨X, 1, none⟩ (.int .i64 (t + dt))) B v ka fa := R1.other hBX
  generalize hW2 : w1.setCell ⟨X, 1, none⟩ (.int .i64 (t + dt)) = w2 at X2 g2 Z2 R2 ⊢
  have G2 := grown_new G1 hwX g2
  clear hW2 X1 Z1 R1 G1 g2 x0 c0 c1 lx
  refine (C2.out w2 G2 R2).mono ?_
  rintro e w3 ⟨rfl, R3, g3⟩
  have X3 := X2.by hXB g3
  have Z3 := Z2.by hRB g3
  have G3 := grown_trans G2 g3
  have x0 := X3.free
  have c0 := X3.cell 0
  have c1 := X3.cell 1
  have lx := X3.lt
  clear R2 X2 Z2 g3 G2
  go_wp2_with fail
  have X4 : Blk (w3.setCell ⟨X, 0, none⟩ (.int .i64 (o + dd))) X #[.int .i64 (o + dd), .int .i64 (t + dt), .bool false, .slice none 0 0, .bool false, .slice none 0 0] := X3.set 0 (.int .i64 (o + dd))
  have g4 := grown_set w3 X 0 (.int .i64 (o + dd))
  have Z4 : Blk (w3.setCell ⟨X, 0, none⟩ (.int .i64 (o + dd))) R _ := Z3.other hRX
  have R4 : Rdr (w3.setCell ⟨X, 0, none⟩ (.int .i64 (o + dd))) B v kb fb := R3.other hBX
  generalize hW4 : w3.setCell ⟨X, 0, none⟩ (.int .i64 (o + dd)) = w4 at X4 g4 Z4 R4 ⊢
  have G4 := grown_new G3 hwX g4
  clear hW4 X3 Z3 R3 G3 g4 x0 c0 c1 lx
  refine (C3.out w4 G4 R4).mono ?_
  rintro e w5 ⟨kv, rfl, own5, R5, g5⟩
  have l4 : X < w4.heap.size := X4.lt
  have own5' : Own w5 (X + 1) kv key := own5.base l4
  obtain ⟨a5, cap5, rfl, _, _, _⟩ := own5.ints
  have X5 := X4.by hXB g5
  have Z5 := Z4.by hRB g5
  have G5 := grown_trans G4 g5
  have x0 := X5.free
  have c2 := X5.cell 2
  have c3 := X5.cell 3
  have lx := X5.lt
  clear R4 X4 Z4 g5 G4 l4
  go_wp2_with fail
  have X6 : Blk ((w5.setCell ⟨X, 2, none⟩ (.bool hk1)).setCell ⟨X, 3, none⟩ (.slice a5 key.length cap5)) X #[.int .i64 (o + dd), .int .i64 (t + dt), .bool hk1, .slice a5 key.length cap5, .bool false, .slice none 0 0] := (X5.set 2 (.bool hk1)).set 3 (.slice a5 key.length cap5)
  have g6 := grown_trans (grown_set w5 X 2 (.bool hk1)) (grown_set _ X 3 (.slice a5 key.length cap5))
  have Z6 : Blk ((w5.setCell ⟨X, 2, none⟩ (.bool hk1)).setCell ⟨X, 3, none⟩ (.slice a5 key.length cap5)) R _ := (Z5.other hRX).other hRX
  have R6 : Rdr ((w5.setCell ⟨X, 2, none⟩ (.bool hk1)).setCell ⟨X, 3, none⟩ (.slice a5 key.length cap5)) B v kc fc := (R5.other hBX).other hBX
  generalize hW6 : (w5.setCell ⟨X, 2, none⟩ (.bool hk1)).setCell ⟨X, 3, none⟩ (.slice a5 key.length cap5) = w6 at X6 g6 Z6 R6 ⊢
  have G6 := grown_new G5 hwX g6
  have own6 := own5'.by hXX1 g6
  clear hW6 X5 Z5 R5 G5 g6 x0 c2 c3 lx own5 own5'
  refine (C4.out w6 G6 R6).mono ?_
  rintro e w7 ⟨vv, rfl, own7, R7, g7⟩
  have ap := own6.apart own7
  have l6 : X < w6.heap.size := X6.lt
  have own7' : Own w7 (X + 1) vv val := own7.base l6
  obtain ⟨a7, cap7, rfl, _, _, _⟩ := own7.ints
  have X7 := X6.by hXB g7
  have Z7 := Z6.by hRB g7
  have own67 := own6.by hBX1 g7
  have G7 := grown_trans G6 g7
  have x0 := X7.free
  have z0 := Z7.free
  have c0 : w7.cell? ⟨X, 0, none⟩ = some (.int .i64 (o + dd)) := X7.cell 0
  have c1 : w7.cell? ⟨X, 1, none⟩ = some (.int .i64 (t + dt)) := X7.cell 1
  have c2 : w7.cell? ⟨X, 2, none⟩ = some (.bool hk1) := X7.cell 2
  have c3 : w7.cell? ⟨X, 3, none⟩ = some (.slice a5 key.length cap5) := X7.cell 3
  have c4 : w7.cell? ⟨X, 4, none⟩ = some (.bool false) := X7.cell 4
  have c5 : w7.cell? ⟨X, 5, none⟩ = some (.slice none 0 0) := X7.cell 5
  have lx := X7.lt
  have lz := Z7.lt
  have d0 := Z7.cell 0
  have d1 := Z7.cell 1
  have d2 := Z7.cell 2
  have d3 := Z7.cell 3
  have d4 := Z7.cell 4
  have d5 := Z7.cell 5
  clear R6 X6 Z6 g7 G6 l6 own6 own7
  go_wp2_with fail
  have Z8 : Blk ((w7.setCell ⟨X, 4, none⟩ (.bool hv1)).setCell ⟨X, 5, none⟩ (.slice a7 val.length cap7)) R _ := (Z7.other hRX).other hRX
  have R8 : Rdr ((w7.setCell ⟨X, 4, none⟩ (.bool hv1)).setCell ⟨X, 5, none⟩ (.slice a7 val.length cap7)) B v kd fd := (R7.other hBX).other hBX
  have g8 := grown_trans (grown_set w7 X 4 (.bool hv1)) (grown_set _ X 5 (.slice a7 val.length cap7))
  generalize hW8 : (w7.setCell ⟨X, 4, none⟩ (.bool hv1)).setCell ⟨X, 5, none⟩ (.slice a7 val.length cap7) = w8 at Z8 R8 g8 ⊢
  have G8 := grown_new G7 hwX g8
  have own58 := own67.by hXX1 g8
  have own78 := own7'.by hXX1 g8
  have Z9 := Z8.six (.int .i64 (o + dd)) (.int .i64 (t + dt)) (.bool hk1) (.slice a5 key.length cap5) (.bool hv1) (.slice a7 val.length cap7)
  have g9 := six_grown w8 R (.int .i64 (o + dd)) (.int .i64 (t + dt)) (.bool hk1) (.slice a5 key.length cap5) (.bool hv1) (.slice a7 val.length cap7)
  have R9 : Rdr _ B v kd fd := Blk.by R8 hBR g9
  generalize hW9 : ((((((w8.setCell ⟨R, 0, none⟩ (.int .i64 (o + dd))).setCell ⟨R, 1, none⟩ (.int .i64 (t + dt))).setCell ⟨R, 2, none⟩ (.bool hk1)).setCell ⟨R, 3, none⟩ (.slice a5 key.length cap5)).setCell ⟨R, 4, none⟩ (.bool hv1)).setCell ⟨R, 5, none⟩ (.slice a7 val.length cap7)) = w9 at Z9 R9 g9 ⊢
  have G9 := grown_new G8 hwR g9
  obtain ⟨hR, hX⟩ := HRX.out
  have o1 := (own58.by hRX1 g9).base (show w.heap.size ≤ X + 1 by omega)
  have o2 := (own78.by hRX1 g9).base (show w.heap.size ≤ X + 1 by omega)
  clear c0 c1 c2 c3 c4 c5 d0 d1 d2 d3 d4 d5 x0 z0 lx lz hW8 hW9
  have c0 := Z9.cell 0
  have c1 := Z9.cell 1
  have c2 := Z9.cell 2
  have c3 := Z9.cell 3
  have c4 := Z9.cell 4
  have c5 := Z9.cell 5
  refine bodyPost_ret (v := .agg #[.int .i64 (o + dd), .int .i64 (t + dt), .bool hk1, .slice a5 key.length cap5, .bool hv1, .slice a7 val.length cap7]) (by simp [results, Try.results50, go_sem, c0, c1, c2, c3, c4, c5]) rfl ?_
  exact ⟨_, _, rfl, o1, o2, ap, R9, G9⟩
end Go.Proofs.Ytkkfnpcldogglaa
