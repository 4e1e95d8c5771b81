/- Chapter 21: producers and a batch are drawn. -/
import Derived.Test.YtlppnhkgadcgdaaD12
import Derived.Test.YtlppnhkgadcgdaaD5b
import Derived.Test.YtlppnhkgadcgdaaR22
import Derived.Test.YtlppnhkgadcgdaaI3
import Derived.Deep.Cut
import Derived.Deep.CutRange
namespace Go.Proofs.Ytlppnhkgadcgdaa
open Go.ChangeShapes Go.WideShapes Go.ChangeAt Go.RowKit
set_option linter.unusedVariables false

/-- where the parts of the draw lie -/
def Pl (s B Z X lo1 h1 lo2 h2 : Nat) : Prop := B < Z ∧ Z < lo1 ∧ Z < lo2 ∧ h1 ≤ X ∧ h2 ≤ X ∧ s ≤ Z ∧ Z < X
/-- the state of the draw: the box of the batch, the box of the result, the producers, the records, the reader -/
def NumSt (w W : World) (B c Z X lo1 h1 lo2 h2 : Nat) (u : Value) (ts : List Trm) (b : Bat) (rv : Value) : Prop :=
  Blk W X #[.bool b.packed, .bool b.mark, .int .i64 b.prod, .int .i64 b.epoch, .int .i64 b.seq, rv] ∧ Blk W Z #[.bool false, .bool false, .int .i64 0, .int .i64 0, .int .i64 0, .slice none 0 0] ∧ TsIn W lo1 h1 u ts ∧ RecsIn W lo2 h2 rv b.recs ∧ Rd W B c ∧ w.grownBy W (some B)
theorem NumSt.pick {w W W' : World} {B c d Z X lo1 h1 lo2 h2 : Nat} {u rv : Value} {ts : List Trm} {b : Bat} (h : NumSt w W B c Z X lo1 h1 lo2 h2 u ts b rv) (p : Pl w.heap.size B Z X lo1 h1 lo2 h2) (hR : Rd W' B d) (hg : W.grownBy W' (some B)) :
    NumSt w W' B d Z X lo1 h1 lo2 h2 u ts b rv := by
  obtain ⟨a1, a2, a3, a4, a5, a6⟩ := h
  obtain ⟨p1, p2, p3, p4, p5, p6, p7⟩ := p
  exact ⟨a1.by (by omega) hg, a2.by (by omega) hg, a3.by hg (.inl (by omega)), a4.by hg (.inl (by omega)), hR, grown_trans a6 hg⟩
theorem NumSt.set {w W W' : World} {B c Z X lo1 h1 lo2 h2 : Nat} {u rv : Value} {ts : List Trm} {b b' : Bat} (h : NumSt w W B c Z X lo1 h1 lo2 h2 u ts b rv) (p : Pl w.heap.size B Z X lo1 h1 lo2 h2) (hr : b'.recs = b.recs)
    (hx : Blk W' X #[.bool b'.packed, .bool b'.mark, .int .i64 b'.prod, .int .i64 b'.epoch, .int .i64 b'.seq, rv]) (hg : W.grownBy W' (some X)) : NumSt w W' B c Z X lo1 h1 lo2 h2 u ts b' rv := by
  obtain ⟨a1, a2, a3, a4, a5, a6⟩ := h
  obtain ⟨p1, p2, p3, p4, p5, p6, p7⟩ := p
  exact ⟨hx, a2.by (by omega) hg, a3.by hg (.inr (by omega)), by rw [hr]; exact a4.by hg (.inr (by omega)), a5.set (by omega) hg, grown_new a6 (by omega) hg⟩
theorem NumSt.below {w W W' : World} {B c Z X lo1 h1 lo2 h2 : Nat} {u rv : Value} {ts : List Trm} {b : Bat} (h : NumSt w W B c Z X lo1 h1 lo2 h2 u ts b rv) (hb : Below W.heap.size W W') : NumSt w W' B c Z X lo1 h1 lo2 h2 u ts b rv := by
  obtain ⟨a1, a2, a3, a4, a5, a6⟩ := h
  exact ⟨a1.belowS hb, a2.belowS hb, a3.below hb, a4.below hb, a5.below hb, grown_trans a6 (grown_of_below hb)⟩
theorem NumSt.more {w W : World} {B c d Z X lo1 h1 lo2 h2 : Nat} {u rv : Value} {ts : List Trm} {b : Bat} (h : NumSt w W B c Z X lo1 h1 lo2 h2 u ts b rv) (hd : c ≤ d) : NumSt w W B d Z X lo1 h1 lo2 h2 u ts b rv :=
  ⟨h.1, h.2.1, h.2.2.1, h.2.2.2.1, h.2.2.2.2.1.more hd, h.2.2.2.2.2⟩
/-- what is drawn: producers and a batch -/
def PairRes (w : World) (B c : Nat) (e : Ending) (w' : World) : Prop :=
  ∃ (u : Value) (ts : List Trm) (b : Bat) (rv : Value) (lo1 h1 lo2 h2 : Nat), e = .returned (.tuple #[u, .agg #[.bool b.packed, .bool b.mark, .int .i64 b.prod, .int .i64 b.epoch, .int .i64 b.seq, rv]]) ∧ TsIn w' lo1 h1 u ts ∧ RecsIn w' lo2 h2 rv b.recs ∧ ShortB ts ∧ (w.heap.size < lo1 ∧ w.heap.size < lo2) ∧ Rd w' B (c + 800) ∧ w.grownBy w' (some B)
/-- what the operations of a region yield that draws a number anew -/
def prNum (P X B f : Nat) (z : Int) (n : Nat) : Nat → World → Value → Prop
  | 0, _, v => v = .pointer (some ⟨P, f, none⟩)
  | 1, _, v => v = .int .i64 z
  | 2, _, v => v = .pointer (some ⟨B, 0, none⟩)
  | 3, _, v => ∃ k : Nat, k < n ∧ v = .int .i64 (k : Int)
  | 4, _, v => ∃ y : Int, (-5000 ≤ y ∧ y ≤ 5000) ∧ v = .int .i64 y
  | 5, _, v => ∃ y : Int, (-5000 ≤ y ∧ y ≤ 5000) ∧ v = .int .i64 y
  | 6, _, v => ∃ y : Int, v = .int .i64 y
  | _, _, _ => True
theorem prNum_kept {P X B f n : Nat} {z : Int} (i : Nat) (w w' : World) (v : Value) (_ : True) (h : prNum P X B f z n i w v) : prNum P X B f z n i w' v := by
  match i with
  | 0 | 1 | 2 | 3 | 4 | 5 | 6 => exact h
  | n + 7 => trivial
set_option maxRecDepth 100000 in
set_option maxHeartbeats 1000000 in
theorem spec_l92Numbered (B c : Nat) (w : World) (h : Rd w B c) (hc : c ≤ 600000000) : Calls Try.prog 48 #[.pointer (some ⟨B, 0, none⟩)] w (PairRes w B c) := by
  have hB := h.lt
  have xZ := Blk.made w #[.bool false, .bool false, .int .i64 0, .int .i64 0, .int .i64 0, .slice none 0 0] 33
  have bZ := alloc_below' w (.cells #[.bool false, .bool false, .int .i64 0, .int .i64 0, .int .i64 0, .slice none 0 0] 33)
  have hRz := h.below bZ
  have gz := grown_of_below (row := some B) bZ
  go_enter Try.func48, Try.ntmps48
  go_wp2_with fail
  generalize hwz : w.alloc (.cells #[.bool false, .bool false, .int .i64 0, .int .i64 0, .int .i64 0, .slice none 0 0] 33) = wz at xZ bZ hRz gz ⊢
  obtain ⟨Z, hZ⟩ : ∃ Z, w.heap.size = Z := ⟨_, rfl⟩
  rw [hZ] at xZ hB ⊢
  have HZ := Lib.hid hZ
  have lZ := xZ.lt
  clear hwz hZ bZ h
  (with_reducible refine (spec_l92Producers B c wz hRz (by omega)).mono ?_)
  rintro e w1 ⟨u, ts, rfl, own1, hSh, hR1, g1⟩
  have x1 := xZ.by (by omega) g1
  have G1 := grown_trans gz g1
  obtain ⟨lo1, hlo1, t1⟩ : ∃ lo1, Z < lo1 ∧ TsIn w1 lo1 w1.heap.size u ts := ⟨_, lZ, own1.within⟩
  have hH := Lib.hid hSh.2
  have hl9 := hSh.1
  have s1 := g1.size
  clear xZ hRz gz g1 own1 hSh
  go_wp2_with fail
  (with_reducible refine (spec_pick B _ 40 w1 hR1 (by omega) (by omega) (by omega)).mono ?_)
  rintro e w2 ⟨k0, rfl, hk0, hR2, g2⟩
  have x2 := x1.by (by omega) g2
  have G2 := grown_trans G1 g2
  have t2 := t1.by g2 (.inl (by omega))
  have s2 := g2.size
  have k00 : (0 : Int) ≤ (k0 : Int) := by omega
  have k01 : (k0 : Int) ≤ 1000 := by omega
  clear x1 G1 g2 hR1 t1 hk0
  go_wp2_with fail
  (with_reducible refine (spec_l91BatchP B _ (k0 : Int) w2 hR2 (by omega) k00 k01).mono ?_)
  rintro e w3 ⟨b, rv, rfl, own3, ⟨hl1, hl8⟩, hR3, g3⟩
  have x3 := x2.by (by omega) g3
  have G3 := grown_trans G2 g3
  have t3 := t2.by g3 (.inl (by omega))
  obtain ⟨lo2, hlo2, r3⟩ : ∃ lo2, Z < lo2 ∧ RecsIn w3 lo2 w3.heap.size rv b.recs := ⟨_, by omega, own3.within⟩
  obtain ⟨h1, hh1⟩ : ∃ h1, w1.heap.size = h1 := ⟨_, rfl⟩
  have s3 := g3.size
  rw [hh1] at t3 s2
  obtain ⟨packed, mark, prod, epoch, seq, recs⟩ := b
  obtain ⟨ra, rc, hrv, -, -, -⟩ := own3.recs
  subst hrv
  obtain ⟨ua, uc, hu, -, huc, -⟩ := t3.ts
  subst hu
  unfold maxLen at huc
  simp only at hl1 hl8 r3 ⊢
  have bX := alloc_below' w3 (.cells #[.bool packed, .bool mark, .int .i64 prod, .int .i64 epoch, .int .i64 seq, .slice ra recs.length rc] 33)
  have st : NumSt w (w3.alloc (.cells #[.bool packed, .bool mark, .int .i64 prod, .int .i64 epoch, .int .i64 seq, .slice ra recs.length rc] 33)) B (c + 40 + 1 + 700) Z w3.heap.size lo1 h1 lo2 w3.heap.size (.slice ua ts.length uc) ts ⟨packed, mark, prod, epoch, seq, recs⟩ (.slice ra recs.length rc) :=
    ⟨Blk.made w3 _ _, x3.belowS bX, t3.below bX, r3.below bX, hR3.below bX, grown_trans G3 (grown_of_below bX)⟩
  have pl : Pl w.heap.size B Z w3.heap.size lo1 h1 lo2 w3.heap.size := ⟨by omega, hlo1, hlo2, by omega, Nat.le_refl _, by have := HZ.out; omega, x3.lt⟩
  clear x2 x3 G2 G3 t2 t3 r3 own3 hR2 hR3 g3 bX k00 k01
  go_upto_region 3 with (fail)
  generalize hw4 : w3.alloc (.cells #[.bool packed, .bool mark, .int .i64 prod, .int .i64 epoch, .int .i64 seq, .slice ra recs.length rc] 33) = w4 at st ⊢
  obtain ⟨X, hX⟩ : ∃ X, w3.heap.size = X := ⟨_, rfl⟩
  rw [hX] at st pl ⊢
  clear hw4 hX s1 s2 s3 hh1 lZ hl1
  have hRx := st.2.2.2.2.1
  go_cut [20] from 13 to 19 (fun s20 wc => ∃ g : Bool, s20 = .bool g ∧ (g = true → 0 < ts.length) ∧ NumSt w wc B (c + 750) Z X lo1 h1 lo2 X (.slice ua ts.length uc) ts ⟨packed, mark, prod, epoch, seq, recs⟩ (.slice ra recs.length rc))
  case first =>
    by_cases h0 : 0 < ts.length
    · have d0 : decide ((0 : Int) < (ts.length : Int)) = true := decide_eq_true (by omega)
      have d0n : decide (0 < ts.length) = true := decide_eq_true h0
      have H0 := Lib.hid h0
      clear h0
      go_wp2_with fail
      (with_reducible refine (spec_pick B _ 4 w4 hRx (by omega) (by omega) (by omega)).mono ?_)
      rintro e w5 ⟨k5, rfl, hk5, hR5, g5⟩
      have st5 := (st.pick pl hR5 g5).more (show c + 40 + 1 + 700 + 1 ≤ c + 750 by omega)
      go_wp2_with fail
      go_meet
      case rel => exact ⟨_, rfl, fun _ => H0.out, st5⟩
    · have d0 : decide ((0 : Int) < (ts.length : Int)) = false := decide_eq_false (by omega)
      have d0n : decide (0 < ts.length) = false := decide_eq_false h0
      go_wp2_with fail
      go_meet
      case rel => exact ⟨false, rfl, (fun q => by cases q), st.more (by omega)⟩
  case rest =>
    clear st hRx
    obtain ⟨gb, rfl, hpos, st⟩ := hcut
    have HP := Lib.hid hpos
    clear hpos
    go_upto_if 20 with (fail)
    go_cut [6] from 21 to 61 (fun s6 wc => ∃ (p2 e2 q2 : Int), NumSt w wc B (c + 780) Z X lo1 h1 lo2 X (.slice ua ts.length uc) ts ⟨packed, mark, p2, e2, q2, recs⟩ (.slice ra recs.length rc))
    case first =>
      cases gb with
      | false =>
        go_wp2_with fail
        go_meet
        case rel => exact ⟨_, _, _, st.more (by omega)⟩
      | true =>
        have hp := HP.out rfl
        have hR := st.2.2.2.2.1
        clear HP
        go_wp2_with fail
        (with_reducible refine (spec_pick B _ (ts.length : Int) wc hR (by omega) (by omega) (by omega)).mono ?_)
        rintro e w5 ⟨k, rfl, hk, hR5, g5⟩
        have st5 := st.pick pl hR5 g5
        have hkl : k < ts.length := by omega
        clear st hR hR5 g5 hk
        have i0 : (0 : Int) ≤ (k : Int) := by omega
        have i1 : (k : Int) < (ts.length : Int) := by omega
        obtain ⟨b1, off, cp, e, -, -, -⟩ := st5.2.2.1.ts.form (by omega)
        simp only [Value.slice.injEq, true_and] at e
        obtain ⟨rfl, rfl⟩ := e
        obtain ⟨q0, q1, q2⟩ := st5.2.2.1.ts.cells k hkl
        have hsm := hH.out k hkl
        obtain ⟨t, ht⟩ : ∃ t, tAt ts k = t := ⟨_, rfl⟩
        rw [ht] at q0 q1 q2 hsm
        obtain ⟨x, y, z⟩ := t
        obtain ⟨⟨m0, m1⟩, ⟨m2, m3⟩, m4, m5⟩ := hsm
        simp only at q0 q1 q2 m0 m1 m2 m3 m4 m5
        clear ht
        have bP := alloc_below' w5 (.cells #[.int .i64 x, .int .i64 y, .int .i64 z] 42)
        have xP := Blk.made w5 #[.int .i64 x, .int .i64 y, .int .i64 z] 42
        have st6 := st5.below bP
        have hXP := st5.1.lt
        have hBP := st5.2.2.2.2.1.lt
        clear st5 bP
        go_upto_region 5 with (fail)
        generalize w5.alloc (.cells #[.int .i64 x, .int .i64 y, .int .i64 z] 42) = w6 at xP st6 ⊢
        obtain ⟨P, hP⟩ : ∃ P, w5.heap.size = P := ⟨_, rfl⟩
        rw [hP] at xP hXP hBP ⊢
        clear hP q0 q1 q2
        have s7 : NumSt w (w6.setCell ⟨X, 2, none⟩ (.int .i64 x)) B _ Z X lo1 h1 lo2 X (.slice (some ⟨b1, off, none⟩) ts.length uc) ts ⟨packed, mark, x, epoch, seq, recs⟩ (.slice ra recs.length rc) := st6.set pl rfl (st6.1.set 2 (.int .i64 x)) (set_grown _ _ _ _)
        have s8 : NumSt w ((w6.setCell ⟨X, 2, none⟩ (.int .i64 x)).setCell ⟨X, 3, none⟩ (.int .i64 y)) B _ Z X lo1 h1 lo2 X (.slice (some ⟨b1, off, none⟩) ts.length uc) ts ⟨packed, mark, x, y, seq, recs⟩ (.slice ra recs.length rc) := s7.set pl rfl (s7.1.set 3 (.int .i64 y)) (set_grown _ _ _ _)
        have s9 : NumSt w (((w6.setCell ⟨X, 2, none⟩ (.int .i64 x)).setCell ⟨X, 3, none⟩ (.int .i64 y)).setCell ⟨X, 4, none⟩ (.int .i64 z)) B _ Z X lo1 h1 lo2 X (.slice (some ⟨b1, off, none⟩) ts.length uc) ts ⟨packed, mark, x, y, z, recs⟩ (.slice ra recs.length rc) := s8.set pl rfl (s8.1.set 4 (.int .i64 z)) (set_grown _ _ _ _)
        have xP9 := ((xP.other (i := 2) (u := .int .i64 x) (show P ≠ X by omega)).other (i := 3) (u := .int .i64 y) (show P ≠ X by omega)).other (i := 4) (u := .int .i64 z) (show P ≠ X by omega)
        obtain ⟨c0, c1, c2, c3, c4, c5⟩ := st6.1.sixC
        have f2 := st6.1.free 2
        have f3 := st6.1.free 3
        have f4 := st6.1.free 4
        have p0 := xP.cell 0
        have p1 := xP.cell 1
        have p2 := xP.cell 2
        have hPX : P ≠ X := by omega
        clear s7 s8 xP
        go_upto_region 8 with (fail)
        generalize (((w6.setCell ⟨X, 2, none⟩ (.int .i64 x)).setCell ⟨X, 3, none⟩ (.int .i64 y)).setCell ⟨X, 4, none⟩ (.int .i64 z)) = w9 at s9 xP9 ⊢
        clear st6 c0 c1 c2 c3 c4 c5 f2 f3 f4 p0 p1 p2
        have hR := s9.2.2.2.2.1
        go_wp2_with fail
        (with_reducible refine (spec_pick B _ 6 w9 hR (by omega) (by omega) (by omega)).mono ?_)
        rintro e w10 ⟨k6, rfl, hk6, hR10, g10⟩
        have s10 := s9.pick pl hR10 g10
        have xP10 := xP9.by (by omega) g10
        clear s9 xP9 hR hR10 g10 hk6
        by_cases z0 : k6 = 0
        · have e0 : ((k6 : Int) == 0) = true := by rw [beq_iff_eq]; omega
          clear z0
          go_upto_region 10 with (fail)
          have bdr : Below w10.heap.size w10 w10.drew := below_drewN (Below.refl _ _) 1
          have sd := s10.below bdr
          have xd := xP10.belowS bdr
          have hRd := sd.2.2.2.2.1
          have S1 : w10.drew.cell? ⟨P, 2, none⟩ = some (.int .i64 z) := xd.cell 2
          clear s10 xP10
          go_region_held3 (fun W => W.cell? ⟨P, 2, none⟩ = some (.int .i64 z)) (first | with_reducible exact S1 | exact S2 | exact S3.out _ | go_keep)
            (first | (go_at_call 58; ((with_reducible refine (spec_pick B _ 5 _ hRd (by omega) (by omega) (by omega)).mono ?_); rintro e w11 ⟨k7, rfl, hk7, hR11, g11⟩; have s11 := sd.pick pl hR11 g11; have x11 := xd.by (by omega) g11; have S2 : w11.cell? ⟨P, 2, none⟩ = some (.int .i64 z) := x11.cell 2; have S3 : Hid (∀ u, (w11.setCell ⟨X, 4, none⟩ u).cell? ⟨P, 2, none⟩ = some (.int .i64 z)) := Lib.hid (fun u => (x11.other (i := 4) (u := u) hPX).cell 2); have q4 := s11.1.cell 4; have f4 := s11.1.free 4)))
          have sE : ∀ vv : Int, NumSt w (w11.setCell ⟨X, 4, none⟩ (.int .i64 vv)) B _ Z X lo1 h1 lo2 X (.slice (some ⟨b1, off, none⟩) ts.length uc) ts ⟨packed, mark, x, y, vv, recs⟩ (.slice ra recs.length rc) := fun vv => s11.set pl rfl (s11.1.set 4 (.int .i64 vv)) (set_grown _ _ _ _)
          clear S1 S2 S3 q4 f4 x11 xd sd s11 hRd
          obtain ⟨vv, hvv⟩ : ∃ vv : Int, (if IntKind.i64.wrap (IntKind.i64.wrap (z + (k7 : Int)) - 2) < 0 then 0 else IntKind.i64.wrap (IntKind.i64.wrap (z + (k7 : Int)) - 2)) = vv := ⟨_, rfl⟩
          rw [hvv]
          have sF := sE vv
          clear sE hvv
          go_wp2_with fail
          go_meet
          case rel => exact ⟨_, _, _, sF.more (by omega)⟩
        · have e0 : ((k6 : Int) == 0) = false := by rw [beq_eq_false_iff_ne]; omega
          by_cases z1 : k6 = 1
          · have e1 : ((k6 : Int) == 1) = true := by rw [beq_iff_eq]; omega
            clear z0 z1
            go_upto_region 12 with (fail)
            have bdr : Below w10.heap.size w10 w10.drew := below_drewN (Below.refl _ _) 1
            have sd := s10.below bdr
            have xd := xP10.belowS bdr
            have hRd := sd.2.2.2.2.1
            have S1 : w10.drew.cell? ⟨P, 1, none⟩ = some (.int .i64 y) := xd.cell 1
            clear s10 xP10
            go_region_held3 (fun W => W.cell? ⟨P, 1, none⟩ = some (.int .i64 y)) (first | with_reducible exact S1 | exact S2 | exact S3.out _ | go_keep)
              (first | (go_at_call 58; ((with_reducible refine (spec_pick B _ 3 _ hRd (by omega) (by omega) (by omega)).mono ?_); rintro e w11 ⟨k7, rfl, hk7, hR11, g11⟩; have s11 := sd.pick pl hR11 g11; have x11 := xd.by (by omega) g11; have S2 : w11.cell? ⟨P, 1, none⟩ = some (.int .i64 y) := x11.cell 1; have S3 : Hid (∀ u, (w11.setCell ⟨X, 3, none⟩ u).cell? ⟨P, 1, none⟩ = some (.int .i64 y)) := Lib.hid (fun u => (x11.other (i := 3) (u := u) hPX).cell 1); have q4 := s11.1.cell 3; have f4 := s11.1.free 3)))
            have sE : ∀ vv : Int, NumSt w (w11.setCell ⟨X, 3, none⟩ (.int .i64 vv)) B _ Z X lo1 h1 lo2 X (.slice (some ⟨b1, off, none⟩) ts.length uc) ts ⟨packed, mark, x, vv, z, recs⟩ (.slice ra recs.length rc) := fun vv => s11.set pl rfl (s11.1.set 3 (.int .i64 vv)) (set_grown _ _ _ _)
            clear S1 S2 S3 q4 f4 x11 xd sd s11 hRd
            obtain ⟨vv, hvv⟩ : ∃ vv : Int, (if IntKind.i64.wrap (IntKind.i64.wrap (y + (k7 : Int)) - 1) < 0 then 0 else IntKind.i64.wrap (IntKind.i64.wrap (y + (k7 : Int)) - 1)) = vv := ⟨_, rfl⟩
            rw [hvv]
            have sF := sE vv
            generalize w11.setCell ⟨X, 3, none⟩ (.int .i64 vv) = w12 at sF ⊢
            clear sE hvv
            have hR := sF.2.2.2.2.1
            go_wp2_with fail
            (with_reducible refine (spec_pick B _ 2 w12 hR (by omega) (by omega) (by omega)).mono ?_)
            rintro e w13 ⟨k8, rfl, hk8, hR13, g13⟩
            have s13 := sF.pick pl hR13 g13
            have s14 : NumSt w (w13.setCell ⟨X, 4, none⟩ (.int .i64 (k8 : Int))) B _ Z X lo1 h1 lo2 X (.slice (some ⟨b1, off, none⟩) ts.length uc) ts ⟨packed, mark, x, vv, (k8 : Int), recs⟩ (.slice ra recs.length rc) := s13.set pl rfl (s13.1.set 4 (.int .i64 (k8 : Int))) (set_grown _ _ _ _)
            have q4 := s13.1.cell 4
            have f4 := s13.1.free 4
            clear sF hR hR13 g13 s13
            go_wp2_with fail
            go_meet
            case rel => exact ⟨_, _, _, s14.more (by omega)⟩
          · have e1 : ((k6 : Int) == 1) = false := by rw [beq_eq_false_iff_ne]; omega
            clear z0 z1 xP10
            go_wp2_with fail
            go_meet
            case rel => exact ⟨_, _, _, s10.more (by omega)⟩
    case rest =>
      clear st HP
      obtain ⟨p2, e2, q2, st⟩ := hcut
      obtain ⟨a1, a2, a3, a4, a5, a6⟩ := st
      simp only at a1 a4
      obtain ⟨c0, c1, c2, c3, c4, c5⟩ := a1.sixC
      obtain ⟨d0, d1, d2, d3, d4, d5⟩ := a2.sixC
      have fz := a2.free
      have zz := a2.six (.bool packed) (.bool mark) (.int .i64 p2) (.int .i64 e2) (.int .i64 q2) (.slice ra recs.length rc)
      have gZ := six_grown wc Z (.bool packed) (.bool mark) (.int .i64 p2) (.int .i64 e2) (.int .i64 q2) (.slice ra recs.length rc)
      obtain ⟨l1, l2, l3, l4, l5, l6, l7⟩ := pl
      have t9 := a3.by gZ (.inl l2)
      have r9 := a4.by gZ (.inl l3)
      have R9 := a5.set l1 gZ
      have G9 := grown_new a6 l6 gZ
      have hwZ := HZ.out
      clear a1 a2 a3 a4 a5 a6 gZ l1 l2 l3 l4 l5 l6 l7
      go_upto_region 14 with (fail)
      go_region
      have bdr : Below ((((((wc.setCell ⟨Z, 0, none⟩ (.bool packed)).setCell ⟨Z, 1, none⟩ (.bool mark)).setCell ⟨Z, 2, none⟩ (.int .i64 p2)).setCell ⟨Z, 3, none⟩ (.int .i64 e2)).setCell ⟨Z, 4, none⟩ (.int .i64 q2)).setCell ⟨Z, 5, none⟩ (.slice ra recs.length rc)).heap.size ((((((wc.setCell ⟨Z, 0, none⟩ (.bool packed)).setCell ⟨Z, 1, none⟩ (.bool mark)).setCell ⟨Z, 2, none⟩ (.int .i64 p2)).setCell ⟨Z, 3, none⟩ (.int .i64 e2)).setCell ⟨Z, 4, none⟩ (.int .i64 q2)).setCell ⟨Z, 5, none⟩ (.slice ra recs.length rc)) ((((((wc.setCell ⟨Z, 0, none⟩ (.bool packed)).setCell ⟨Z, 1, none⟩ (.bool mark)).setCell ⟨Z, 2, none⟩ (.int .i64 p2)).setCell ⟨Z, 3, none⟩ (.int .i64 e2)).setCell ⟨Z, 4, none⟩ (.int .i64 q2)).setCell ⟨Z, 5, none⟩ (.slice ra recs.length rc)).drew := below_drewN (Below.refl _ _) 1
      have zz1 := zz.belowS bdr
      have t10 := t9.below bdr
      have r10 := r9.below bdr
      have R10 := R9.below bdr
      have G10 := grown_trans G9 (grown_of_below (row := some B) bdr)
      clear zz t9 r9 R9 G9 c0 c1 c2 c3 c4 c5 d0 d1 d2 d3 d4 d5 fz bdr
      go_wp2_with fail
      generalize ((((((wc.setCell ⟨Z, 0, none⟩ (.bool packed)).setCell ⟨Z, 1, none⟩ (.bool mark)).setCell ⟨Z, 2, none⟩ (.int .i64 p2)).setCell ⟨Z, 3, none⟩ (.int .i64 e2)).setCell ⟨Z, 4, none⟩ (.int .i64 q2)).setCell ⟨Z, 5, none⟩ (.slice ra recs.length rc)).drew = WW at zz1 t10 r10 R10 G10 ⊢
      obtain ⟨c0, c1, c2, c3, c4, c5⟩ := zz1.sixC
      refine bodyPost_ret (v := .tuple #[.slice ua ts.length uc, .agg #[.bool packed, .bool mark, .int .i64 p2, .int .i64 e2, .int .i64 q2, .slice ra recs.length rc]]) (by simp [results, Try.results48, go_sem, c0, c1, c2, c3, c4, c5]) rfl ?_
      exact ⟨_, ts, ⟨packed, mark, p2, e2, q2, recs⟩, _, _, _, _, _, rfl, t10, r10, ⟨hl9, hH.out⟩, ⟨by omega, by omega⟩, R10.more (by omega), G10⟩
end Go.Proofs.Ytlppnhkgadcgdaa
