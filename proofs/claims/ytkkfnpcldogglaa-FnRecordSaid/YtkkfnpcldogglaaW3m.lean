/- Chapter 3: the program reads a record. -/
import Derived.Test.YtkkfnpcldogglaaW3l
namespace Go.Proofs.Ytkkfnpcldogglaa
open Go.ChangeShapes Go.WideShapes Go.ChangeAt Go.RowKit
set_option linter.unusedVariables false

theorem fromR_all {xs : List Int} (hok : okBs xs = true) {k o t : Int} (hb : baseOk o t = true) : rdRecI xs k o t = fromR xs k o t := by
  by_cases hk : k < 0
  · rw [rdRecI_neg hk]
    have e : numR xs k false = (0, k, true) := by unfold numR; rw [if_neg (by simp), rdV_neg hk]; rfl
    unfold fromR
    simp only [e, takeR_f]
    rw [if_pos trivial]
  · obtain ⟨k, rfl⟩ := Int.eq_ofNat_of_zero_le (Int.not_lt.1 hk)
    rw [rdRecI_at hok hb, fromR_eq hok hb]

/-- the cells of a block of six, and of three, as the walk reads them -/
theorem Blk.six? {w : World} {B : Nat} {v0 v1 v2 v3 v4 v5 : Value} (h : Blk w B #[v0, v1, v2, v3, v4, v5]) :
    w.cell? ⟨B, 0, none⟩ = some v0 ∧ w.cell? ⟨B, 1, none⟩ = some v1 ∧ w.cell? ⟨B, 2, none⟩ = some v2 ∧ w.cell? ⟨B, 3, none⟩ = some v3 ∧ w.cell? ⟨B, 4, none⟩ = some v4 ∧ w.cell? ⟨B, 5, none⟩ = some v5 :=
  ⟨h.cell 0, h.cell 1, h.cell 2, h.cell 3, h.cell 4, h.cell 5⟩
theorem Rdr.three? {w : World} {B : Nat} {v : Value} {k : Int} {f : Bool} (h : Rdr w B v k f) : w.cell? ⟨B, 0, none⟩ = some v ∧ w.cell? ⟨B, 1, none⟩ = some (.int .i64 k) ∧ w.cell? ⟨B, 2, none⟩ = some (.bool f) :=
  ⟨Blk.cell h 0, Blk.cell h 1, Blk.cell h 2⟩

theorem bel_of_grown {w W : World} (h : w.grownBy W none) : Below w.heap.size w W := ⟨h.os, h.tape, h.output, h.size, fun k hk => h.block k hk (by simp)⟩

set_option maxHeartbeats 4000000 in
theorem impl_RecordFrom (v : Value) (xs : List Int) (k o t : Int) (w : World) (h : Ints w v xs) (hk : I64 k) :
    Calls Try.prog 19 #[v, .int .i64 k, .int .i64 o, .int .i64 t] w (RecOut w (rdRecI xs k o t)) := by
  have C1 : Hid (∀ wn, Below w.heap.size w wn → Calls Try.prog 47 #[v] wn fun e w' => e = .returned (.bool (okBs xs)) ∧ wn = w') := fun wn hw => impl_areBytes v xs wn (h.below hw)
  have C2 : Hid (∀ wn, Calls Try.prog 42 #[.int .i64 o, .int .i64 t] wn fun e w' => e = .returned (.bool (baseOk o t)) ∧ wn = w') := fun wn => impl_isBase o t wn
  cases hok : okBs xs with
  | false =>
    rw [rdRecI_bad hok]
    rw [hok] at C1
    clear hok
    go_enter Try.func19, Try.ntmps19
    go_wp2_with fail
    refine (C1.out _ (alloc_below' _ _)).mono ?_
    rintro e w1 ⟨rfl, rfl⟩
    go_wp2_with fail
    go_returns
    exact RecOut.none rfl (alloc_below' _ _)
  | true =>
    cases hb : baseOk o t with
    | false =>
      rw [rdRecI_base hb]
      rw [hok] at C1
      rw [hb] at C2
      clear hok hb
      go_enter Try.func19, Try.ntmps19
      go_wp2_with fail
      refine (C1.out _ (alloc_below' _ _)).mono ?_
      rintro e w1 ⟨rfl, rfl⟩
      go_wp2_with fail
      refine (C2.out _).mono ?_
      rintro e w1 ⟨rfl, rfl⟩
      go_wp2_with fail
      go_returns
      exact RecOut.none rfl (alloc_below' _ _)
    | true =>
      rw [fromR_all hok hb]
      rw [hok] at C1
      rw [hb] at C2
      have hlen : (xs.length : Int) ≤ 9223372036854775807 := by
        obtain ⟨a, cap, _, hl, hm, _⟩ := h
        unfold maxLen at hm
        omega
      obtain ⟨k0, k1⟩ := hk
      have HG : fromR xs k o t = fromR xs k o t := rfl
      conv at HG => rhs; unfold fromR
      have D1 : Hid (∀ (W : World) B, (∀ V : World, W.grownBy V (some B) → Ints V v xs) → Rdr W B v k false → Calls Try.prog 49 #[.pointer (some ⟨B, 0, none⟩)] W (RNumRes W B v (numR xs k false))) := fun W B hV hr => reader_number B v xs k false W hr (hV W (World.grownBy.refl _ _)) ⟨k0, k1⟩
      obtain ⟨a0, a1, a2, a3⟩ := numR_range hok k false
      obtain ⟨⟨n, ka, fa⟩, ga⟩ : ∃ g, numR xs k false = g := ⟨_, rfl⟩
      rw [ga] at D1 HG a0 a1 a2 a3
      simp only at a0 a1 a2 a3 HG
      have D2 : Hid (∀ (W : World) B, (∀ V : World, W.grownBy V (some B) → Ints V v xs) → Rdr W B v ka fa → Calls Try.prog 48 #[.pointer (some ⟨B, 0, none⟩), .int .i64 n] W (RTakeRes W B v xs (takeR xs ka fa n))) := fun W B hV hr => reader_take B v xs ka n fa W hr (hV W (World.grownBy.refl _ _)) ⟨by omega, by omega⟩ ⟨by omega, by omega⟩
      have hbs : okBs (takeR xs ka fa n).1 = true := by
        unfold takeR
        split
        · rfl
        split
        · rfl
        split
        · rfl
        split
        · rfl
        · exact okBs_take (okBs_drop hok _) _
      have hyl := takeR_len xs ka fa n
      obtain ⟨⟨bs, kb, fb⟩, gb⟩ : ∃ g, takeR xs ka fa n = g := ⟨_, rfl⟩
      rw [gb] at D2 HG hbs hyl
      simp only at HG hbs hyl
      have D3 : Hid (∀ (W : World) B u, (∀ V : World, W.grownBy V (some B) → Ints V u bs) → Rdr W B u 0 false → Calls Try.prog 50 #[.pointer (some ⟨B, 0, none⟩), .int .i64 o, .int .i64 t] W (RRecRes W B u (bodyR bs 0 false o t))) := fun W B u hV hr => reader_record B u bs 0 false o t W hr hV hbs ⟨by omega, by omega⟩ hb
      have hl2 : bs.length ≤ 1000000 := Nat.le_trans hyl (by omega)
      obtain ⟨⟨⟨off, time, hk1, key, hv1, val⟩, kd, fd⟩, gc⟩ : ∃ g, bodyR bs 0 false o t = g := ⟨_, rfl⟩
      rw [gc] at D3 HG
      simp only at HG
      have D4 : Hid (∀ (W : World) kv vv, Ints W kv key → Ints W vv val → Calls Try.prog 24 #[.agg #[.int .i64 off, .int .i64 time, .bool hk1, kv, .bool hv1, vv]] W (SaysB (recOk ⟨off, time, hk1, key, hv1, val⟩) W)) := fun W kv vv ik iv => impl_RecordValid _ ⟨off, time, hk1, key, hv1, val⟩ W ⟨kv, vv, rfl, ik, iv⟩
      obtain ⟨rb, hrb⟩ : ∃ rb, recOk ⟨off, time, hk1, key, hv1, val⟩ = rb := ⟨_, rfl⟩
      rw [hrb] at D4 HG
      obtain ⟨G, hG⟩ : ∃ G, fromR xs k o t = G := ⟨_, rfl⟩
      rw [hG] at HG ⊢
      have HH := Lib.hid HG
      have hbl : Hid (∀ W : World, w.grownBy W none → Ints W v xs) := Lib.hid fun W hW => h.grown hW (by simp)
      obtain ⟨av, capv, rfl, hlv, hmv, hcv⟩ := h
      unfold maxLen at hmv
      clear ga gb gc hrb hG HG hyl hbs a2 a3 hlen hok hb hcv
      have zR0 := Blk.made w #[.int .i64 0, .int .i64 0, .bool false, .slice none 0 0, .bool false, .slice none 0 0] 25
      have bA := alloc_below' w (.cells #[.int .i64 0, .int .i64 0, .bool false, .slice none 0 0, .bool false, .slice none 0 0] 25)
      go_enter Try.func19, Try.ntmps19
      go_wp2_with fail
      refine (C1.out _ (alloc_below' _ _)).mono ?_
      rintro e w1 ⟨rfl, rfl⟩
      go_wp2_with fail
      refine (C2.out _).mono ?_
      rintro e w1 ⟨rfl, rfl⟩
      generalize hwA : w.alloc (.cells #[.int .i64 0, .int .i64 0, .bool false, .slice none 0 0, .bool false, .slice none 0 0] 25) = wA at zR0 bA ⊢
      clear hwA C1 C2
      have bB := alloc_below' wA (.cells #[.slice av xs.length capv, .int .i64 k, .bool false] 62)
      have rA : Rdr (wA.alloc (.cells #[.slice av xs.length capv, .int .i64 k, .bool false] 62)) wA.heap.size (.slice av xs.length capv) k false := Blk.made wA _ _
      have zR := zR0.belowS bB
      have hRA : w.heap.size < wA.heap.size := zR0.lt
      have G0 : w.grownBy (wA.alloc (.cells #[.slice av xs.length capv, .int .i64 k, .bool false] 62)) none := grown_of_below (Bstep bA bB)
      go_wp2_with fail
      generalize hwB : wA.alloc (.cells #[.slice av xs.length capv, .int .i64 k, .bool false] 62) = wB at rA zR G0 ⊢
      obtain ⟨R, hR⟩ : ∃ R, w.heap.size = R := ⟨_, rfl⟩
      obtain ⟨A, hA⟩ : ∃ A, wA.heap.size = A := ⟨_, rfl⟩
      rw [hR, hA] at hRA
      rw [hR] at zR ⊢
      rw [hA] at rA ⊢
      have hwR : w.heap.size ≤ R := Nat.le_of_eq hR
      have hwA2 : w.heap.size ≤ A := by omega
      have hAR : A ≠ R := by omega
      have hRA2 : R ≠ A := by omega
      have HR := Lib.hid hR
      clear hwB bA bB zR0 hA hR
      refine (D1.out wB A (fun V hV => hbl.out V (grown_new G0 hwA2 hV)) rA).mono ?_
      rintro e w2 ⟨rfl, R2, g2⟩
      have G2 := grown_new G0 hwA2 g2
      have Z2 := zR.by hRA2 g2
      clear G0 zR rA g2
      go_wp2_with fail
      refine (D2.out w2 A (fun V hV => hbl.out V (grown_new G2 hwA2 hV)) R2).mono ?_
      rintro e w3 ⟨u, rfl, iuf, R3, g3⟩
      have G3 := grown_new G2 hwA2 g3
      have Z3 := Z2.by hRA2 g3
      have iu3 := iuf w3 (hbl.out w3 G3)
      obtain ⟨au, capu, rfl, hlu, hmu, hcu⟩ := iu3
      have iub : Hid (∀ W : World, w.grownBy W none → Ints W (.slice au bs.length capu) bs) := Lib.hid fun W hW => iuf W (hbl.out W hW)
      unfold maxLen at hmu
      clear G2 Z2 R2 g3 hcu iuf
      have lA := R3.lt
      have hRw3 := Z3.lt
      have bC := alloc_below' w3 (.cells #[.slice au bs.length capu, .int .i64 0, .bool false] 62)
      have rC : Rdr (w3.alloc (.cells #[.slice au bs.length capu, .int .i64 0, .bool false] 62)) w3.heap.size (.slice au bs.length capu) 0 false := Blk.made w3 _ _
      have zC := Z3.belowS bC
      have rA4 : Rdr (w3.alloc (.cells #[.slice au bs.length capu, .int .i64 0, .bool false] 62)) A _ kb fb := Blk.belowS R3 bC
      have G4 := grown_trans G3 (grown_of_below bC)
      go_wp2_with fail
      generalize hwC : w3.alloc (.cells #[.slice au bs.length capu, .int .i64 0, .bool false] 62) = wC at rC zC rA4 G4 bC ⊢
      obtain ⟨C, hC⟩ : ∃ C, w3.heap.size = C := ⟨_, rfl⟩
      rw [hC] at rC lA hRw3 ⊢
      have hRC : R ≠ C := by omega
      have hAC : A ≠ C := by omega
      have hwC2 : w.heap.size ≤ C := by omega
      have hCR := hRC.symm
      have hCA := hAC.symm
      clear hwC Z3 R3 G3 bC hC
      refine (D3.out wC C _ (fun V hV => iub.out V (grown_new G4 hwC2 hV)) rC).mono ?_
      rintro e w5 ⟨kv, vv, rfl, ow1, ow2, ap, R5, g5⟩
      have lC := rC.lt
      obtain ⟨a5, cap5, rfl, _, _, _⟩ := ow1.ints
      obtain ⟨a7, cap7, rfl, _, _, _⟩ := ow2.ints
      have Z5 := zC.by hRC g5
      have A5 : Rdr w5 A _ kb fb := Blk.by rA4 hAC g5
      have G5 := grown_new G4 hwC2 g5
      have o1 : Own w5 (C + 1) (.slice a5 key.length cap5) key := ow1.base lC
      have o2 : Own w5 (C + 1) (.slice a7 val.length cap7) val := ow2.base lC
      clear rC zC rA4 G4 g5 ow1 ow2
      go_wp2_with fail
      have bD := alloc_below' w5 (.cells #[.int .i64 off, .int .i64 time, .bool hk1, .slice a5 key.length cap5, .bool hv1, .slice a7 val.length cap7] 25)
      have xD := Blk.made w5 #[.int .i64 off, .int .i64 time, .bool hk1, .slice a5 key.length cap5, .bool hv1, .slice a7 val.length cap7] 25
      have Z6 := Z5.belowS bD
      have A6 : Rdr _ A _ kb fb := Blk.belowS A5 bD
      have C6 : Rdr _ C _ kd fd := Blk.belowS R5 bD
      have G6 := grown_trans G5 (grown_of_below bD)
      have p1 := o1.below bD
      have p2 := o2.below bD
      have hCD : C < w5.heap.size := Blk.lt R5
      have hAD : A < w5.heap.size := Blk.lt A5
      have hRD : R < w5.heap.size := Z5.lt
      generalize hW6 : w5.alloc (.cells #[.int .i64 off, .int .i64 time, .bool hk1, .slice a5 key.length cap5, .bool hv1, .slice a7 val.length cap7] 25) = w6 at bD xD Z6 A6 C6 G6 p1 p2 ⊢
      obtain ⟨D, hD⟩ : ∃ D, w5.heap.size = D := ⟨_, rfl⟩
      rw [hD] at xD hCD hAD hRD ⊢
      clear hW6 Z5 A5 R5 G5 o1 o2 bD hD D1 D2 D3
      obtain ⟨ra0, ra1, ra2⟩ := A6.three?
      obtain ⟨rc0, rc1, rc2⟩ := C6.three?
      have fz := Z6.free
      have lR := Z6.lt
      obtain ⟨d0, d1, d2, d3, d4, d5⟩ := Z6.six?
      cases fb with
      | true =>
        go_wp2_with fail
        go_quiet (fail)
        go_wp2_with fail
        have Zf := (Z6.drew nq).six (.int .i64 0) (.int .i64 0) (.bool false) (.slice none 0 0) (.bool false) (.slice none 0 0)
        have Gf := grown_new (grown_trans G6 (grown_drewN _ nq none)) hwR (six_grown (w6.drewN nq) R (.int .i64 0) (.int .i64 0) (.bool false) (.slice none 0 0) (.bool false) (.slice none 0 0))
        generalize hWf : ((((((w6.drewN nq).setCell ⟨R, 0, none⟩ (.int .i64 0)).setCell ⟨R, 1, none⟩ (.int .i64 0)).setCell ⟨R, 2, none⟩ (.bool false)).setCell ⟨R, 3, none⟩ (.slice none 0 0)).setCell ⟨R, 4, none⟩ (.bool false)).setCell ⟨R, 5, none⟩ (.slice none 0 0) = wf at Zf Gf ⊢
        clear hWf fz d0 d1 d2 d3 d4 d5
        obtain ⟨c0, c1, c2, c3, c4, c5⟩ := Zf.six?
        refine bodyPost_ret (v := .tuple #[.agg #[.int .i64 0, .int .i64 0, .bool false, .slice none 0 0, .bool false, .slice none 0 0], .int .i64 0, .bool false]) (by simp [results, Try.results19, go_sem, c0, c1, c2, c3, c4, c5]) rfl ?_
        rw [show G = (Rec.zero, 0, false) from by rw [HH.out]; simp]
        exact RecOut.none rfl (bel_of_grown Gf)
      | false =>
        cases fd with
        | true =>
          go_wp2_with fail
          go_quiet (fail)
          go_wp2_with fail
          have Zf := (Z6.drew nq).six (.int .i64 0) (.int .i64 0) (.bool false) (.slice none 0 0) (.bool false) (.slice none 0 0)
          have Gf := grown_new (grown_trans G6 (grown_drewN _ nq none)) hwR (six_grown (w6.drewN nq) R (.int .i64 0) (.int .i64 0) (.bool false) (.slice none 0 0) (.bool false) (.slice none 0 0))
          generalize hWf : ((((((w6.drewN nq).setCell ⟨R, 0, none⟩ (.int .i64 0)).setCell ⟨R, 1, none⟩ (.int .i64 0)).setCell ⟨R, 2, none⟩ (.bool false)).setCell ⟨R, 3, none⟩ (.slice none 0 0)).setCell ⟨R, 4, none⟩ (.bool false)).setCell ⟨R, 5, none⟩ (.slice none 0 0) = wf at Zf Gf ⊢
          clear hWf fz d0 d1 d2 d3 d4 d5
          obtain ⟨c0, c1, c2, c3, c4, c5⟩ := Zf.six?
          refine bodyPost_ret (v := .tuple #[.agg #[.int .i64 0, .int .i64 0, .bool false, .slice none 0 0, .bool false, .slice none 0 0], .int .i64 0, .bool false]) (by simp [results, Try.results19, go_sem, c0, c1, c2, c3, c4, c5]) rfl ?_
          rw [show G = (Rec.zero, 0, false) from by rw [HH.out]; simp]
          exact RecOut.none rfl (bel_of_grown Gf)
        | false =>
          by_cases hkd : kd < (bs.length : Int)
          · have dk : decide (kd < (bs.length : Int)) = true := decide_eq_true hkd
            have Hkd := Lib.hid hkd
            clear hkd
            go_wp2_with fail
            go_quiet (fail)
            go_wp2_with fail
            have Zf := (Z6.drew nq).six (.int .i64 0) (.int .i64 0) (.bool false) (.slice none 0 0) (.bool false) (.slice none 0 0)
            have Gf := grown_new (grown_trans G6 (grown_drewN _ nq none)) hwR (six_grown (w6.drewN nq) R (.int .i64 0) (.int .i64 0) (.bool false) (.slice none 0 0) (.bool false) (.slice none 0 0))
            generalize hWf : ((((((w6.drewN nq).setCell ⟨R, 0, none⟩ (.int .i64 0)).setCell ⟨R, 1, none⟩ (.int .i64 0)).setCell ⟨R, 2, none⟩ (.bool false)).setCell ⟨R, 3, none⟩ (.slice none 0 0)).setCell ⟨R, 4, none⟩ (.bool false)).setCell ⟨R, 5, none⟩ (.slice none 0 0) = wf at Zf Gf ⊢
            clear hWf fz d0 d1 d2 d3 d4 d5
            obtain ⟨c0, c1, c2, c3, c4, c5⟩ := Zf.six?
            refine bodyPost_ret (v := .tuple #[.agg #[.int .i64 0, .int .i64 0, .bool false, .slice none 0 0, .bool false, .slice none 0 0], .int .i64 0, .bool false]) (by simp [results, Try.results19, go_sem, c0, c1, c2, c3, c4, c5]) rfl ?_
            rw [show G = (Rec.zero, 0, false) from by rw [HH.out]; simp [Hkd.out]]
            exact RecOut.none rfl (bel_of_grown Gf)
          · have dk : decide (kd < (bs.length : Int)) = false := decide_eq_false hkd
            have Hkd := Lib.hid hkd
            clear hkd d0 d1 d2 d3 d4 d5 fz lR
            have HS : Hid (∀ W, Below w6.heap.size w6 W → (W.cell? ⟨A, 2, none⟩ = some (.bool false) ∧ W.cell? ⟨C, 2, none⟩ = some (.bool false) ∧ W.cell? ⟨C, 1, none⟩ = some (.int .i64 kd) ∧ W.cell? ⟨C, 0, none⟩ = some (.slice au bs.length capu) ∧ W.cell? ⟨D, 0, none⟩ = some (.int .i64 off) ∧ W.cell? ⟨D, 1, none⟩ = some (.int .i64 time) ∧ W.cell? ⟨D, 2, none⟩ = some (.bool hk1) ∧ W.cell? ⟨D, 3, none⟩ = some (.slice a5 key.length cap5) ∧ W.cell? ⟨D, 4, none⟩ = some (.bool hv1) ∧ W.cell? ⟨D, 5, none⟩ = some (.slice a7 val.length cap7))) := Lib.hid fun W hW =>
              have x := (xD.belowS hW).six?
              have y := (Rdr.three? (Blk.belowS C6 hW))
              ⟨(Rdr.three? (Blk.belowS A6 hW)).2.2, y.2.2, y.2.1, y.1, x⟩
            have bdr : Below w6.heap.size w6 w6.drew := below_drewN (Below.refl _ _) 1
            have S6 := HS.out w6.drew bdr
            have D5 := Lib.hid (D4.out w6.drew _ _ (p1.ints.below bdr) (p2.ints.below bdr))
            clear ra0 ra1 ra2 rc0 rc1 rc2 D4
            go_wp2_with fail
            go_region_held3 (fun W => W.cell? ⟨A, 2, none⟩ = some (.bool false) ∧ W.cell? ⟨C, 2, none⟩ = some (.bool false) ∧ W.cell? ⟨C, 1, none⟩ = some (.int .i64 kd) ∧ W.cell? ⟨C, 0, none⟩ = some (.slice au bs.length capu) ∧ W.cell? ⟨D, 0, none⟩ = some (.int .i64 off) ∧ W.cell? ⟨D, 1, none⟩ = some (.int .i64 time) ∧ W.cell? ⟨D, 2, none⟩ = some (.bool hk1) ∧ W.cell? ⟨D, 3, none⟩ = some (.slice a5 key.length cap5) ∧ W.cell? ⟨D, 4, none⟩ = some (.bool hv1) ∧ W.cell? ⟨D, 5, none⟩ = some (.slice a7 val.length cap7)) (first | with_reducible exact S6 | with_reducible exact hS7 | go_keep)
              (first
                | (go_at_call 24; ((with_reducible refine D5.out.mono ?_); rintro e w7 ⟨rfl, b7⟩; have hS7 := HS.out w7 (Bstep bdr b7))))
            have B7 := Bstep bdr b7
            have Z7 := Z6.belowS B7
            have D7 := xD.belowS B7
            have A7 : Rdr w7 A _ kb false := Blk.belowS A6 B7
            have G7 := grown_trans G6 (grown_of_below B7)
            have p17 := p1.below B7
            have p27 := p2.below B7
            clear hS7 S6 D5 b7 B7 bdr HS Z6 A6 C6 xD G6 p1 p2
            have fz := Z7.free
            have lR := Z7.lt
            obtain ⟨d0, d1, d2, d3, d4, d5⟩ := Z7.six?
            cases rb with
            | false =>
              go_wp2_with fail
              have Zf := Z7.six (.int .i64 0) (.int .i64 0) (.bool false) (.slice none 0 0) (.bool false) (.slice none 0 0)
              have Gf := grown_new G7 hwR (six_grown w7 R (.int .i64 0) (.int .i64 0) (.bool false) (.slice none 0 0) (.bool false) (.slice none 0 0))
              generalize hWf : (((((w7.setCell ⟨R, 0, none⟩ (.int .i64 0)).setCell ⟨R, 1, none⟩ (.int .i64 0)).setCell ⟨R, 2, none⟩ (.bool false)).setCell ⟨R, 3, none⟩ (.slice none 0 0)).setCell ⟨R, 4, none⟩ (.bool false)).setCell ⟨R, 5, none⟩ (.slice none 0 0) = wf at Zf Gf ⊢
              clear hWf fz d0 d1 d2 d3 d4 d5
              obtain ⟨c0, c1, c2, c3, c4, c5⟩ := Zf.six?
              refine bodyPost_ret (v := .tuple #[.agg #[.int .i64 0, .int .i64 0, .bool false, .slice none 0 0, .bool false, .slice none 0 0], .int .i64 0, .bool false]) (by simp [results, Try.results19, go_sem, c0, c1, c2, c3, c4, c5]) rfl ?_
              rw [show G = (Rec.zero, 0, false) from by rw [HH.out]; simp]
              exact RecOut.none rfl (bel_of_grown Gf)
            | true =>
              clear d0 d1 d2 d3 d4 d5 fz lR
              have bdr7 : Below w7.heap.size w7 w7.drew := below_drewN (Below.refl _ _) 1
              have D8 := D7.belowS bdr7
              have A8 : Rdr w7.drew A _ kb false := Blk.belowS A7 bdr7
              have S8 : w7.drew.cell? ⟨D, 0, none⟩ = some (.int .i64 off) ∧ w7.drew.cell? ⟨D, 1, none⟩ = some (.int .i64 time) ∧ w7.drew.cell? ⟨D, 2, none⟩ = some (.bool hk1) ∧ w7.drew.cell? ⟨D, 3, none⟩ = some (.slice a5 key.length cap5) ∧ w7.drew.cell? ⟨D, 4, none⟩ = some (.bool hv1) ∧ w7.drew.cell? ⟨D, 5, none⟩ = some (.slice a7 val.length cap7) ∧ w7.drew.cell? ⟨A, 1, none⟩ = some (.int .i64 kb) :=
                have x := D8.six?
                ⟨x.1, x.2.1, x.2.2.1, x.2.2.2.1, x.2.2.2.2.1, x.2.2.2.2.2, (Rdr.three? A8).2.1⟩
              have fz := Z7.free
              have lR := Z7.lt
              obtain ⟨d0, d1, d2, d3, d4, d5⟩ := Z7.six?
              have gf : w7.grownBy ((((((w7.setCell ⟨R, 0, none⟩ (.int .i64 off)).setCell ⟨R, 1, none⟩ (.int .i64 time)).setCell ⟨R, 2, none⟩ (.bool hk1)).setCell ⟨R, 3, none⟩ (.slice a5 key.length cap5)).setCell ⟨R, 4, none⟩ (.bool hv1)).setCell ⟨R, 5, none⟩ (.slice a7 val.length cap7)).drew (some R) := grown_trans (six_grown w7 R (.int .i64 off) (.int .i64 time) (.bool hk1) (.slice a5 key.length cap5) (.bool hv1) (.slice a7 val.length cap7)) (grown_drewN _ 1 _)
              have Zf : Blk ((((((w7.setCell ⟨R, 0, none⟩ (.int .i64 off)).setCell ⟨R, 1, none⟩ (.int .i64 time)).setCell ⟨R, 2, none⟩ (.bool hk1)).setCell ⟨R, 3, none⟩ (.slice a5 key.length cap5)).setCell ⟨R, 4, none⟩ (.bool hv1)).setCell ⟨R, 5, none⟩ (.slice a7 val.length cap7)).drew R _ := (Z7.six (.int .i64 off) (.int .i64 time) (.bool hk1) (.slice a5 key.length cap5) (.bool hv1) (.slice a7 val.length cap7)).drew 1
              have D9 := (D7.by (show D ≠ R by omega) gf).six?
              have A9 := (Rdr.three? (Blk.by A7 hAR gf)).2.1
              have S9 := And.intro D9.1 (And.intro D9.2.1 (And.intro D9.2.2.1 (And.intro D9.2.2.2.1 (And.intro D9.2.2.2.2.1 (And.intro D9.2.2.2.2.2 A9)))))
              have Gf := grown_new G7 hwR gf
              have o19 := (p17.by (show R < C + 1 by omega) gf).base (show w.heap.size ≤ C + 1 by omega)
              have o29 := (p27.by (show R < C + 1 by omega) gf).base (show w.heap.size ≤ C + 1 by omega)
              clear D9 A9 D7 A7 Z7 G7 p17 p27 D8 A8 bdr7 gf
              go_wp2_with fail
              go_region_held3 (fun W => W.cell? ⟨D, 0, none⟩ = some (.int .i64 off) ∧ W.cell? ⟨D, 1, none⟩ = some (.int .i64 time) ∧ W.cell? ⟨D, 2, none⟩ = some (.bool hk1) ∧ W.cell? ⟨D, 3, none⟩ = some (.slice a5 key.length cap5) ∧ W.cell? ⟨D, 4, none⟩ = some (.bool hv1) ∧ W.cell? ⟨D, 5, none⟩ = some (.slice a7 val.length cap7) ∧ W.cell? ⟨A, 1, none⟩ = some (.int .i64 kb)) (first | with_reducible exact S8 | with_reducible exact S9 | go_keep) (fail)
              generalize hWf : ((((((w7.setCell ⟨R, 0, none⟩ (.int .i64 off)).setCell ⟨R, 1, none⟩ (.int .i64 time)).setCell ⟨R, 2, none⟩ (.bool hk1)).setCell ⟨R, 3, none⟩ (.slice a5 key.length cap5)).setCell ⟨R, 4, none⟩ (.bool hv1)).setCell ⟨R, 5, none⟩ (.slice a7 val.length cap7)).drew = wf at Zf Gf o19 o29 ⊢
              clear hWf fz d0 d1 d2 d3 d4 d5 S8 S9
              obtain ⟨c0, c1, c2, c3, c4, c5⟩ := Zf.six?
              go_wp2_with fail
              refine bodyPost_ret (v := .tuple #[.agg #[.int .i64 off, .int .i64 time, .bool hk1, .slice a5 key.length cap5, .bool hv1, .slice a7 val.length cap7], .int .i64 kb, .bool true]) (by simp [results, Try.results19, go_sem, c0, c1, c2, c3, c4, c5]) rfl ?_
              rw [show G = ((⟨off, time, hk1, key, hv1, val⟩ : Rec), kb, true) from by rw [HH.out]; simp [Hkd.out]]
              exact ⟨_, _, rfl, o19, o29, ap, bel_of_grown Gf⟩
end Go.Proofs.Ytkkfnpcldogglaa
