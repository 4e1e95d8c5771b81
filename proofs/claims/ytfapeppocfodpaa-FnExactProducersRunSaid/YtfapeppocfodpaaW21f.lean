/- Chapter 21: producers take a batch. -/
import Derived.Test.YtfapeppocfodpaaW21e
import Derived.Test.YtfapeppocfodpaaI3
import Derived.Deep.Cut
import Derived.Deep.CutRange
namespace Go.Proofs.Ytfapeppocfodpaa
open Go.ChangeShapes Go.WideShapes Go.ChangeAt Go.RowKit
set_option linter.unusedVariables false

theorem listOf_putSeat {ts : List Trm} {b : Bat} (ok : tsOk ts = true) (hp : 0 ≤ b.prod ∧ b.prod ≤ 254) : listOf (putSeat (seatsOf ts) b) = putR (newT b) ts false := by
  rw [← listOf_set ok (newT b) hp]
  unfold listOf
  refine listUp_congr fun i _ => ?_
  unfold putSeat seatPut seatSet newT
  by_cases e : i = b.prod.toNat
  · rw [if_pos e, if_pos (by simp only; omega)]
  · rw [if_neg e, if_neg (by simp only; omega)]
theorem checkF_zero {f : Nat → Seat} {b : Bat} (h : checkF f b = 0) : batOk b = true ∧ 0 ≤ b.prod ∧ b.prod ≤ 254 := by
  unfold checkF at h
  split at h
  · rename_i hb
    have := batOk_prod hb
    refine ⟨hb, by omega, ?_⟩
    by_cases e : b.prod = 255
    · rw [if_pos e] at h; omega
    · omega
  · omega
theorem withN_put {ts : List Trm} (b : Bat) (ok : tsOk ts = true) : withN (seatsOf ts) b = putCode ts b := by
  have e : checkP ts b = checkF (seatsOf ts) b := by unfold checkP; rw [if_pos ok]
  unfold withN putCode
  rw [e]
  by_cases h : checkF (seatsOf ts) b = 0
  · rw [if_pos h, if_pos h, listOf_putSeat ok (checkF_zero h).2]
  · rw [if_neg h, if_neg h]
theorem withF_put {ts : List Trm} (b : Bat) (ok : tsOk ts = true) (h5 : putCode ts b ≠ 5) : listOf (withF (seatsOf ts) b) = putList ts b := by
  have e : checkP ts b = checkF (seatsOf ts) b := by unfold checkP; rw [if_pos ok]
  unfold putList
  rw [if_neg h5]
  unfold withF
  by_cases h : checkF (seatsOf ts) b = 0
  · have h5' := h5
    unfold putCode at h5' ⊢
    rw [if_pos h]
    rw [e, if_pos h] at h5' ⊢
    rw [listOf_putSeat ok (checkF_zero h).2]
    by_cases t : tsOk (putR (newT b) ts false) = true
    · rw [if_pos t, if_pos t, if_pos rfl, listOf_putSeat ok (checkF_zero h).2]
    · rw [if_neg t] at h5'
      exact absurd rfl h5'
  · have e2 : putCode ts b = checkF (seatsOf ts) b := by unfold putCode; rw [e, if_neg h]
    rw [if_neg h, e2, if_neg h, listOf_seats ok]
theorem putCode_bad {ts : List Trm} {b : Bat} (h : tsOk ts = false) : putCode ts b = 5 := by
  unfold putCode
  rw [code_bad (.inl h)]
  rfl
theorem putList_five {ts : List Trm} {b : Bat} (h : putCode ts b = 5) : putList ts b = [] := by
  unfold putList
  rw [if_pos h]
theorem arr23 (t : Array Value) (h : t.size = 23) : t = #[t.getD 0 undef, t.getD 1 undef, t.getD 2 undef, t.getD 3 undef, t.getD 4 undef, t.getD 5 undef, t.getD 6 undef, t.getD 7 undef, t.getD 8 undef, t.getD 9 undef, t.getD 10 undef, t.getD 11 undef, t.getD 12 undef, t.getD 13 undef, t.getD 14 undef, t.getD 15 undef, t.getD 16 undef, t.getD 17 undef, t.getD 18 undef, t.getD 19 undef, t.getD 20 undef, t.getD 21 undef, t.getD 22 undef] := by
  apply Array.ext (by simpa using h)
  intro i h1 h2
  have hi : i < 23 := by omega
  have : t[i] = t.getD i undef := by simp [Array.getD, h1]
  rw [this]
  rcases (show i = 0 ∨ i = 1 ∨ i = 2 ∨ i = 3 ∨ i = 4 ∨ i = 5 ∨ i = 6 ∨ i = 7 ∨ i = 8 ∨ i = 9 ∨ i = 10 ∨ i = 11 ∨ i = 12 ∨ i = 13 ∨ i = 14 ∨ i = 15 ∨ i = 16 ∨ i = 17 ∨ i = 18 ∨ i = 19 ∨ i = 20 ∨ i = 21 ∨ i = 22 by omega) with rfl | rfl | rfl | rfl | rfl | rfl | rfl | rfl | rfl | rfl | rfl | rfl | rfl | rfl | rfl | rfl | rfl | rfl | rfl | rfl | rfl | rfl | rfl <;> rfl

/-- new producers and a number are answered -/
def PutRes (w : World) (ts : List Trm) (N : Int) (e : Ending) (w' : World) : Prop := ∃ v, e = .returned (.tuple #[v, .int .i64 N]) ∧ OwnT w' w.heap.size v ts ∧ Below w.heap.size w w'
/-- what the operations of the region yield -/
def prPut (base : Nat) (lv bv : Value) (f F : Nat → Seat) (N : Int) : Nat → World → Value → Prop
  | 0, _, v => v = lv
  | 1, _, v => v = .agg (rollC f)
  | 2, _, v => v = bv
  | 3, _, v => v = .tuple #[.agg (rollC F), .int .i64 N]
  | 4, _, v => v = .tuple #[.agg (rollC F), .int .i64 N]
  | 5, _, v => v = .agg (rollC F)
  | 6, _, v => v = .int .i64 N
  | 7, W, v => ∃ A h, v = .pointer (some ⟨A, 0, none⟩) ∧ base ≤ A ∧ Roll W A h
  | 9, _, v => v = .int .i64 N
  | _, _, _ => True
/-- the worlds of the region -/
def FrPut (w0 : World) (B : Nat) (cs : Array Value) (F : Nat → Seat) (l : Array Bool) (a : Act) (W : World) : Prop :=
  (Blk W B cs ∧ Below w0.heap.size w0 W) ∧ (l.getD 8 false = true → l.getD 7 false = true ∧ ∃ A, a.tmps.getD 6 undef = .pointer (some ⟨A, 0, none⟩) ∧ w0.heap.size ≤ A ∧ Roll W A F)
def RelPut (base : Nat) (W W' : World) : Prop := Below base W W' ∧ ∀ A h, base ≤ A → Roll W A h → ∃ h', Roll W' A h'
theorem RelPut.refl (base : Nat) (W : World) : RelPut base W W := ⟨Below.refl _ _, fun A h _ r => ⟨h, r⟩⟩
theorem RelPut.below {base : Nat} {W W' : World} (hb : base ≤ W.heap.size) (h : Below W.heap.size W W') : RelPut base W W' := ⟨h.mono hb, fun A g _ r => ⟨g, r.below h⟩⟩
theorem prPut_kept {base : Nat} {lv bv : Value} {f F : Nat → Seat} {N : Int} (i : Nat) (w w' : World) (v : Value) (hr : RelPut base w w') (h : prPut base lv bv f F N i w v) : prPut base lv bv f F N i w' v := by
  match i with
  | 0 | 1 | 2 | 3 | 4 | 5 | 6 | 9 => exact h
  | 7 => obtain ⟨A, g, e, hA, r⟩ := h
         obtain ⟨g', r'⟩ := hr.2 A g hA r
         exact ⟨A, g', e, hA, r'⟩
  | 8 => trivial
  | n + 10 => trivial
theorem put_other (a : Act) (d : Option Tmp) (v : Value) (hd : d ≠ some 6) : (a.put d v).tmps.getD 6 undef = a.tmps.getD 6 undef := by
  cases d with
  | none => rfl
  | some t => exact tmps_other a.tmps t 6 v fun e => hd (by rw [e])
theorem FrPut.step {w0 W W' : World} {B i : Nat} {cs : Array Value} {F : Nat → Seat} {l : Array Bool} {a : Act} {d : Option Tmp} {v : Value} (h : FrPut w0 B cs F l a W) (hb : Below W.heap.size W W') (hi : i ≠ 8) (hd : d ≠ some 6) :
    FrPut w0 B cs F (l.setIfInBounds i true) (a.put d v) W' := by
  obtain ⟨⟨h1, h2⟩, h3⟩ := h
  refine ⟨⟨h1.belowS hb, h2.trans (hb.mono h2.size)⟩, fun e => ?_⟩
  obtain ⟨e0, A, e1, hA, r⟩ := h3 (by rwa [getD_set_other _ _ _ _ hi] at e)
  refine ⟨?_, ?_⟩
  · by_cases q : i = 7
    · subst q
      by_cases q2 : 7 < l.size
      · exact getD_set_same l 7 q2
      · simp [Array.getD, q2] at e0
    · rw [getD_set_other _ _ _ _ q]; exact e0
  exact ⟨A, by rw [put_other a d v hd]; exact e1, hA, r.below hb⟩

set_option maxHeartbeats 1000000 in
theorem impl_ProducersPut (u v : Value) (ts : List Trm) (b : Bat) (w : World) (g : Ts w u ts) (h : BatV w v b) : Calls Try.prog 23 #[u, v] w (PutRes w (putList ts b) (putCode ts b)) := by
  have C1 : Hid (∀ W, Below w.heap.size w W → Calls Try.prog 24 #[u] W (Same W (tsOk ts))) := Lib.hid fun W hW => impl_ProducersValid u ts W (g.below hW)
  have C2 : Hid (tsOk ts = true → ∀ W, Below w.heap.size w W → Calls Try.prog 40 #[u] W (RollRes W (seatsOf ts))) := Lib.hid fun ok W hW => impl_rollOf u ts W (g.below hW) ok
  have C3 : Hid (∀ W, Below w.heap.size w W → Calls Try.prog 32 #[.agg (rollC (seatsOf ts)), v] W (WithRes W (withF (seatsOf ts) b) (withN (seatsOf ts) b))) := Lib.hid fun W hW => impl_with _ v b W (h.below hW)
  have C4 : Hid (∀ W g, Calls Try.prog 33 #[.agg (rollC g)] W (NewT W (listOf g))) := Lib.hid fun W g => impl_producers g W
  have HB : Hid (tsOk ts = false → putCode ts b = 5) := Lib.hid putCode_bad
  have H5 : Hid (putCode ts b = 5 → putList ts b = []) := Lib.hid putList_five
  have HN : Hid (tsOk ts = true → withN (seatsOf ts) b = putCode ts b) := Lib.hid (withN_put b)
  have HF : Hid (tsOk ts = true → putCode ts b ≠ 5 → listOf (withF (seatsOf ts) b) = putList ts b) := Lib.hid (withF_put b)
  obtain ⟨N, hN⟩ : ∃ N, putCode ts b = N := ⟨_, rfl⟩
  obtain ⟨Ls, hLs⟩ : ∃ Ls, putList ts b = Ls := ⟨_, rfl⟩
  obtain ⟨N2, hN2⟩ : ∃ N2, withN (seatsOf ts) b = N2 := ⟨_, rfl⟩
  obtain ⟨F, hF⟩ : ∃ F, withF (seatsOf ts) b = F := ⟨_, rfl⟩
  obtain ⟨f, hf⟩ : ∃ f, seatsOf ts = f := ⟨_, rfl⟩
  obtain ⟨ok, hok⟩ : ∃ ok, tsOk ts = ok := ⟨_, rfl⟩
  rw [hN] at HB H5 HN HF ⊢
  rw [hLs] at H5 HF ⊢
  rw [hN2] at HN C3
  rw [hF] at HF C3
  rw [hf] at C2 C3
  rw [hok] at C1 C2 HB HN HF
  clear hN hLs hN2 hF hf hok
  obtain ⟨ra, cap, rfl, hr, hl, hm⟩ := h.parts
  obtain ⟨a', cap', rfl, hl', hm', hc'⟩ := g
  clear hc' h hr
  obtain ⟨n, hn⟩ : ∃ n, b.recs.length = n := ⟨_, rfl⟩
  rw [hn] at C3 hl ⊢
  clear hn
  obtain ⟨packed, mark, prod, epoch, seq, recs⟩ := b
  simp only at C3 ⊢
  have x0 := Blk.made w #[.bool packed, .bool mark, .int .i64 prod, .int .i64 epoch, .int .i64 seq, .slice ra n cap] 43
  have b0 := alloc_below' w (.cells #[.bool packed, .bool mark, .int .i64 prod, .int .i64 epoch, .int .i64 seq, .slice ra n cap] 43)
  go_enter Try.func23, Try.ntmps23
  go_wp2_with fail
  generalize w.alloc (.cells #[.bool packed, .bool mark, .int .i64 prod, .int .i64 epoch, .int .i64 seq, .slice ra n cap] 43) = w0 at x0 b0 ⊢
  obtain ⟨B, hB⟩ : ∃ B, w.heap.size = B := ⟨_, rfl⟩
  rw [hB] at x0 ⊢
  have HBB := Lib.hid hB
  clear hB
  refine (C1.out w0 b0).mono ?_
  rintro e w1 ⟨rfl, b1⟩
  have x1 := x0.belowS b1
  have B1 := Bstep b0 b1
  clear x0 b0 b1 C1
  cases ok with
  | false =>
    have e5 := HB.out rfl
    subst e5
    have e6 := H5.out rfl
    subst e6
    clear HB H5 HN HF C2 C3
    go_wp2_with fail
    go_returns
    exact ⟨_, rfl, own_nilT _ _, B1⟩
  | true =>
  have eN := HN.out rfl
  subst eN
  have D2 : Hid (∀ W, Below w.heap.size w W → Calls Try.prog 40 #[.slice a' ts.length cap'] W (RollRes W f)) := Lib.hid (C2.out rfl)
  have HF2 : Hid (N2 ≠ 5 → listOf F = Ls) := Lib.hid (HF.out rfl)
  clear HB HN HF C2
  go_upto_region 3 with (fail)
  go_cut [6, 7] from 11 to 17 (fun s6 s7 wc => s7 = .int .i64 N2 ∧ ∃ A, s6 = .pointer (some ⟨A, 0, none⟩) ∧ Roll wc A F ∧ Below w.heap.size w wc)
  case first =>
--@region
    have bdr : Below w1.heap.size w1 { w1 with drawn := w1.drawn + 1 } := below_drewN (Below.refl _ _) 1
    refine region_invA (prPut w.heap.size (.slice a' ts.length cap') (.agg #[.bool packed, .bool mark, .int .i64 prod, .int .i64 epoch, .int .i64 seq, .slice ra n cap]) f F N2) (FrPut w B #[.bool packed, .bool mark, .int .i64 prod, .int .i64 epoch, .int .i64 seq, .slice ra n cap] F) (RelPut w.heap.size) (by kernel_rfl) (by decide +kernel) ?_ (by decide +kernel) (by decide +kernel) (fun i w w' v hr hp => prPut_kept i w w' v hr hp) ?_ ?_ ?_
    · intro s hs
      show s < 23
      revert s
      decide +kernel
    · exact ⟨⟨x1.belowS bdr, B1.trans (bdr.mono B1.size)⟩, fun e => by simp at e⟩
    · intro i o ho l a W hls hl hop hdeps hI K hK
      obtain ⟨i1, i2, i3, i4, hF⟩ := hI
      have e0 : a.tmps.getD 0 undef = .slice a' ts.length cap' := i3 0 (by decide +kernel)
      have e3 : a.tmps.getD 3 undef = .pointer (some ⟨B, 0, none⟩) := i3 3 (by decide +kernel)
      have hls' : l.size = 10 := hls
      match i, ho with
      | 0, ho =>
        obtain rfl := Option.some.inj ho
        clear i1 i2 i3 i4 hdeps e3
        go_simp
        exact hK _ _ (RelPut.refl _ _) (hF.step (Below.refl _ _) (by decide) (by decide)) (fun _ => rfl)
      | 1, ho =>
        obtain rfl := Option.some.inj ho
        have d0 : l.getD 0 false = true := by
          simp [Region.binds] at hdeps ⊢
          simp [hdeps]
        have p : a.tmps.getD 12 undef = .slice a' ts.length cap' := i4 0 _ 12 rfl rfl d0
        have D := Lib.hid (D2.out W hF.1.2)
        clear i1 i2 i3 i4 hdeps e0 e3 d0
        go_simp
        refine D.out.mono ?_
        rintro e w' ⟨rfl, hb⟩
        exact hK _ _ (RelPut.below hF.1.2.size hb) (hF.step hb (by decide) (by decide)) (fun _ => rfl)
      | 2, ho =>
        obtain rfl := Option.some.inj ho
        obtain ⟨c0, c1, c2, c3, c4, c5⟩ := hF.1.1.sixC
        clear i1 i2 i3 i4 hdeps e0
        go_simp
        exact hK _ _ (RelPut.refl _ _) (hF.step (Below.refl _ _) (by decide) (by decide)) (fun _ => rfl)
      | 3, ho =>
        obtain rfl := Option.some.inj ho
        have d1 : l.getD 1 false = true := by
          simp [Region.binds] at hdeps ⊢
          simp [hdeps]
        have d2 : l.getD 2 false = true := by
          simp [Region.binds] at hdeps ⊢
          simp [hdeps]
        have p1 : a.tmps.getD 13 undef = .agg (rollC f) := i4 1 _ 13 rfl rfl d1
        have p2 : a.tmps.getD 14 undef = .agg #[.bool packed, .bool mark, .int .i64 prod, .int .i64 epoch, .int .i64 seq, .slice ra n cap] := i4 2 _ 14 rfl rfl d2
        have D := Lib.hid (C3.out W hF.1.2)
        clear i1 i2 i3 i4 hdeps e0 e3 d1 d2
        go_simp
        refine D.out.mono ?_
        rintro e w' ⟨rfl, hb⟩
        exact hK _ _ (RelPut.below hF.1.2.size hb) (hF.step hb (by decide) (by decide)) (fun _ => rfl)
      | 4, ho =>
        obtain rfl := Option.some.inj ho
        have d3 : l.getD 3 false = true := by
          simp [Region.binds] at hdeps ⊢
          simp [hdeps]
        have p : a.tmps.getD 15 undef = .tuple #[.agg (rollC F), .int .i64 N2] := i4 3 _ 15 rfl rfl d3
        clear i1 i2 i3 i4 hdeps e0 e3 d3
        go_simp
        exact hK _ _ (RelPut.refl _ _) (hF.step (Below.refl _ _) (by decide) (by decide)) (fun _ => rfl)
      | 5, ho =>
        obtain rfl := Option.some.inj ho
        have d4 : l.getD 4 false = true := by
          simp [Region.binds] at hdeps ⊢
          simp [hdeps]
        have p : a.tmps.getD 11 undef = .tuple #[.agg (rollC F), .int .i64 N2] := i4 4 _ 11 rfl rfl d4
        clear i1 i2 i3 i4 hdeps e0 e3 d4
        go_simp
        exact hK _ _ (RelPut.refl _ _) (hF.step (Below.refl _ _) (by decide) (by decide)) (fun _ => rfl)
      | 6, ho =>
        obtain rfl := Option.some.inj ho
        have d4 : l.getD 4 false = true := by
          simp [Region.binds] at hdeps ⊢
          simp [hdeps]
        have p : a.tmps.getD 11 undef = .tuple #[.agg (rollC F), .int .i64 N2] := i4 4 _ 11 rfl rfl d4
        clear i1 i2 i3 i4 hdeps e0 e3 d4
        go_simp
        exact hK _ _ (RelPut.refl _ _) (hF.step (Below.refl _ _) (by decide) (by decide)) (fun _ => rfl)
      | 7, ho =>
        obtain rfl := Option.some.inj ho
        clear i1 i2 i3 i4 hdeps e0 e3
        refine wp_alloc_roll ?_ ?_
        · rfl
        have hb := alloc_below' W (.cells (rollC fun _ => Seat.zero) 55)
        refine hK _ _ (RelPut.below hF.1.2.size hb) ⟨⟨hF.1.1.belowS hb, hF.1.2.trans (hb.mono hF.1.2.size)⟩, fun e => ?_⟩ (fun _ => ⟨_, _, rfl, hF.1.2.size, Roll.made W fun _ => Seat.zero⟩)
        have e8 := (hF.2 (by rwa [getD_set_other _ _ _ _ (by decide)] at e)).1
        rw [show l.getD 7 false = l.getD 7 true by simp [Array.getD, hls']] at e8
        rw [hl] at e8
        cases e8
      | 8, ho =>
        obtain rfl := Option.some.inj ho
        have d5 : l.getD 5 false = true := by
          simp [Region.binds] at hdeps ⊢
          simp [hdeps]
        have d7 : l.getD 7 false = true := by
          simp [Region.binds] at hdeps ⊢
          simp [hdeps]
        have p : a.tmps.getD 16 undef = .agg (rollC F) := i4 5 _ 16 rfl rfl d5
        obtain ⟨A, hh, p7, hA, rA⟩ : ∃ A h, a.tmps.getD 6 undef = .pointer (some ⟨A, 0, none⟩) ∧ w.heap.size ≤ A ∧ Roll W A h := i4 7 _ 6 rfl rfl d7
        clear i1 i2 i3 i4 hdeps e0 e3
        refine wp_store_row 55 _ _ rfl A (rollC F) p7 p _ _ rA (roll_size _) (by rw [rollC_size, rollC_size]) (rollC_one _) ?_
        have gA := grown_row' W A (rollC F)
        have hBA : B ≠ A := rA.apart hF.1.1 (by simp)
        refine hK _ _ ⟨below_setRow (Below.refl _ _) A hA _, fun A' h' hA' r' => ?_⟩ ⟨⟨hF.1.1.by hBA gA, below_setRow hF.1.2 A hA _⟩, fun _ => ⟨?_, A, p7, hA, rA.row F⟩⟩ (fun q => (q rfl).elim)
        · by_cases q : A' = A
          · subst q
            exact ⟨F, rA.row F⟩
          · exact ⟨h', r'.by q gA⟩
        · rw [getD_set_other _ _ _ _ (by decide)]
          exact d7
      | 9, ho =>
        obtain rfl := Option.some.inj ho
        have d6 : l.getD 6 false = true := by
          simp [Region.binds] at hdeps ⊢
          simp [hdeps]
        have p : a.tmps.getD 17 undef = .int .i64 N2 := i4 6 _ 17 rfl rfl d6
        clear i1 i2 i3 i4 hdeps e0 e3 d6
        go_simp
        exact hK _ _ (RelPut.refl _ _) (hF.step (Below.refl _ _) (by decide) (by decide)) (fun _ => rfl)
      | n + 10, ho =>
        have hx := (Array.getElem?_eq_some_iff.1 ho).1
        have hx2 : n + 10 < 10 := hx
        omega
    · intro l a W hI hall
      obtain ⟨i1, i2, i3, i4, hF⟩ := hI
      obtain ⟨hq7, A, e6, hA, rA⟩ := hF.2 (hall 8 (by decide))
      have e7 : a.tmps.getD 7 undef = .int .i64 N2 := i4 9 _ 7 rfl rfl (hall 9 (by decide))
      have hB9 := hF.1.2
      have k0 : a.tmps.getD 0 undef = .slice a' ts.length cap' := i3 0 (by decide +kernel)
      have k1 : a.tmps.getD 1 undef = .agg #[.bool packed, .bool mark, .int .i64 prod, .int .i64 epoch, .int .i64 seq, .slice ra n cap] := i3 1 (by decide +kernel)
      have k2 : a.tmps.getD 2 undef = undef := i3 2 (by decide +kernel)
      have k3 : a.tmps.getD 3 undef = .pointer (some ⟨B, 0, none⟩) := i3 3 (by decide +kernel)
      have k4 : a.tmps.getD 4 undef = .slice none 0 0 := i3 4 (by decide +kernel)
      have k5 : a.tmps.getD 5 undef = .int .i64 0 := i3 5 (by decide +kernel)
      have k8 : a.tmps.getD 8 undef = .slice a' ts.length cap' := i3 8 (by decide +kernel)
      have k9 : a.tmps.getD 9 undef = .bool true := i3 9 (by decide +kernel)
      have k10 : a.tmps.getD 10 undef = .bool false := i3 10 (by decide +kernel)
      have k18 : a.tmps.getD 18 undef = undef := i3 18 (by decide +kernel)
      have k19 : a.tmps.getD 19 undef = undef := i3 19 (by decide +kernel)
      have k20 : a.tmps.getD 20 undef = undef := i3 20 (by decide +kernel)
      have k21 : a.tmps.getD 21 undef = undef := i3 21 (by decide +kernel)
      have k22 : a.tmps.getD 22 undef = undef := i3 22 (by decide +kernel)
      have hA23 := arr23 a.tmps i2
      rw [k0, k1, k2, k3, k4, k5, k8, k9, k10, k18, k19, k20, k21, k22, e6, e7] at hA23
      simp only [Exit.then]
      rename_i J K1 hJ hK1
      refine hK1 _ _ (hJ _ _ ⟨_, _, a.tmps.getD 11 undef, a.tmps.getD 12 undef, a.tmps.getD 13 undef, a.tmps.getD 14 undef, a.tmps.getD 15 undef, a.tmps.getD 16 undef, a.tmps.getD 17 undef, ⟨rfl, A, rfl, rA, hB9⟩, ?_⟩)
      obtain ⟨t, d⟩ := a
      simp only at i1 hA23
      rw [hA23, i1]
      rfl
--@endregion
  case rest =>
    clear D2 C3 x1 B1
    obtain ⟨rfl, A, rfl, rA, B9⟩ := hcut
    by_cases h5 : N2 = 5
    · have d5 : (N2 == 5) = true := by rw [beq_iff_eq]; exact h5
      have e6 := H5.out h5
      subst h5 e6
      clear HF2 H5 C4
      go_wp2_with fail
      go_returns
      exact ⟨_, rfl, own_nilT _ _, B9⟩
    · have d5 : (N2 == 5) = false := by rw [beq_eq_false_iff_ne]; exact h5
      have e6 := HF2.out h5
      have D4 := Lib.hid (C4.out wc F)
      rw [e6] at D4
      clear HF2 H5 C4 h5 e6
      go_upto_region 6 with (fail)
      refine wp_region_list ?_
      refine wpList_load_row rfl 55 _ rfl A rfl _ (rollC F) _ _ rA roll_array rfl (roll_size _) ?_
      go_wp2_with fail
      refine D4.out.mono ?_
      rintro e w4 ⟨vv, rfl, own, b4⟩
      go_wp2_with fail
      go_returns
      exact ⟨_, rfl, own.base B9.size, Bstep B9 b4⟩
end Go.Proofs.Ytfapeppocfodpaa
