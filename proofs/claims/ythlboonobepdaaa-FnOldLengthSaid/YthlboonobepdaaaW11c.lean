/- Chapter 11: valid messages, by the model. -/
import Derived.Test.YthlboonobepdaaaW11b
import Derived.Test.YthlboonobepdaaaW3
namespace Go.Proofs.Ythlboonobepdaaa
open Go.ChangeShapes Go.WideShapes Go.ChangeAt Go.RowKit
set_option linter.unusedVariables false

theorem Ints.grownO {w w' : World} {v : Value} {xs : List Int} {row : Option Nat} (h : Ints w v xs) (hg : w.grownBy w' row) (hne : 0 < xs.length → ∀ k, row = some k → v.ownBlock ≠ some k) : Ints w' v xs := by
  rcases Nat.eq_zero_or_pos xs.length with h0 | h0
  · obtain ⟨a, cap, rfl, hl, hm, hc⟩ := h
    exact ⟨a, cap, rfl, hl, hm, fun h1 => by omega⟩
  · exact h.grown hg (hne h0)
theorem Ints.keepZ {w w' : World} {v : Value} {xs : List Int} {Z : Nat} (h : Ints w v xs) (hg : w.grownBy w' (some Z)) (hne : ∀ k, v.ownBlock = some k → 0 < xs.length → k ≠ Z) : Ints w' v xs :=
  h.grownO hg fun h0 k hk e => by simp only [Option.some.injEq] at hk; subst hk; exact hne _ e h0 rfl
/-- an empty row of the call's own -/
def IsEmpty (base : Nat) (W : World) (v : Value) : Prop := ∃ E, v = .slice (some ⟨E, 0, none⟩) 0 0 ∧ Own W base v []
/-- the record of a message, its parts of the call's own -/
def IsRec (base : Nat) (m : Mes) (W : World) (v : Value) : Prop :=
  ∃ a1 cap1 a3 cap3, v = .agg #[.int .i64 m.off, .int .i64 m.time, .bool m.hk, .slice a1 m.key.length cap1, .bool (!m.miss), .slice a3 m.val.length cap3] ∧ Own W base (.slice a1 m.key.length cap1) m.key ∧ Own W base (.slice a3 m.val.length cap3) m.val
/-- what the operations of the region yield -/
def prO (A base : Nat) (m : Mes) (kv vv : Value) : Nat → World → Value → Prop
  | 0, _, v => v = .pointer (some ⟨A, 0, none⟩)
  | 1, _, v => v = .int .i64 m.off
  | 2, _, v => v = .pointer (some ⟨A, 2, none⟩)
  | 3, _, v => v = .int .i64 m.time
  | 4, _, v => v = .pointer (some ⟨A, 5, none⟩)
  | 5, _, v => v = .bool m.hk
  | 6, W, v => IsEmpty base W v
  | 7, _, v => v = .pointer (some ⟨A, 3, none⟩)
  | 8, _, v => v = kv
  | 9, W, v => Own W base v m.key
  | 10, _, v => v = .pointer (some ⟨A, 6, none⟩)
  | 11, _, v => v = .bool m.miss
  | 12, _, v => v = .bool (!m.miss)
  | 13, W, v => IsEmpty base W v
  | 14, _, v => v = .pointer (some ⟨A, 4, none⟩)
  | 15, _, v => v = vv
  | 16, W, v => Own W base v m.val
  | 17, W, v => IsRec base m W v
  | _, _, _ => True
theorem prO_kept {A base Z : Nat} (hZ : Z < base) {m : Mes} {kv vv : Value} (i : Nat) (w w' : World) (v : Value) (hk : w.grownBy w' (some Z)) (h : prO A base m kv vv i w v) : prO A base m kv vv i w' v := by
  match i with
  | 0 | 1 | 2 | 3 | 4 | 5 | 7 | 8 | 10 | 11 | 12 | 14 | 15 => exact h
  | 6 | 13 => obtain ⟨E, e, o⟩ := h; exact ⟨E, e, o.by hZ hk⟩
  | 9 | 16 => exact Own.by h hZ hk
  | 17 => obtain ⟨a1, c1, a3, c3, e, o1, o3⟩ := h; exact ⟨a1, c1, a3, c3, e, o1.by hZ hk, o3.by hZ hk⟩
  | n + 18 => trivial
/-- the worlds of the region -/
def FrO (w0 : World) (A Z base : Nat) (m : Mes) (kv vv : Value) (l : Array Bool) (W : World) : Prop :=
  (Blk W A #[.int .i64 m.off, .bool m.timed, .int .i64 m.time, kv, vv, .bool m.hk, .bool m.miss] ∧ (∃ z0 z1 z2 z3 z4 z5, Blk W Z #[z0, z1, z2, z3, z4, z5]) ∧ Ints W kv m.key ∧ Ints W vv m.val ∧ w0.grownBy W (some Z) ∧ base ≤ W.heap.size) ∧
  (l.getD 18 false = true → ∃ a1 cap1 a3 cap3, Blk W Z #[.int .i64 m.off, .int .i64 m.time, .bool m.hk, .slice a1 m.key.length cap1, .bool (!m.miss), .slice a3 m.val.length cap3] ∧ Own W base (.slice a1 m.key.length cap1) m.key ∧ Own W base (.slice a3 m.val.length cap3) m.val)
theorem FrO.same {w0 W : World} {A Z base : Nat} {m : Mes} {kv vv : Value} {l : Array Bool} {i : Nat} (h : FrO w0 A Z base m kv vv l W) (hi : i ≠ 18) : FrO w0 A Z base m kv vv (l.setIfInBounds i true) W :=
  ⟨h.1, fun e => h.2 (by rwa [getD_set_other _ _ _ _ hi] at e)⟩
theorem FrO.below {w0 W W' : World} {A Z base : Nat} {m : Mes} {kv vv : Value} {l : Array Bool} {i : Nat} (h : FrO w0 A Z base m kv vv l W) (hb : Below W.heap.size W W') (hi : i ≠ 18) : FrO w0 A Z base m kv vv (l.setIfInBounds i true) W' := by
  obtain ⟨⟨h1, ⟨z0, z1, z2, z3, z4, z5, h2⟩, h3, h4, h5, h6⟩, h7⟩ := h
  refine ⟨⟨h1.belowS hb, ⟨z0, z1, z2, z3, z4, z5, h2.belowS hb⟩, h3.below hb, h4.below hb, grown_trans h5 (grown_of_below hb), Nat.le_trans h6 hb.size⟩, fun e => ?_⟩
  obtain ⟨a1, c1, a3, c3, hz, o1, o3⟩ := h7 (by rwa [getD_set_other _ _ _ _ hi] at e)
  exact ⟨a1, c1, a3, c3, hz.belowS hb, o1.below hb, o3.below hb⟩
theorem FrO.store {w0 W : World} {A Z base : Nat} {m : Mes} {kv vv : Value} {l : Array Bool} {z0 z1 z2 z3 z4 z5 : Value} {a1 a3 : Option Addr} {cap1 cap3 : Nat} (h : FrO w0 A Z base m kv vv l W) (hz : Blk W Z #[z0, z1, z2, z3, z4, z5])
    (o1 : Own W base (.slice a1 m.key.length cap1) m.key) (o3 : Own W base (.slice a3 m.val.length cap3) m.val) (hZ : Z < base ∧ A ≠ Z ∧ (∀ k, kv.ownBlock = some k → 0 < m.key.length → k ≠ Z) ∧ ∀ k, vv.ownBlock = some k → 0 < m.val.length → k ≠ Z) :
    FrO w0 A Z base m kv vv (l.setIfInBounds 18 true) ((((((W.setCell ⟨Z, 0, none⟩ (.int .i64 m.off)).setCell ⟨Z, 1, none⟩ (.int .i64 m.time)).setCell ⟨Z, 2, none⟩ (.bool m.hk)).setCell ⟨Z, 3, none⟩ (.slice a1 m.key.length cap1)).setCell ⟨Z, 4, none⟩ (.bool (!m.miss))).setCell ⟨Z, 5, none⟩ (.slice a3 m.val.length cap3)) := by
  obtain ⟨⟨h1, _, h3, h4, h5, h6⟩, _⟩ := h
  have g := six_grown W Z (.int .i64 m.off) (.int .i64 m.time) (.bool m.hk) (.slice a1 m.key.length cap1) (.bool (!m.miss)) (.slice a3 m.val.length cap3)
  have b := hz.six (.int .i64 m.off) (.int .i64 m.time) (.bool m.hk) (.slice a1 m.key.length cap1) (.bool (!m.miss)) (.slice a3 m.val.length cap3)
  refine ⟨⟨h1.by hZ.2.1 g, ⟨_, _, _, _, _, _, b⟩, h3.keepZ g hZ.2.2.1, h4.keepZ g hZ.2.2.2, grown_trans h5 g, Nat.le_trans h6 g.size⟩, fun _ => ⟨a1, cap1, a3, cap3, b, o1.by hZ.1 g, o3.by hZ.1 g⟩⟩
set_option maxHeartbeats 4000000 in
theorem spec_l11Record (v : Value) (m : Mes) (w : World) (h : MesV w v m) (l1 : m.key.length ≤ 1000000000) (l2 : m.val.length ≤ 1000000000) : Calls Try.prog 47 #[v] w (RecNew w (mRec m)) := by
  obtain ⟨kv, vv, rfl, ik, iv⟩ := h
  have lk := ik.lt
  have lv := iv.lt
  have bA := alloc_below' w (.cells #[.int .i64 m.off, .bool m.timed, .int .i64 m.time, kv, vv, .bool m.hk, .bool m.miss] 25)
  have bZ := alloc_below' (w.alloc (.cells #[.int .i64 m.off, .bool m.timed, .int .i64 m.time, kv, vv, .bool m.hk, .bool m.miss] 25)) (.cells #[.int .i64 0, .int .i64 0, .bool false, .slice none 0 0, .bool false, .slice none 0 0] 64)
  have xA := (Blk.made w #[.int .i64 m.off, .bool m.timed, .int .i64 m.time, kv, vv, .bool m.hk, .bool m.miss] 25).belowS bZ
  have xZ := Blk.made (w.alloc (.cells #[.int .i64 m.off, .bool m.timed, .int .i64 m.time, kv, vv, .bool m.hk, .bool m.miss] 25)) #[.int .i64 0, .int .i64 0, .bool false, .slice none 0 0, .bool false, .slice none 0 0] 64
  have B0 := Bstep bA bZ
  simp only [alloc_szO] at xZ
  go_enter Try.func47, Try.ntmps47
  go_upto_region 1 with (fail)
  generalize hwb : ((w.alloc (.cells #[.int .i64 m.off, .bool m.timed, .int .i64 m.time, kv, vv, .bool m.hk, .bool m.miss] 25)).alloc (.cells #[.int .i64 0, .int .i64 0, .bool false, .slice none 0 0, .bool false, .slice none 0 0] 64)) = wb at xA xZ B0 ⊢
  clear hwb bA bZ
  obtain ⟨A, hA⟩ : ∃ A, w.heap.size = A := ⟨_, rfl⟩
  obtain ⟨Z, hZ⟩ : ∃ Z, w.heap.size + 1 = Z := ⟨_, rfl⟩
  rw [hZ] at xZ ⊢
  rw [hA] at xA ⊢
  have hwZ : w.heap.size ≤ Z := by omega
  have hwZ1 : w.heap.size ≤ Z + 1 := by omega
  obtain ⟨base, hbase⟩ : ∃ base, Z + 1 = base := ⟨_, rfl⟩
  have hZb : Z < base ∧ A ≠ Z ∧ (∀ k, kv.ownBlock = some k → 0 < m.key.length → k ≠ Z) ∧ ∀ k, vv.ownBlock = some k → 0 < m.val.length → k ≠ Z :=
    ⟨by omega, by omega, fun k hk h0 => by have := lk h0 k hk; omega, fun k hk h0 => by have := lv h0 k hk; omega⟩
  have hdr : Below wb.heap.size wb { wb with drawn := wb.drawn + 1 } := below_drewN (Below.refl _ _) 1
  have F0 : FrO wb A Z base m kv vv (Array.replicate 19 false) { wb with drawn := wb.drawn + 1 } :=
    ⟨⟨xA.belowS hdr, ⟨_, _, _, _, _, _, xZ.belowS hdr⟩, (ik.below B0).below hdr, (iv.below B0).below hdr, grown_of_below hdr, by have := (xZ.belowS hdr).lt; omega⟩, fun e => by simp at e⟩
  refine region_inv (prO A base m kv vv) (FrO wb A Z base m kv vv) (fun W W' => W.grownBy W' (some Z)) (by kernel_rfl) (by decide +kernel) ?_ (by decide +kernel) (by decide +kernel) (fun i w w' v hr hp => prO_kept hZb.1 i w w' v hr hp) F0 ?_ ?_
  · intro s hs
    show s < 21
    revert s
    decide +kernel
  · intro i o ho l a W hls hl hop hdeps hI K hK
    obtain ⟨i1, i2, i3, i4, hF⟩ := hI
    have e1 : a.tmps.getD 1 undef = .pointer (some ⟨A, 0, none⟩) := i3 1 (by decide +kernel)
    have e2 : a.tmps.getD 2 undef = .pointer (some ⟨Z, 0, none⟩) := i3 2 (by decide +kernel)
    have hls' : l.size = 19 := hls
    match i, ho with
    | 0, ho =>
      obtain rfl := Option.some.inj ho
      clear i1 i2 i3 i4 hdeps
      go_simp
      exact hK _ _ (World.grownBy.refl _ _) (hF.same (by decide)) (fun _ => rfl)
    | 1, ho =>
      obtain rfl := Option.some.inj ho
      have d0 : l.getD 0 false = true := by
        simp [Region.binds] at hdeps ⊢
        simp [hdeps]
      have p : a.tmps.getD 3 undef = .pointer (some ⟨A, 0, none⟩) := i4 0 _ 3 rfl rfl d0
      obtain ⟨c0, c1, c2, c3, c4, c5, c6⟩ := hF.1.1.seven?
      clear i1 i2 i3 i4 hdeps e1 e2 d0
      go_simp
      exact hK _ _ (World.grownBy.refl _ _) (hF.same (by decide)) (fun _ => rfl)
    | 2, ho =>
      obtain rfl := Option.some.inj ho
      clear i1 i2 i3 i4 hdeps
      go_simp
      exact hK _ _ (World.grownBy.refl _ _) (hF.same (by decide)) (fun _ => rfl)
    | 3, ho =>
      obtain rfl := Option.some.inj ho
      have d2 : l.getD 2 false = true := by
        simp [Region.binds] at hdeps ⊢
        simp [hdeps]
      have p : a.tmps.getD 5 undef = .pointer (some ⟨A, 2, none⟩) := i4 2 _ 5 rfl rfl d2
      obtain ⟨c0, c1, c2, c3, c4, c5, c6⟩ := hF.1.1.seven?
      clear i1 i2 i3 i4 hdeps e1 e2 d2
      go_simp
      exact hK _ _ (World.grownBy.refl _ _) (hF.same (by decide)) (fun _ => rfl)
    | 4, ho =>
      obtain rfl := Option.some.inj ho
      clear i1 i2 i3 i4 hdeps
      go_simp
      exact hK _ _ (World.grownBy.refl _ _) (hF.same (by decide)) (fun _ => rfl)
    | 5, ho =>
      obtain rfl := Option.some.inj ho
      have d4 : l.getD 4 false = true := by
        simp [Region.binds] at hdeps ⊢
        simp [hdeps]
      have p : a.tmps.getD 7 undef = .pointer (some ⟨A, 5, none⟩) := i4 4 _ 7 rfl rfl d4
      obtain ⟨c0, c1, c2, c3, c4, c5, c6⟩ := hF.1.1.seven?
      clear i1 i2 i3 i4 hdeps e1 e2 d4
      go_simp
      exact hK _ _ (World.grownBy.refl _ _) (hF.same (by decide)) (fun _ => rfl)
    | 6, ho =>
      obtain rfl := Option.some.inj ho
      clear i1 i2 i3 i4 hdeps e1 e2
      go_simp
      exact hK _ _ (grown_of_below (alloc_below' _ _)) (hF.below (alloc_below' _ _) (by decide)) (fun _ => ⟨_, rfl, own_empty W base hF.1.2.2.2.2.2⟩)
    | 7, ho =>
      obtain rfl := Option.some.inj ho
      clear i1 i2 i3 i4 hdeps
      go_simp
      exact hK _ _ (World.grownBy.refl _ _) (hF.same (by decide)) (fun _ => rfl)
    | 8, ho =>
      obtain rfl := Option.some.inj ho
      have d7 : l.getD 7 false = true := by
        simp [Region.binds] at hdeps ⊢
        simp [hdeps]
      have p : a.tmps.getD 10 undef = .pointer (some ⟨A, 3, none⟩) := i4 7 _ 10 rfl rfl d7
      obtain ⟨c0, c1, c2, c3, c4, c5, c6⟩ := hF.1.1.seven?
      clear i1 i2 i3 i4 hdeps e1 e2 d7
      go_simp
      exact hK _ _ (World.grownBy.refl _ _) (hF.same (by decide)) (fun _ => rfl)
    | 9, ho =>
      obtain rfl := Option.some.inj ho
      have d6 : l.getD 6 false = true := by
        simp [Region.binds] at hdeps ⊢
        simp [hdeps]
      have d8 : l.getD 8 false = true := by
        simp [Region.binds] at hdeps ⊢
        simp [hdeps]
      obtain ⟨E, p1, ho⟩ : IsEmpty base W (a.tmps.getD 9 undef) := i4 6 _ 9 rfl rfl d6
      have p2 : a.tmps.getD 11 undef = kv := i4 8 _ 11 rfl rfl d8
      have hi := hF.1.2.2.1
      have hb := hF.1.2.2.2.2.2
      rw [p1] at ho
      clear i1 i2 i3 i4 hdeps e1 e2 d6 d8
      refine op_appE _ _ rfl E base kv m.key p1 p2 ho hi (by omega) hb fun v' w' h1 h2 h3 => ?_
      exact hK _ _ (grown_of_below h2) (hF.below h2 (by decide)) (fun _ => h1)
    | 10, ho =>
      obtain rfl := Option.some.inj ho
      clear i1 i2 i3 i4 hdeps
      go_simp
      exact hK _ _ (World.grownBy.refl _ _) (hF.same (by decide)) (fun _ => rfl)
    | 11, ho =>
      obtain rfl := Option.some.inj ho
      have d10 : l.getD 10 false = true := by
        simp [Region.binds] at hdeps ⊢
        simp [hdeps]
      have p : a.tmps.getD 13 undef = .pointer (some ⟨A, 6, none⟩) := i4 10 _ 13 rfl rfl d10
      obtain ⟨c0, c1, c2, c3, c4, c5, c6⟩ := hF.1.1.seven?
      clear i1 i2 i3 i4 hdeps e1 e2 d10
      go_simp
      exact hK _ _ (World.grownBy.refl _ _) (hF.same (by decide)) (fun _ => rfl)
    | 12, ho =>
      obtain rfl := Option.some.inj ho
      have d11 : l.getD 11 false = true := by
        simp [Region.binds] at hdeps ⊢
        simp [hdeps]
      have p : a.tmps.getD 14 undef = .bool m.miss := i4 11 _ 14 rfl rfl d11
      clear i1 i2 i3 i4 hdeps e1 e2 d11
      go_simp
      exact hK _ _ (World.grownBy.refl _ _) (hF.same (by decide)) (fun _ => rfl)
    | 13, ho =>
      obtain rfl := Option.some.inj ho
      clear i1 i2 i3 i4 hdeps e1 e2
      go_simp
      exact hK _ _ (grown_of_below (alloc_below' _ _)) (hF.below (alloc_below' _ _) (by decide)) (fun _ => ⟨_, rfl, own_empty W base hF.1.2.2.2.2.2⟩)
    | 14, ho =>
      obtain rfl := Option.some.inj ho
      clear i1 i2 i3 i4 hdeps
      go_simp
      exact hK _ _ (World.grownBy.refl _ _) (hF.same (by decide)) (fun _ => rfl)
    | 15, ho =>
      obtain rfl := Option.some.inj ho
      have d14 : l.getD 14 false = true := by
        simp [Region.binds] at hdeps ⊢
        simp [hdeps]
      have p : a.tmps.getD 17 undef = .pointer (some ⟨A, 4, none⟩) := i4 14 _ 17 rfl rfl d14
      obtain ⟨c0, c1, c2, c3, c4, c5, c6⟩ := hF.1.1.seven?
      clear i1 i2 i3 i4 hdeps e1 e2 d14
      go_simp
      exact hK _ _ (World.grownBy.refl _ _) (hF.same (by decide)) (fun _ => rfl)
    | 16, ho =>
      obtain rfl := Option.some.inj ho
      have d13 : l.getD 13 false = true := by
        simp [Region.binds] at hdeps ⊢
        simp [hdeps]
      have d15 : l.getD 15 false = true := by
        simp [Region.binds] at hdeps ⊢
        simp [hdeps]
      obtain ⟨E, p1, ho⟩ : IsEmpty base W (a.tmps.getD 16 undef) := i4 13 _ 16 rfl rfl d13
      have p2 : a.tmps.getD 18 undef = vv := i4 15 _ 18 rfl rfl d15
      have hi := hF.1.2.2.2.1
      have hb := hF.1.2.2.2.2.2
      rw [p1] at ho
      clear i1 i2 i3 i4 hdeps e1 e2 d13 d15
      refine op_appE _ _ rfl E base vv m.val p1 p2 ho hi (by omega) hb fun v' w' h1 h2 h3 => ?_
      exact hK _ _ (grown_of_below h2) (hF.below h2 (by decide)) (fun _ => h1)
    | 17, ho =>
      obtain rfl := Option.some.inj ho
      have d1 : l.getD 1 false = true := by
        simp [Region.binds] at hdeps ⊢
        simp [hdeps]
      have d3 : l.getD 3 false = true := by
        simp [Region.binds] at hdeps ⊢
        simp [hdeps]
      have d5 : l.getD 5 false = true := by
        simp [Region.binds] at hdeps ⊢
        simp [hdeps]
      have d9 : l.getD 9 false = true := by
        simp [Region.binds] at hdeps ⊢
        simp [hdeps]
      have d12 : l.getD 12 false = true := by
        simp [Region.binds] at hdeps ⊢
        simp [hdeps]
      have d16 : l.getD 16 false = true := by
        simp [Region.binds] at hdeps ⊢
        simp [hdeps]
      have p1 : a.tmps.getD 4 undef = .int .i64 m.off := i4 1 _ 4 rfl rfl d1
      have p3 : a.tmps.getD 6 undef = .int .i64 m.time := i4 3 _ 6 rfl rfl d3
      have p5 : a.tmps.getD 8 undef = .bool m.hk := i4 5 _ 8 rfl rfl d5
      have p12 : a.tmps.getD 15 undef = .bool (!m.miss) := i4 12 _ 15 rfl rfl d12
      have o9 : Own W base (a.tmps.getD 12 undef) m.key := i4 9 _ 12 rfl rfl d9
      have o16 : Own W base (a.tmps.getD 19 undef) m.val := i4 16 _ 19 rfl rfl d16
      obtain ⟨u1, hu1⟩ : ∃ u, a.tmps.getD 12 undef = u := ⟨_, rfl⟩
      obtain ⟨u3, hu3⟩ : ∃ u, a.tmps.getD 19 undef = u := ⟨_, rfl⟩
      rw [hu1] at o9
      rw [hu3] at o16
      obtain ⟨a1, cap1, rfl, _, _, _⟩ := o9.ints
      obtain ⟨a3, cap3, rfl, _, _, _⟩ := o16.ints
      rw [Array.getD_eq_getD_getElem?] at p1 p3 p5 p12 hu1 hu3
      clear i1 i2 i3 i4 hdeps e1 e2 d1 d3 d5 d9 d12 d16
      go_simp
      exact hK _ _ (World.grownBy.refl _ _) (hF.same (by decide)) (fun _ => ⟨_, _, _, _, rfl, o9, o16⟩)
    | 18, ho =>
      obtain rfl := Option.some.inj ho
      have d17 : l.getD 17 false = true := by
        simp [Region.binds] at hdeps ⊢
        simp [hdeps]
      obtain ⟨a1, cap1, a3, cap3, p, o1, o3⟩ : IsRec base m W (a.tmps.getD 20 undef) := i4 17 _ 20 rfl rfl d17
      obtain ⟨z0, z1, z2, z3, z4, z5, hZ⟩ := hF.1.2.1
      obtain ⟨q0, q1, q2, q3, q4, q5⟩ := hZ.sixO
      have fz := hZ.free
      have HF := Lib.hid (hF.store hZ o1 o3 hZb)
      clear i1 i2 i3 i4 hdeps e1 d17 hF
      go_simp
      exact hK undef _ (six_grown W Z _ _ _ _ _ _) HF.out (fun q => (q rfl).elim)
    | n + 19, ho =>
      have hx := (Array.getElem?_eq_some_iff.1 ho).1
      have hx2 : n + 19 < 19 := hx
      omega
  · intro l a W hI hall
    obtain ⟨i1, i2, i3, i4, hF⟩ := hI
    have e2 : a.tmps.getD 2 undef = .pointer (some ⟨Z, 0, none⟩) := i3 2 (by decide +kernel)
    obtain ⟨a1, cap1, a3, cap3, hz, o1, o3⟩ := hF.2 (hall 18 (by decide))
    have gW := hF.1.2.2.2.2.1
    obtain ⟨c0, c1, c2, c3, c4, c5⟩ := hz.sixO
    rw [Array.getD_eq_getD_getElem?] at e2
    clear i2 i3 i4 hF hall
    go_wp2_with fail
    refine bodyPost_ret (v := .agg #[.int .i64 m.off, .int .i64 m.time, .bool m.hk, .slice a1 m.key.length cap1, .bool (!m.miss), .slice a3 m.val.length cap3]) (by simp [results, Try.results47, go_sem, e2, c0, c1, c2, c3, c4, c5]) i1 ?_
    exact ⟨_, _, rfl, o1.base (by omega), o3.base (by omega), B0.grown gW B0.size (fun k hk => by simp only [Option.some.injEq] at hk; omega)⟩
end Go.Proofs.Ythlboonobepdaaa
