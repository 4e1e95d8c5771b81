/- The helpers of the laws on records: two are the same; one is marked, and held against its marks; its size. -/
import Derived.Test.YtomlejfilfdnbaaR0
import Derived.Test.YtomlejfilfdnbaaR1
import Derived.Test.YtomlejfilfdnbaaB0
import Derived.Deep.Cut
namespace Go.Proofs.Ytomlejfilfdnbaa
open Go.ChangeShapes Go.WideShapes Go.ChangeAt Go.RowKit
set_option linter.unusedVariables false

theorem laws_eqRecord (v u : Value) (r : Rec) (w : World) (h : RecV w v r) (g : RecV w u r) : Calls Try.prog 36 #[v, u] w (Same w true) := by
  obtain ⟨off, time, hk, key, hv, val⟩ := r
  have C1 : Hid (∀ wn a b, Ints wn a key → Ints wn b key → Calls Try.prog 46 #[a, b] wn (Same wn (key == key))) := fun wn a b ha hb => laws_eqIntS a b key key wn ha hb
  have C2 : Hid (∀ wn a b, Ints wn a val → Ints wn b val → Calls Try.prog 46 #[a, b] wn (Same wn (val == val))) := fun wn a b ha hb => laws_eqIntS a b val val wn ha hb
  rw [beq_self] at C1 C2
  obtain ⟨k1, v1, rfl, ik1, iv1⟩ := h
  obtain ⟨k2, v2, rfl, ik2, iv2⟩ := g
  simp only at ik1 iv1 ik2 iv2 ⊢
  have q1 : (off != off) = false := by simp
  have q2 : (time != time) = false := by simp
  have bw := Bstep (alloc_below' w (.cells #[.int .i64 off, .int .i64 time, .bool hk, k1, .bool hv, v1] 44)) (alloc_below' (w.alloc (.cells #[.int .i64 off, .int .i64 time, .bool hk, k1, .bool hv, v1] 44)) (.cells #[.int .i64 off, .int .i64 time, .bool hk, k2, .bool hv, v2] 44))
  have X1 : Hid (∀ W, Below ((w.alloc (.cells #[.int .i64 off, .int .i64 time, .bool hk, k1, .bool hv, v1] 44)).alloc (.cells #[.int .i64 off, .int .i64 time, .bool hk, k2, .bool hv, v2] 44)).heap.size ((w.alloc (.cells #[.int .i64 off, .int .i64 time, .bool hk, k1, .bool hv, v1] 44)).alloc (.cells #[.int .i64 off, .int .i64 time, .bool hk, k2, .bool hv, v2] 44)) W →
      BoxR W w.heap.size off time hk k1 hv v1 ∧ BoxR W (w.heap.size + 1) off time hk k2 hv v2) := fun W hW =>
    ⟨((BoxR.made w 44 off time hk k1 hv v1).below (by simp) (alloc_below' _ _)).below (by simp; omega) hW, by
      have := (BoxR.made (w.alloc (.cells #[.int .i64 off, .int .i64 time, .bool hk, k1, .bool hv, v1] 44)) 44 off time hk k2 hv v2).below (by simp) hW
      simpa using this⟩
  cases hk <;> cases hv
  all_goals
    go_enter Try.func36, Try.ntmps36
    go_wp2_with fail
    refine (C1.out _ _ _ (ik1.below bw) (ik2.below bw)).mono ?_
    rintro e w1 ⟨rfl, b1⟩
    have B1 := Bstep bw b1
    obtain ⟨⟨c0, c1, c2, c3, c4, c5⟩, d0, d1, d2, d3, d4, d5⟩ := X1.out w1 b1
    go_wp2_with fail
    refine (C2.out _ _ _ (iv1.below B1) (iv2.below B1)).mono ?_
    rintro e w2 ⟨rfl, b2⟩
    go_wp2_with fail
    go_ret
    exact ⟨rfl, Bstep B1 b2⟩

/-- a record of the call's own, its parts apart -/
def RecOwn (w : World) (base : Nat) (v : Value) (r : Rec) : Prop :=
  ∃ kv vv, v = .agg #[.int .i64 r.off, .int .i64 r.time, .bool r.hk, kv, .bool r.hv, vv] ∧ Own w base kv r.key ∧ Own w base vv r.val ∧ (∀ k, vv.ownBlock = some k → kv.ownBlock ≠ some k)
/-- a record whose parts hold the marks k, k + 1 .. -/
def RecMarked (w : World) (base : Nat) (v : Value) (r : Rec) (k : Int) : Prop :=
  ∃ kv vv, v = .agg #[.int .i64 r.off, .int .i64 r.time, .bool r.hk, kv, .bool r.hv, vv] ∧ Own w base kv (marks k r.key.length) ∧ Own w base vv (marks (k + (r.key.length : Int)) r.val.length)
/-- the parts of a record lie ahead of hi -/
def RecTop (v : Value) (hi : Nat) : Prop := ∃ a b c kv d vv, v = .agg #[a, b, c, kv, d, vv] ∧ (∀ k, kv.ownBlock = some k → k < hi) ∧ ∀ k, vv.ownBlock = some k → k < hi
theorem RecOwn.top {w : World} {base : Nat} {v : Value} {r : Rec} (h : RecOwn w base v r) : RecTop v w.heap.size := by
  obtain ⟨kv, vv, rfl, o1, o2, _⟩ := h
  exact ⟨_, _, _, kv, _, vv, rfl, o1.lt2, o2.lt2⟩

theorem alloc_size (w : World) (o : Obj) : (w.alloc o).heap.size = w.heap.size + 1 := by simp
/-- a copy of a record, in memory of its own -/
def RecCopy (w : World) (r : Rec) (e : Ending) (w' : World) : Prop := ∃ v, e = .returned v ∧ RecOwn w' w.heap.size v r ∧ Below w.heap.size w w'
set_option maxHeartbeats 1000000 in
theorem laws_toRecord (v : Value) (r : Rec) (w : World) (h : RecV w v r) (l1 : r.key.length ≤ 1000000000) (l2 : r.val.length ≤ 1000000000) : Calls Try.prog 33 #[v] w (RecCopy w r) := by
  obtain ⟨off, time, hk, key, hv, val⟩ := r
  simp only at l1 l2
  have C1 : Hid (∀ wn a, Ints wn a key → Calls Try.prog 44 #[a] wn (NewInts1 wn key)) := fun wn a ha => laws_toIntS a key wn ha l1
  have C2 : Hid (∀ wn a, Ints wn a val → Calls Try.prog 44 #[a] wn (NewInts1 wn val)) := fun wn a ha => laws_toIntS a val wn ha l2
  obtain ⟨kv, vv, rfl, ik, iv⟩ := h
  simp only at ik iv
  have bA := alloc_below' w (.cells #[.int .i64 off, .int .i64 time, .bool hk, kv, .bool hv, vv] 52)
  have bZ := alloc_below' (w.alloc (.cells #[.int .i64 off, .int .i64 time, .bool hk, kv, .bool hv, vv] 52)) (.cells #[.int .i64 0, .int .i64 0, .bool false, .slice none 0 0, .bool false, .slice none 0 0] 44)
  have bX := alloc_below' ((w.alloc (.cells #[.int .i64 off, .int .i64 time, .bool hk, kv, .bool hv, vv] 52)).alloc (.cells #[.int .i64 0, .int .i64 0, .bool false, .slice none 0 0, .bool false, .slice none 0 0] 44)) (.cells #[.int .i64 off, .int .i64 time, .bool hk, .slice none 0 0, .bool false, .slice none 0 0] 44)
  have xA := ((Box6.made w 52 (.int .i64 off) (.int .i64 time) (.bool hk) kv (.bool hv) vv).below (by simp) bZ).below (by simp; omega) bX
  have xZ := (Box6.made (w.alloc (.cells #[.int .i64 off, .int .i64 time, .bool hk, kv, .bool hv, vv] 52)) 44 (.int .i64 0) (.int .i64 0) (.bool false) (.slice none 0 0) (.bool false) (.slice none 0 0)).below (by simp) bX
  have tZ := (Thawed.made (w.alloc (.cells #[.int .i64 off, .int .i64 time, .bool hk, kv, .bool hv, vv] 52)) #[.int .i64 0, .int .i64 0, .bool false, .slice none 0 0, .bool false, .slice none 0 0] 44).below bX
  have xX := Box6.made ((w.alloc (.cells #[.int .i64 off, .int .i64 time, .bool hk, kv, .bool hv, vv] 52)).alloc (.cells #[.int .i64 0, .int .i64 0, .bool false, .slice none 0 0, .bool false, .slice none 0 0] 44)) 44 (.int .i64 off) (.int .i64 time) (.bool hk) (.slice none 0 0) (.bool false) (.slice none 0 0)
  have tX := Thawed.made ((w.alloc (.cells #[.int .i64 off, .int .i64 time, .bool hk, kv, .bool hv, vv] 52)).alloc (.cells #[.int .i64 0, .int .i64 0, .bool false, .slice none 0 0, .bool false, .slice none 0 0] 44)) #[.int .i64 off, .int .i64 time, .bool hk, .slice none 0 0, .bool false, .slice none 0 0] 44
  have B0 := Bstep (Bstep bA bZ) bX
  have ltA : w.heap.size < (((w.alloc (.cells #[.int .i64 off, .int .i64 time, .bool hk, kv, .bool hv, vv] 52)).alloc (.cells #[.int .i64 0, .int .i64 0, .bool false, .slice none 0 0, .bool false, .slice none 0 0] 44)).alloc (.cells #[.int .i64 off, .int .i64 time, .bool hk, .slice none 0 0, .bool false, .slice none 0 0] 44)).heap.size := by simp; omega
  clear bA bZ bX
  simp only [alloc_size] at xZ tZ xX tX
  go_enter Try.func33, Try.ntmps33
  go_upto_region 5 with (fail)
  generalize hwb : (((w.alloc (.cells #[.int .i64 off, .int .i64 time, .bool hk, kv, .bool hv, vv] 52)).alloc (.cells #[.int .i64 0, .int .i64 0, .bool false, .slice none 0 0, .bool false, .slice none 0 0] 44)).alloc (.cells #[.int .i64 off, .int .i64 time, .bool hk, .slice none 0 0, .bool false, .slice none 0 0] 44)) = wb at xA xZ tZ xX tX B0 ltA ⊢
  clear hwb
  obtain ⟨Z, hZ⟩ : ∃ Z, w.heap.size + 1 = Z := ⟨_, rfl⟩
  obtain ⟨X, hX⟩ : ∃ X, w.heap.size + 1 + 1 = X := ⟨_, rfl⟩
  rw [hX] at xX tX ⊢
  rw [hZ] at xZ tZ ⊢
  have hAX : w.heap.size ≠ X := by omega
  have hZX : Z ≠ X := by omega
  have hXA : X ≠ w.heap.size := by omega
  have hXZ : X ≠ Z := by omega
  have hZA : w.heap.size ≤ Z := by omega
  have hXA2 : w.heap.size ≤ X := by omega
  have hZX2 : Z < X := by omega
  have ikb := ik.below B0
  clear hZ hX
  obtain ⟨c0, c1, c2, c3, c4, c5⟩ := id xA
  go_wp2_with fail
  refine (C1.out wb kv ikb).mono ?_
  rintro e w1 ⟨k1, rfl, own1, b1⟩
  obtain ⟨a1, cap1, rfl, _, _, _⟩ := own1.ints
  have xA1 := xA.below ltA b1
  have xZ1 := xZ.below tZ.1 b1
  have tZ1 := tZ.below b1
  have xX1 := xX.below tX.1 b1
  have tX1 := tX.below b1
  have B1 := Bstep B0 b1
  have own1' : Own w1 (X + 1) (.slice a1 key.length cap1) key := own1.base tX.1
  clear c0 c1 c2 c3 c4 c5 xA xZ tZ xX tX own1
  obtain ⟨c0, c1, c2, c3, c4, c5⟩ := id xA1
  obtain ⟨d0, d1, d2, d3, d4, d5⟩ := id xX1
  have fx := tX1.2
  go_wp2_with fail
  have x2 := (xX1.set3 (.slice a1 key.length cap1)).set4 (.bool hv)
  have g2 : w1.grownBy ((w1.setCell ⟨X, 3, none⟩ (.slice a1 key.length cap1)).setCell ⟨X, 4, none⟩ (.bool hv)) (some X) := grown_trans (set_grown _ _ _ _) (set_grown _ _ _ _)
  generalize hW2 : ((w1.setCell ⟨X, 3, none⟩ (.slice a1 key.length cap1)).setCell ⟨X, 4, none⟩ (.bool hv)) = W2 at x2 g2 ⊢
  have xZ2 : Box6 W2 Z (.int .i64 0) (.int .i64 0) (.bool false) (.slice none 0 0) (.bool false) (.slice none 0 0) := by rw [← hW2]; exact (xZ1.setOther hXZ).setOther hXZ
  have tZ2 : Thawed W2 Z := by rw [← hW2]; exact tZ1.set.set
  have tX2 : Thawed W2 X := by rw [← hW2]; exact tX1.set.set
  have B2 : Below w.heap.size w W2 := by rw [← hW2]; exact (B1.setCell hXA2 _).setCell hXA2 _
  have own12 := own1'.by (Nat.lt_succ_self X) g2
  clear c0 c1 c2 c3 c4 c5 d0 d1 d2 d3 d4 d5 fx hW2 xA1 xZ1 tZ1 xX1 tX1 own1' g2
  refine (C2.out W2 vv (iv.below B2)).mono ?_
  rintro e w3 ⟨v1, rfl, own2, b3⟩
  obtain ⟨a2, cap2, rfl, _, _, _⟩ := own2.ints
  have apart := own12.apart own2
  have xZ3 := xZ2.below tZ2.1 b3
  have tZ3 := tZ2.below b3
  have xX3 := x2.below tX2.1 b3
  have tX3 := tX2.below b3
  have B3 := Bstep B2 b3
  have own13 := own12.below b3
  have own23 : Own w3 (X + 1) (.slice a2 val.length cap2) val := own2.base tX2.1
  clear xZ2 tZ2 x2 tX2 own12 own2 b3
  have x4 := xX3.set5 (.slice a2 val.length cap2)
  have z4 : Box6 (w3.setCell ⟨X, 5, none⟩ (.slice a2 val.length cap2)) Z (.int .i64 0) (.int .i64 0) (.bool false) (.slice none 0 0) (.bool false) (.slice none 0 0) := xZ3.setOther hXZ
  have own14 := own13.by (Nat.lt_succ_self X) (set_grown w3 X 5 (.slice a2 val.length cap2))
  have own24 := own23.by (Nat.lt_succ_self X) (set_grown w3 X 5 (.slice a2 val.length cap2))
  have B4 : Below w.heap.size w (w3.setCell ⟨X, 5, none⟩ (.slice a2 val.length cap2)) := B3.setCell hXA2 _
  obtain ⟨c0, c1, c2, c3, c4, c5⟩ := id xZ3
  obtain ⟨d0, d1, d2, d3, d4, d5⟩ := id xX3
  have fx := tX3.2
  have fz := tZ3.2
  go_wp2_with fail
  have box8 := Box6.store z4 (.int .i64 off) (.int .i64 time) (.bool hk) (.slice a1 key.length cap1) (.bool hv) (.slice a2 val.length cap2)
  have g8 := six_grown (w3.setCell ⟨X, 5, none⟩ (.slice a2 val.length cap2)) Z (.int .i64 off) (.int .i64 time) (.bool hk) (.slice a1 key.length cap1) (.bool hv) (.slice a2 val.length cap2)
  have bel8 := bel_six B4 hZA (.int .i64 off) (.int .i64 time) (.bool hk) (.slice a1 key.length cap1) (.bool hv) (.slice a2 val.length cap2)
  generalize hW8 : ((((((((w3.setCell ⟨X, 5, none⟩ (.slice a2 val.length cap2))).setCell ⟨Z, 0, none⟩ (.int .i64 off)).setCell ⟨Z, 1, none⟩ (.int .i64 time)).setCell ⟨Z, 2, none⟩ (.bool hk)).setCell ⟨Z, 3, none⟩ (.slice a1 key.length cap1)).setCell ⟨Z, 4, none⟩ (.bool hv)).setCell ⟨Z, 5, none⟩ (.slice a2 val.length cap2)) = W8 at box8 g8 bel8 ⊢
  have o1 := (own14.by (show Z < X + 1 by omega) g8).base (show w.heap.size ≤ X + 1 by omega)
  have o2 := (own24.by (show Z < X + 1 by omega) g8).base (show w.heap.size ≤ X + 1 by omega)
  clear c0 c1 c2 c3 c4 c5 d0 d1 d2 d3 d4 d5 fz fx hW8
  obtain ⟨c0, c1, c2, c3, c4, c5⟩ := box8
  refine bodyPost_ret (v := .agg #[.int .i64 off, .int .i64 time, .bool hk, .slice a1 key.length cap1, .bool hv, .slice a2 val.length cap2]) (by simp [results, Try.results33, go_sem, c0, c1, c2, c3, c4, c5]) rfl ?_
  exact ⟨_, rfl, ⟨_, _, rfl, o1, o2, apart⟩, bel8⟩

def szN (n : Nat) (left : Int) : Int := if left - (n : Int) < 0 then -1 else left - (n : Int)
theorem laws_szIntS (v : Value) (xs : List Int) (left : Int) (w : World) (h : Ints w v xs) (h0 : 0 ≤ left) (h1 : left ≤ 1000000000) :
    Calls Try.prog 42 #[v, .int .i64 left] w fun e w' => e = .returned (.int .i64 (szN xs.length left)) ∧ w = w' := by
  obtain ⟨a, cap, rfl, hl, hm, hc⟩ := h
  unfold maxLen at hm
  clear hc
  by_cases hn : left - (xs.length : Int) < 0
  · rw [show szN xs.length left = -1 from if_pos hn]
    have d0 : decide (left - (xs.length : Int) < 0) = true := decide_eq_true hn
    have d1 : decide (left < (xs.length : Int)) = true := decide_eq_true (by omega)
    go_enter Try.func42, Try.ntmps42
    go_wp2
    go_ret
    exact ⟨rfl, rfl⟩
  · rw [show szN xs.length left = left - (xs.length : Int) from if_neg hn]
    have d0 : decide (left - (xs.length : Int) < 0) = false := decide_eq_false hn
    have d1 : decide (left < (xs.length : Int)) = false := decide_eq_false (by omega)
    go_enter Try.func42, Try.ntmps42
    go_wp2
    go_ret
    exact ⟨rfl, rfl⟩
def SzRes (w : World) (r : Rec) (left : Int) (e : Ending) (w' : World) : Prop := (∃ n : Int, e = .returned (.int .i64 n) ∧ ((n = -1 ∧ left < (r.key.length : Int) + (r.val.length : Int)) ∨ (0 ≤ n ∧ n = left - (r.key.length : Int) - (r.val.length : Int)))) ∧ Below w.heap.size w w'
theorem laws_szRecord (v : Value) (r : Rec) (left : Int) (w : World) (h : RecV w v r) (h0 : 0 ≤ left) (h1 : left ≤ 1000000000) :
    Calls Try.prog 30 #[v, .int .i64 left] w (SzRes w r left) := by
  obtain ⟨off, time, hk, key, hv, val⟩ := r
  obtain ⟨kv, vv, rfl, ik, iv⟩ := h
  simp only at ik iv
  have bw := alloc_below' w (.cells #[.int .i64 off, .int .i64 time, .bool hk, kv, .bool hv, vv] 52)
  have C1 := Lib.hid (laws_szIntS kv key left _ (ik.below bw) h0 h1)
  by_cases hn : left - (key.length : Int) < 0
  · rw [show szN key.length left = -1 from if_pos hn] at C1
    go_enter Try.func30, Try.ntmps30
    go_wp2_with fail
    refine C1.out.mono ?_
    rintro e w1 ⟨rfl, rfl⟩
    go_wp2_with fail
    go_ret
    exact ⟨⟨_, rfl, .inl ⟨rfl, by show left < (key.length : Int) + (val.length : Int); omega⟩⟩, bw⟩
  · rw [show szN key.length left = left - (key.length : Int) from if_neg hn] at C1
    have d0 : decide (left - (key.length : Int) < 0) = false := decide_eq_false hn
    have d1 : decide (left < (key.length : Int)) = false := decide_eq_false (by omega)
    have C2 := Lib.hid (laws_szIntS vv val (left - (key.length : Int)) _ (iv.below bw) (by omega) (by omega))
    by_cases hn2 : left - (key.length : Int) - (val.length : Int) < 0
    · rw [show szN val.length (left - (key.length : Int)) = -1 from if_pos hn2] at C2
      go_enter Try.func30, Try.ntmps30
      go_wp2_with fail
      refine C1.out.mono ?_
      rintro e w1 ⟨rfl, rfl⟩
      go_wp2_with fail
      refine C2.out.mono ?_
      rintro e w1 ⟨rfl, rfl⟩
      go_wp2_with fail
      go_ret
      exact ⟨⟨_, rfl, .inl ⟨rfl, by show left < (key.length : Int) + (val.length : Int); omega⟩⟩, bw⟩
    · rw [show szN val.length (left - (key.length : Int)) = left - (key.length : Int) - (val.length : Int) from if_neg hn2] at C2
      have d2 : decide (left - (key.length : Int) - (val.length : Int) < 0) = false := decide_eq_false hn2
      go_enter Try.func30, Try.ntmps30
      go_wp2_with fail
      refine C1.out.mono ?_
      rintro e w1 ⟨rfl, rfl⟩
      go_wp2_with fail
      refine C2.out.mono ?_
      rintro e w1 ⟨rfl, rfl⟩
      go_wp2_with fail
      go_ret
      exact ⟨⟨_, rfl, .inr ⟨by omega, rfl⟩⟩, bw⟩
end Go.Proofs.Ytomlejfilfdnbaa
