/- Merged: L1 L5 L5b L5c. -/
import Derived.Test.YtfapeppocfodpaaR0
import Derived.Test.YtfapeppocfodpaaDX
import Derived.Test.YtfapeppocfodpaaB0
import Derived.Deep.Cut
import Derived.Test.YtfapeppocfodpaaR6
import Derived.Test.YtfapeppocfodpaaW5X
namespace Go.Proofs.Ytfapeppocfodpaa
open Go.ChangeShapes Go.WideShapes Go.ChangeAt Go.RowKit
set_option linter.unusedVariables false
set_option maxRecDepth 100000

-- L1

theorem laws_eqRecord (v u : Value) (r : Rec) (w : World) (h : RecV w v r) (g : RecV w u r) : Calls Try.prog 71 #[v, u] w (Same w true) := by
  obtain ⟨off, time, hk, key, hv, val⟩ := r
  have C1 : Hid (∀ wn a b, Ints wn a key → Ints wn b key → Calls Try.prog 13 #[a, b] wn (Same wn (key == key))) := fun wn a b ha hb => laws_eqIntS a b key key wn ha hb
  have C2 : Hid (∀ wn a b, Ints wn a val → Ints wn b val → Calls Try.prog 13 #[a, b] wn (Same wn (val == val))) := fun wn a b ha hb => laws_eqIntS a b val val wn ha hb
  rw [beq_self] at C1 C2
  obtain ⟨k1, v1, rfl, ik1, iv1⟩ := h
  obtain ⟨k2, v2, rfl, ik2, iv2⟩ := g
  simp only at ik1 iv1 ik2 iv2 ⊢
  have q1 : (off != off) = false := by simp
  have q2 : (time != time) = false := by simp
  have bw := Bstep (alloc_below' w (.cells #[.int .i64 off, .int .i64 time, .bool hk, k1, .bool hv, v1] 83)) (alloc_below' (w.alloc (.cells #[.int .i64 off, .int .i64 time, .bool hk, k1, .bool hv, v1] 83)) (.cells #[.int .i64 off, .int .i64 time, .bool hk, k2, .bool hv, v2] 83))
  have X1 : Hid (∀ W, Below ((w.alloc (.cells #[.int .i64 off, .int .i64 time, .bool hk, k1, .bool hv, v1] 83)).alloc (.cells #[.int .i64 off, .int .i64 time, .bool hk, k2, .bool hv, v2] 83)).heap.size ((w.alloc (.cells #[.int .i64 off, .int .i64 time, .bool hk, k1, .bool hv, v1] 83)).alloc (.cells #[.int .i64 off, .int .i64 time, .bool hk, k2, .bool hv, v2] 83)) W →
      BoxR W w.heap.size off time hk k1 hv v1 ∧ BoxR W (w.heap.size + 1) off time hk k2 hv v2) := fun W hW =>
    ⟨((BoxR.made w 83 off time hk k1 hv v1).below (by simp) (alloc_below' _ _)).below (by simp; omega) hW, by
      have := (BoxR.made (w.alloc (.cells #[.int .i64 off, .int .i64 time, .bool hk, k1, .bool hv, v1] 83)) 83 off time hk k2 hv v2).below (by simp) hW
      simpa using this⟩
  cases hk <;> cases hv
  all_goals
    go_enter Try.func71, Try.ntmps71
    go_wp2_with fail
    refine (C1.out _ _ _ (ik1.below bw) (ik2.below bw)).mono ?_
    rintro e w1 ⟨rfl, b1⟩
    have B1 := Bstep bw b1
    obtain ⟨⟨c0, c1, c2, c3, c4, c5⟩, d0, d1, d2, d3, d4, d5⟩ := X1.out w1 b1
    go_wp2_with fail
    refine (C2.out _ _ _ (iv1.below B1) (iv2.below B1)).mono ?_
    rintro e w2 ⟨rfl, b2⟩
    go_wp2_with fail
    go_ret
    exact ⟨rfl, Bstep B1 b2⟩

/-- a record of the call's own, its parts apart -/
def RecOwn (w : World) (base : Nat) (v : Value) (r : Rec) : Prop :=
  ∃ kv vv, v = .agg #[.int .i64 r.off, .int .i64 r.time, .bool r.hk, kv, .bool r.hv, vv] ∧ Own w base kv r.key ∧ Own w base vv r.val ∧ (∀ k, vv.ownBlock = some k → kv.ownBlock ≠ some k)
/-- a record whose parts hold the marks k, k + 1 .. -/
def RecMarked (w : World) (base : Nat) (v : Value) (r : Rec) (k : Int) : Prop :=
  ∃ kv vv, v = .agg #[.int .i64 r.off, .int .i64 r.time, .bool r.hk, kv, .bool r.hv, vv] ∧ Own w base kv (marks k r.key.length) ∧ Own w base vv (marks (k + (r.key.length : Int)) r.val.length)
/-- the parts of a record lie ahead of hi -/
def RecTop (v : Value) (hi : Nat) : Prop := ∃ a b c kv d vv, v = .agg #[a, b, c, kv, d, vv] ∧ (∀ k, kv.ownBlock = some k → k < hi) ∧ ∀ k, vv.ownBlock = some k → k < hi
theorem RecOwn.top {w : World} {base : Nat} {v : Value} {r : Rec} (h : RecOwn w base v r) : RecTop v w.heap.size := by
  obtain ⟨kv, vv, rfl, o1, o2, _⟩ := h
  exact ⟨_, _, _, kv, _, vv, rfl, o1.lt2, o2.lt2⟩

theorem alloc_size (w : World) (o : Obj) : (w.alloc o).heap.size = w.heap.size + 1 := by simp
/-- a copy of a record, in memory of its own -/
def RecCopy (w : World) (r : Rec) (e : Ending) (w' : World) : Prop := ∃ v, e = .returned v ∧ RecOwn w' w.heap.size v r ∧ Below w.heap.size w w'
set_option maxHeartbeats 1000000 in
theorem laws_toRecord (v : Value) (r : Rec) (w : World) (h : RecV w v r) (l1 : r.key.length ≤ 1000000000) (l2 : r.val.length ≤ 1000000000) : Calls Try.prog 68 #[v] w (RecCopy w r) := by
  obtain ⟨off, time, hk, key, hv, val⟩ := r
  simp only at l1 l2
  have C1 : Hid (∀ wn a, Ints wn a key → Calls Try.prog 85 #[a] wn (NewInts1 wn key)) := fun wn a ha => laws_toIntS a key wn ha l1
  have C2 : Hid (∀ wn a, Ints wn a val → Calls Try.prog 85 #[a] wn (NewInts1 wn val)) := fun wn a ha => laws_toIntS a val wn ha l2
  obtain ⟨kv, vv, rfl, ik, iv⟩ := h
  simp only at ik iv
  have bA := alloc_below' w (.cells #[.int .i64 off, .int .i64 time, .bool hk, kv, .bool hv, vv] 93)
  have bZ := alloc_below' (w.alloc (.cells #[.int .i64 off, .int .i64 time, .bool hk, kv, .bool hv, vv] 93)) (.cells #[.int .i64 0, .int .i64 0, .bool false, .slice none 0 0, .bool false, .slice none 0 0] 83)
  have bX := alloc_below' ((w.alloc (.cells #[.int .i64 off, .int .i64 time, .bool hk, kv, .bool hv, vv] 93)).alloc (.cells #[.int .i64 0, .int .i64 0, .bool false, .slice none 0 0, .bool false, .slice none 0 0] 83)) (.cells #[.int .i64 off, .int .i64 time, .bool hk, .slice none 0 0, .bool false, .slice none 0 0] 83)
  have xA := ((Box6.made w 93 (.int .i64 off) (.int .i64 time) (.bool hk) kv (.bool hv) vv).below (by simp) bZ).below (by simp; omega) bX
  have xZ := (Box6.made (w.alloc (.cells #[.int .i64 off, .int .i64 time, .bool hk, kv, .bool hv, vv] 93)) 83 (.int .i64 0) (.int .i64 0) (.bool false) (.slice none 0 0) (.bool false) (.slice none 0 0)).below (by simp) bX
  have tZ := (Thawed.made (w.alloc (.cells #[.int .i64 off, .int .i64 time, .bool hk, kv, .bool hv, vv] 93)) #[.int .i64 0, .int .i64 0, .bool false, .slice none 0 0, .bool false, .slice none 0 0] 83).below bX
  have xX := Box6.made ((w.alloc (.cells #[.int .i64 off, .int .i64 time, .bool hk, kv, .bool hv, vv] 93)).alloc (.cells #[.int .i64 0, .int .i64 0, .bool false, .slice none 0 0, .bool false, .slice none 0 0] 83)) 83 (.int .i64 off) (.int .i64 time) (.bool hk) (.slice none 0 0) (.bool false) (.slice none 0 0)
  have tX := Thawed.made ((w.alloc (.cells #[.int .i64 off, .int .i64 time, .bool hk, kv, .bool hv, vv] 93)).alloc (.cells #[.int .i64 0, .int .i64 0, .bool false, .slice none 0 0, .bool false, .slice none 0 0] 83)) #[.int .i64 off, .int .i64 time, .bool hk, .slice none 0 0, .bool false, .slice none 0 0] 83
  have B0 := Bstep (Bstep bA bZ) bX
  have ltA : w.heap.size < (((w.alloc (.cells #[.int .i64 off, .int .i64 time, .bool hk, kv, .bool hv, vv] 93)).alloc (.cells #[.int .i64 0, .int .i64 0, .bool false, .slice none 0 0, .bool false, .slice none 0 0] 83)).alloc (.cells #[.int .i64 off, .int .i64 time, .bool hk, .slice none 0 0, .bool false, .slice none 0 0] 83)).heap.size := by simp; omega
  clear bA bZ bX
  simp only [alloc_size] at xZ tZ xX tX
  go_enter Try.func68, Try.ntmps68
  go_upto_region 5 with (fail)
  generalize hwb : (((w.alloc (.cells #[.int .i64 off, .int .i64 time, .bool hk, kv, .bool hv, vv] 93)).alloc (.cells #[.int .i64 0, .int .i64 0, .bool false, .slice none 0 0, .bool false, .slice none 0 0] 83)).alloc (.cells #[.int .i64 off, .int .i64 time, .bool hk, .slice none 0 0, .bool false, .slice none 0 0] 83)) = wb at xA xZ tZ xX tX B0 ltA ⊢
  clear hwb
  obtain ⟨Z, hZ⟩ : ∃ Z, w.heap.size + 1 = Z := ⟨_, rfl⟩
  obtain ⟨X, hX⟩ : ∃ X, w.heap.size + 1 + 1 = X := ⟨_, rfl⟩
  rw [hX] at xX tX ⊢
  rw [hZ] at xZ tZ ⊢
  have hAX : w.heap.size ≠ X := by omega
  have hZX : Z ≠ X := by omega
  have hXA : X ≠ w.heap.size := by omega
  have hXZ : X ≠ Z := by omega
  have hZA : w.heap.size ≤ Z := by omega
  have hXA2 : w.heap.size ≤ X := by omega
  have hZX2 : Z < X := by omega
  have ikb := ik.below B0
  clear hZ hX
  obtain ⟨c0, c1, c2, c3, c4, c5⟩ := id xA
  go_wp2_with fail
  refine (C1.out wb kv ikb).mono ?_
  rintro e w1 ⟨k1, rfl, own1, b1⟩
  obtain ⟨a1, cap1, rfl, _, _, _⟩ := own1.ints
  have xA1 := xA.below ltA b1
  have xZ1 := xZ.below tZ.1 b1
  have tZ1 := tZ.below b1
  have xX1 := xX.below tX.1 b1
  have tX1 := tX.below b1
  have B1 := Bstep B0 b1
  have own1' : Own w1 (X + 1) (.slice a1 key.length cap1) key := own1.base tX.1
  clear c0 c1 c2 c3 c4 c5 xA xZ tZ xX tX own1
  obtain ⟨c0, c1, c2, c3, c4, c5⟩ := id xA1
  obtain ⟨d0, d1, d2, d3, d4, d5⟩ := id xX1
  have fx := tX1.2
  go_wp2_with fail
  have x2 := (xX1.set3 (.slice a1 key.length cap1)).set4 (.bool hv)
  have g2 : w1.grownBy ((w1.setCell ⟨X, 3, none⟩ (.slice a1 key.length cap1)).setCell ⟨X, 4, none⟩ (.bool hv)) (some X) := grown_trans (set_grown _ _ _ _) (set_grown _ _ _ _)
  generalize hW2 : ((w1.setCell ⟨X, 3, none⟩ (.slice a1 key.length cap1)).setCell ⟨X, 4, none⟩ (.bool hv)) = W2 at x2 g2 ⊢
  have xZ2 : Box6 W2 Z (.int .i64 0) (.int .i64 0) (.bool false) (.slice none 0 0) (.bool false) (.slice none 0 0) := by rw [← hW2]; exact (xZ1.setOther hXZ).setOther hXZ
  have tZ2 : Thawed W2 Z := by rw [← hW2]; exact tZ1.set.set
  have tX2 : Thawed W2 X := by rw [← hW2]; exact tX1.set.set
  have B2 : Below w.heap.size w W2 := by rw [← hW2]; exact (B1.setCell hXA2 _).setCell hXA2 _
  have own12 := own1'.by (Nat.lt_succ_self X) g2
  clear c0 c1 c2 c3 c4 c5 d0 d1 d2 d3 d4 d5 fx hW2 xA1 xZ1 tZ1 xX1 tX1 own1' g2
  refine (C2.out W2 vv (iv.below B2)).mono ?_
  rintro e w3 ⟨v1, rfl, own2, b3⟩
  obtain ⟨a2, cap2, rfl, _, _, _⟩ := own2.ints
  have apart := own12.apart own2
  have xZ3 := xZ2.below tZ2.1 b3
  have tZ3 := tZ2.below b3
  have xX3 := x2.below tX2.1 b3
  have tX3 := tX2.below b3
  have B3 := Bstep B2 b3
  have own13 := own12.below b3
  have own23 : Own w3 (X + 1) (.slice a2 val.length cap2) val := own2.base tX2.1
  clear xZ2 tZ2 x2 tX2 own12 own2 b3
  have x4 := xX3.set5 (.slice a2 val.length cap2)
  have z4 : Box6 (w3.setCell ⟨X, 5, none⟩ (.slice a2 val.length cap2)) Z (.int .i64 0) (.int .i64 0) (.bool false) (.slice none 0 0) (.bool false) (.slice none 0 0) := xZ3.setOther hXZ
  have own14 := own13.by (Nat.lt_succ_self X) (set_grown w3 X 5 (.slice a2 val.length cap2))
  have own24 := own23.by (Nat.lt_succ_self X) (set_grown w3 X 5 (.slice a2 val.length cap2))
  have B4 : Below w.heap.size w (w3.setCell ⟨X, 5, none⟩ (.slice a2 val.length cap2)) := B3.setCell hXA2 _
  obtain ⟨c0, c1, c2, c3, c4, c5⟩ := id xZ3
  obtain ⟨d0, d1, d2, d3, d4, d5⟩ := id xX3
  have fx := tX3.2
  have fz := tZ3.2
  go_wp2_with fail
  have box8 := Box6.store z4 (.int .i64 off) (.int .i64 time) (.bool hk) (.slice a1 key.length cap1) (.bool hv) (.slice a2 val.length cap2)
  have g8 := six_grown (w3.setCell ⟨X, 5, none⟩ (.slice a2 val.length cap2)) Z (.int .i64 off) (.int .i64 time) (.bool hk) (.slice a1 key.length cap1) (.bool hv) (.slice a2 val.length cap2)
  have bel8 := bel_six B4 hZA (.int .i64 off) (.int .i64 time) (.bool hk) (.slice a1 key.length cap1) (.bool hv) (.slice a2 val.length cap2)
  generalize hW8 : ((((((((w3.setCell ⟨X, 5, none⟩ (.slice a2 val.length cap2))).setCell ⟨Z, 0, none⟩ (.int .i64 off)).setCell ⟨Z, 1, none⟩ (.int .i64 time)).setCell ⟨Z, 2, none⟩ (.bool hk)).setCell ⟨Z, 3, none⟩ (.slice a1 key.length cap1)).setCell ⟨Z, 4, none⟩ (.bool hv)).setCell ⟨Z, 5, none⟩ (.slice a2 val.length cap2)) = W8 at box8 g8 bel8 ⊢
  have o1 := (own14.by (show Z < X + 1 by omega) g8).base (show w.heap.size ≤ X + 1 by omega)
  have o2 := (own24.by (show Z < X + 1 by omega) g8).base (show w.heap.size ≤ X + 1 by omega)
  clear c0 c1 c2 c3 c4 c5 d0 d1 d2 d3 d4 d5 fz fx hW8
  obtain ⟨c0, c1, c2, c3, c4, c5⟩ := box8
  refine bodyPost_ret (v := .agg #[.int .i64 off, .int .i64 time, .bool hk, .slice a1 key.length cap1, .bool hv, .slice a2 val.length cap2]) (by simp [results, Try.results68, go_sem, c0, c1, c2, c3, c4, c5]) rfl ?_
  exact ⟨_, rfl, ⟨_, _, rfl, o1, o2, apart⟩, bel8⟩

def szN (n : Nat) (left : Int) : Int := if left - (n : Int) < 0 then -1 else left - (n : Int)
theorem laws_szIntS (v : Value) (xs : List Int) (left : Int) (w : World) (h : Ints w v xs) (h0 : 0 ≤ left) (h1 : left ≤ 1000000000) :
    Calls Try.prog 83 #[v, .int .i64 left] w fun e w' => e = .returned (.int .i64 (szN xs.length left)) ∧ w = w' := by
  obtain ⟨a, cap, rfl, hl, hm, hc⟩ := h
  unfold maxLen at hm
  clear hc
  by_cases hn : left - (xs.length : Int) < 0
  · rw [show szN xs.length left = -1 from if_pos hn]
    have d0 : decide (left - (xs.length : Int) < 0) = true := decide_eq_true hn
    have d1 : decide (left < (xs.length : Int)) = true := decide_eq_true (by omega)
    go_enter Try.func83, Try.ntmps83
    go_wp2
    go_ret
    exact ⟨rfl, rfl⟩
  · rw [show szN xs.length left = left - (xs.length : Int) from if_neg hn]
    have d0 : decide (left - (xs.length : Int) < 0) = false := decide_eq_false hn
    have d1 : decide (left < (xs.length : Int)) = false := decide_eq_false (by omega)
    go_enter Try.func83, Try.ntmps83
    go_wp2
    go_ret
    exact ⟨rfl, rfl⟩
def SzRes (w : World) (r : Rec) (left : Int) (e : Ending) (w' : World) : Prop := (∃ n : Int, e = .returned (.int .i64 n) ∧ ((n = -1 ∧ left < (r.key.length : Int) + (r.val.length : Int)) ∨ (0 ≤ n ∧ n = left - (r.key.length : Int) - (r.val.length : Int)))) ∧ Below w.heap.size w w'
theorem laws_szRecord (v : Value) (r : Rec) (left : Int) (w : World) (h : RecV w v r) (h0 : 0 ≤ left) (h1 : left ≤ 1000000000) :
    Calls Try.prog 66 #[v, .int .i64 left] w (SzRes w r left) := by
  obtain ⟨off, time, hk, key, hv, val⟩ := r
  obtain ⟨kv, vv, rfl, ik, iv⟩ := h
  simp only at ik iv
  have bw := alloc_below' w (.cells #[.int .i64 off, .int .i64 time, .bool hk, kv, .bool hv, vv] 93)
  have C1 := Lib.hid (laws_szIntS kv key left _ (ik.below bw) h0 h1)
  by_cases hn : left - (key.length : Int) < 0
  · rw [show szN key.length left = -1 from if_pos hn] at C1
    go_enter Try.func66, Try.ntmps66
    go_wp2_with fail
    refine C1.out.mono ?_
    rintro e w1 ⟨rfl, rfl⟩
    go_wp2_with fail
    go_ret
    exact ⟨⟨_, rfl, .inl ⟨rfl, by show left < (key.length : Int) + (val.length : Int); omega⟩⟩, bw⟩
  · rw [show szN key.length left = left - (key.length : Int) from if_neg hn] at C1
    have d0 : decide (left - (key.length : Int) < 0) = false := decide_eq_false hn
    have d1 : decide (left < (key.length : Int)) = false := decide_eq_false (by omega)
    have C2 := Lib.hid (laws_szIntS vv val (left - (key.length : Int)) _ (iv.below bw) (by omega) (by omega))
    by_cases hn2 : left - (key.length : Int) - (val.length : Int) < 0
    · rw [show szN val.length (left - (key.length : Int)) = -1 from if_pos hn2] at C2
      go_enter Try.func66, Try.ntmps66
      go_wp2_with fail
      refine C1.out.mono ?_
      rintro e w1 ⟨rfl, rfl⟩
      go_wp2_with fail
      refine C2.out.mono ?_
      rintro e w1 ⟨rfl, rfl⟩
      go_wp2_with fail
      go_ret
      exact ⟨⟨_, rfl, .inl ⟨rfl, by show left < (key.length : Int) + (val.length : Int); omega⟩⟩, bw⟩
    · rw [show szN val.length (left - (key.length : Int)) = left - (key.length : Int) - (val.length : Int) from if_neg hn2] at C2
      have d2 : decide (left - (key.length : Int) - (val.length : Int) < 0) = false := decide_eq_false hn2
      go_enter Try.func66, Try.ntmps66
      go_wp2_with fail
      refine C1.out.mono ?_
      rintro e w1 ⟨rfl, rfl⟩
      go_wp2_with fail
      refine C2.out.mono ?_
      rintro e w1 ⟨rfl, rfl⟩
      go_wp2_with fail
      go_ret
      exact ⟨⟨_, rfl, .inr ⟨by omega, rfl⟩⟩, bw⟩
-- L5

/-- how many elements records have together, their own number counted -/
def szL : List Rec → Nat
  | [] => 0
  | r :: rs => r.key.length + r.val.length + szL rs
theorem szL_at (rs : List Rec) : ∀ i, i < rs.length → (recAt rs i).key.length + (recAt rs i).val.length ≤ szL rs := by
  induction rs with
  | nil => intro i h; simp at h
  | cons r rs ih =>
    intro i h
    cases i with
    | zero => simp only [szL]; have : recAt (r :: rs) 0 = r := rfl; rw [this]; omega
    | succ i =>
      have := ih i (by simpa using h)
      have e : recAt (r :: rs) (i + 1) = recAt rs i := rfl
      rw [e]; simp only [szL]; omega
theorem szL_take (rs : List Rec) (k : Nat) (h : k < rs.length) : szL (rs.take (k + 1)) = szL (rs.take k) + (recAt rs k).key.length + (recAt rs k).val.length := by
  induction rs generalizing k with
  | nil => simp at h
  | cons r rs ih =>
    cases k with
    | zero => simp [szL]; rfl
    | succ k =>
      have := ih k (by simpa using h)
      have e : recAt (r :: rs) (k + 1) = recAt rs k := rfl
      simp only [List.take_succ_cons, szL, e]
      omega
theorem szL_le (rs : List Rec) : ∀ k, szL (rs.take k) ≤ szL rs := by
  induction rs with
  | nil => intro k; simp
  | cons r rs ih =>
    intro k
    cases k with
    | zero => simp [szL]
    | succ k => simp only [List.take_succ_cons, szL]; have := ih k; omega
/-- what a size comes to: -1 if too much, what is left if not -/
def SzN (n : Nat) (left : Int) (w : World) (e : Ending) (w' : World) : Prop := (∃ m : Int, e = .returned (.int .i64 m) ∧ ((m = -1 ∧ left < (n : Int)) ∨ (0 ≤ m ∧ m = left - (n : Int)))) ∧ Below w.heap.size w w'

set_option maxHeartbeats 1000000 in
theorem laws_szRecordS (v : Value) (rs : List Rec) (left : Int) (w : World) (h : Recs w v rs) (h0 : 0 ≤ left) (h1 : left ≤ 1000000000) :
    Calls Try.prog 50 #[v, .int .i64 left] w (SzN (rs.length + szL rs) left w) := by
  have hv := h
  obtain ⟨a, cap, rfl, hl, hm, hc⟩ := h
  unfold maxLen at hm
  clear hc
  by_cases hn : left - (rs.length : Int) < 0
  · have d0 : decide (left - (rs.length : Int) < 0) = true := decide_eq_true hn
    have d1 : decide (left < (rs.length : Int)) = true := decide_eq_true (by omega)
    have fin : SzN (rs.length + szL rs) left w (.returned (.int .i64 (-1))) w := ⟨⟨_, rfl, .inl ⟨rfl, by omega⟩⟩, Below.refl _ _⟩
    have Fin := Lib.hid fin
    clear fin
    go_enter Try.func50, Try.ntmps50
    go_wp2_with fail
    go_ret
    exact Fin.out
  · have d0 : decide (left - (rs.length : Int) < 0) = false := decide_eq_false hn
    have d1 : decide (left < (rs.length : Int)) = false := decide_eq_false (by omega)
    have b0 : 0 ≤ left - (rs.length : Int) := by omega
    go_enter Try.func50, Try.ntmps50
    go_wp2_with fail
    go_loopw [1, 5] (fun l i wr => ∃ (k : Nat) (m : Int), k ≤ rs.length ∧ i = .int .i64 k ∧ l = .int .i64 m ∧ 0 ≤ m ∧ m + (rs.length : Int) + (szL (rs.take k) : Int) = left ∧ Below w.heap.size w wr) (fun _ i _ => rs.length - (intOf i).toNat)
    case atStart => exact ⟨0, left - (rs.length : Int), Nat.zero_le _, rfl, rfl, b0, by simp [szL], Below.refl _ _⟩
    case round =>
      obtain ⟨k, m, hk, rfl, rfl, m0, hsum, bel⟩ := hrel
      have m1 : m ≤ 1000000000 := by omega
      have HSum := Lib.hid hsum
      clear hsum
      by_cases hlt : k < rs.length
      · obtain ⟨b, off, cap', e, hm'⟩ := hv.form (by omega)
        simp only [Value.slice.injEq, true_and] at e
        obtain ⟨rfl, rfl⟩ := e
        have hvr := hv.below bel
        obtain ⟨r, a1, c1, a2, c2, Hr, hR⟩ := hvr.parts k hlt
        have C1 := Lib.hid (laws_szRecord _ r m wr hR.recV m0 m1)
        have Hst := Lib.hid (szL_take rs k hlt)
        obtain ⟨e0, e1, e2, e3, e4, e5, _, _⟩ := hR
        go_wp2_with fail
        (with_reducible refine C1.out.mono ?_)
        rintro e w2 ⟨⟨q, rfl, hq⟩, b2⟩
        have B2 := Bstep bel b2
        rcases hq with ⟨rfl, hq⟩ | ⟨q0, hq⟩
        · have fin : SzN (rs.length + szL rs) left w (.returned (.int .i64 (-1))) w2 := ⟨⟨_, rfl, .inl ⟨rfl, by have := szL_at rs k hlt; have h3 := Hst.out; rw [Hr.out] at h3 this; have h4 := HSum.out; have h5 : szL (rs.take (k + 1)) ≤ szL rs := szL_le rs (k + 1); omega⟩⟩, B2⟩
          have Fin := Lib.hid fin
          clear fin hq
          go_wp2_with fail
          go_ret
          exact Fin.out
        · have d2 : decide (q < 0) = false := decide_eq_false (by omega)
          have hn2 : q + (rs.length : Int) + (szL (rs.take (k + 1)) : Int) = left := by have h3 := Hst.out; rw [Hr.out] at h3; have h4 := HSum.out; omega
          have Hn2 := Lib.hid hn2
          clear hn2 hq
          go_wp2_with fail
          go_roundw
          case rel => exact ⟨k + 1, q, by omega, by go_num, rfl, q0, Hn2.out, B2⟩
          case measure => simp [intOf]; omega
      · have fin : SzN (rs.length + szL rs) left w (.returned (.int .i64 m)) wr := ⟨⟨_, rfl, .inr ⟨m0, by have h4 := HSum.out; rw [List.take_of_length_le (by omega)] at h4; omega⟩⟩, bel⟩
        have Fin := Lib.hid fin
        clear fin
        go_wp2_with fail
        go_ret
        exact Fin.out
theorem laws_szBatch (v : Value) (b : Bat) (left : Int) (w : World) (h : BatV w v b) (h0 : 0 ≤ left) (h1 : left ≤ 1000000000) :
    Calls Try.prog 29 #[v, .int .i64 left] w (SzN (b.recs.length + szL b.recs) left w) := by
  obtain ⟨a, cap, rfl, hr, hl, hm⟩ := h.parts
  have bw := alloc_below' w (.cells #[.bool b.packed, .bool b.mark, .int .i64 b.prod, .int .i64 b.epoch, .int .i64 b.seq, .slice a b.recs.length cap] 50)
  have C1 := Lib.hid (laws_szRecordS _ b.recs left _ (hr.below bw) h0 h1)
  have Bw := Lib.hid bw
  clear hr h
  obtain ⟨packed, mark, prod, epoch, seq, recs⟩ := b
  simp only at C1 Bw hl ⊢
  go_enter Try.func29, Try.ntmps29
  go_wp2_with fail
  (with_reducible refine C1.out.mono ?_)
  rintro e w2 ⟨⟨q, rfl, hq⟩, b2⟩
  have fin : SzN (recs.length + szL recs) left w (.returned (.int .i64 q)) w2 := ⟨⟨_, rfl, hq⟩, Bstep Bw.out b2⟩
  have Fin := Lib.hid fin
  clear fin
  rcases hq with ⟨rfl, hq⟩ | ⟨q0, hq⟩
  · clear hq
    go_wp2_with fail
    go_ret
    exact Fin.out
  · have d2 : decide (q < 0) = false := decide_eq_false (by omega)
    clear hq
    go_wp2_with fail
    go_ret
    exact Fin.out
-- L5b

theorem info_rec : (Try.prog.info? 83).map (fun i => (i.zero, i.size, i.bytes)) = some (some (.agg #[.int .i64 0, .int .i64 0, .bool false, .slice none 0 0, .bool false, .slice none 0 0]), 6, 80) := by kernel_rfl
/-- 'make([]impl.Record, n)' -/
theorem wp_makeR {w : World} {ops : Array Oper} {rest : List Oper} {o : Oper} {a : Act} {Q : Exit → Act → World → Prop}
    (hg : o.guard = none) (l c : Operand) (hop : o.op = Op.makeSlice 41 l c)
    (base : Nat) (L C : Int) (n : Nat) (hl : a.eval l = .int .i64 L) (hc : a.eval c = .int .i64 C) (hL : L = (n : Int)) (hC : C = (n : Int)) (b2 : n ≤ 1000000000) (b4 : base ≤ w.heap.size)
    (hK : ∀ w' f, Row6 w' base (.slice (some ⟨w.heap.size, 0, none⟩) n n) n f → w.grownBy w' none → wpList Try.prog ops Q rest (a.put o.dst (.slice (some ⟨w.heap.size, 0, none⟩) n n)) w') :
    wpList Try.prog ops Q (o :: rest) a w := by
  obtain ⟨i0, hi, hz0, hz1, hz2⟩ := info_parts info_rec
  refine wpList_make_full w hg l c 41 hop base 83 i0 _ 6 Try.underlying41 hi hz0 hz1 .i64 .i64 L C n hl hc hL hC (by rw [hz2]; omega) (by unfold maxLen; omega) b4 ?_
  intro w' hown hgrow
  refine hK w' (fun i => ((madeCells (Value.agg #[.int .i64 0, .int .i64 0, .bool false, .slice none 0 0, .bool false, .slice none 0 0]).cells (n * 6)).toList)[i]?.getD undef) ⟨_, hown, fun i hi => ?_⟩ hgrow
  have hlen := hown.1
  dsimp only
  rw [List.getElem?_eq_getElem (by omega)]
  rfl
/-- a copy of records, in memory of its own -/
def RecsCopy (w : World) (rs : List Rec) (e : Ending) (w' : World) : Prop := ∃ v, e = .returned v ∧ OwnRecs w' w.heap.size v rs ∧ Below w.heap.size w w'
theorem six_lt (v0 v1 v2 v3 v4 v5 : Value) : six v0 v1 v2 v3 v4 v5 0 = v0 ∧ six v0 v1 v2 v3 v4 v5 1 = v1 ∧ six v0 v1 v2 v3 v4 v5 2 = v2 ∧ six v0 v1 v2 v3 v4 v5 3 = v3 ∧ six v0 v1 v2 v3 v4 v5 4 = v4 ∧ six v0 v1 v2 v3 v4 v5 5 = v5 := ⟨rfl, rfl, rfl, rfl, rfl, rfl⟩
/-- the first j records of a row are in place -/
def RowUpto (wr : World) (base : Nat) (v : Value) (n : Nat) (rs : List Rec) (j : Nat) : Prop :=
  ∃ (f kv vv : Nat → Value), Row6 wr base v n f ∧ (∀ i, i < j * 6 → f i = rowF rs kv vv i) ∧ (∀ i, i < j → Own wr base (kv i) (recAt rs i).key ∧ Own wr base (vv i) (recAt rs i).val) ∧ Sep v kv vv j
theorem RowUpto.below {w w' : World} {base n j : Nat} {v : Value} {rs : List Rec} (h : RowUpto w base v n rs j) (hb : Below w.heap.size w w') : RowUpto w' base v n rs j := by
  obtain ⟨f, kv, vv, h1, h2, h3, h4⟩ := h
  exact ⟨f, kv, vv, h1.below hb, h2, fun i hi => ⟨(h3 i hi).1.below hb, (h3 i hi).2.below hb⟩, h4⟩
theorem RowUpto.done {w : World} {base : Nat} {v : Value} {rs : List Rec} (h : RowUpto w base v rs.length rs rs.length) : OwnRecs w base v rs := by
  obtain ⟨f, kv, vv, h1, h2, h3, h4⟩ := h
  exact ⟨kv, vv, h1.congr h2, h3, h4⟩
theorem RowUpto.cells {w : World} {base g cap n j : Nat} {rs : List Rec} (h : RowUpto w base (.slice (some ⟨g, 0, none⟩) n cap) n rs j) : base ≤ g ∧ g < w.heap.size ∧ (∀ i, i < n * 6 → ∃ u, w.cell? ⟨g, i, none⟩ = some u) ∧ ∀ i, w.frozen? ⟨g, i, none⟩ = false := by
  obtain ⟨f, kv, vv, h1, h2, h3, h4⟩ := h
  have := h1.lt g rfl
  exact ⟨this.1, this.2, fun i hi => ⟨_, h1.cell i hi⟩, h1.frozen⟩
/-- one record more is put into its place -/
theorem RowUpto.put {w0 w : World} {base g cap n j m : Nat} {rs : List Rec} {r : Rec} {k1 v1 : Value} (h : RowUpto w0 base (.slice (some ⟨g, 0, none⟩) n cap) n rs j) (hb : Below w0.heap.size w0 w) (hj : j < n) (hr : recAt rs j = r)
    (hm : m = w0.heap.size) (o1 : Own w m k1 r.key) (o2 : Own w m v1 r.val) (ap : ∀ k, v1.ownBlock = some k → k1.ownBlock ≠ some k) :
    RowUpto ((((((w.setCell ⟨g, j * 6, none⟩ (.int .i64 r.off)).setCell ⟨g, j * 6 + 1, none⟩ (.int .i64 r.time)).setCell ⟨g, j * 6 + 2, none⟩ (.bool r.hk)).setCell ⟨g, j * 6 + 3, none⟩ k1).setCell ⟨g, j * 6 + 4, none⟩ (.bool r.hv)).setCell ⟨g, j * 6 + 5, none⟩ v1)
      base (.slice (some ⟨g, 0, none⟩) n cap) n rs (j + 1) := by
  subst hm
  subst hr
  obtain ⟨f, kv, vv, h1, h2, h3, h4⟩ := h
  have hg := h1.lt g rfl
  have hlt := partB_lt (n := j) h1 h3
  have G := set6_grown w g (j * 6) (.int .i64 (recAt rs j).off) (.int .i64 (recAt rs j).time) (.bool (recAt rs j).hk) k1 (.bool (recAt rs j).hv) v1
  have key : ∀ {u : Value} {xs : List Int} {b : Nat}, Own w b u xs → (∀ k, u.ownBlock = some k → k ≠ g) → b ≥ base → Own _ base u xs := fun {u xs b} ho hne hbb => (ho.grown G (by
    cases e : u.ownBlock with
    | none => exact .inl rfl
    | some q => exact .inr fun e2 => hne q e (by simpa using e2))).base hbb
  refine ⟨_, (fun i => if i = j then k1 else kv i), (fun i => if i = j then v1 else vv i), (h1.below hb).set6 j hj _ _ _ _ _ _, fun i hi => ?_, fun i hi => ?_, ?_⟩
  · by_cases e : i / 6 = j
    · rw [if_pos e]
      unfold rowF
      rw [e]
      simp
    · rw [if_neg e, h2 i (by omega)]
      unfold rowF
      dsimp only
      rw [if_neg e, if_neg e]
  · by_cases e : i = j
    · subst e
      rw [show (fun i_1 => if i_1 = i then k1 else kv i_1) i = k1 from if_pos rfl, show (fun i_1 => if i_1 = i then v1 else vv i_1) i = v1 from if_pos rfl]
      exact ⟨key o1 (fun k hk => by have := o1.lt k hk; omega) (by omega), key o2 (fun k hk => by have := o2.lt k hk; omega) (by omega)⟩
    · dsimp only
      rw [if_neg e, if_neg e]
      have q := h3 i (by omega)
      refine ⟨key (q.1.below hb) (fun k hk e2 => ?_) (Nat.le_refl _), key (q.2.below hb) (fun k hk e2 => ?_) (Nat.le_refl _)⟩
      · subst e2
        refine h4 0 (2 * i + 1) k (by omega) (by omega) (by omega) rfl ?_
        unfold partB
        rw [if_neg (by omega), if_pos (by omega), show (2 * i + 1 - 1) / 2 = i by omega]
        exact hk
      · subst e2
        refine h4 0 (2 * i + 2) k (by omega) (by omega) (by omega) rfl ?_
        unfold partB
        rw [if_neg (by omega), if_neg (by omega), show (2 * i + 2 - 2) / 2 = i by omega]
        exact hk
  · exact h4.snoc (m := w0.heap.size) (w := w) hlt (fun k hk => o1.lt k hk) (fun k hk => o2.lt k hk) ap

set_option maxHeartbeats 1000000 in
theorem laws_toRecordS (v : Value) (rs : List Rec) (w : World) (h : Recs w v rs) (hs : rs.length + szL rs ≤ 100000000) : Calls Try.prog 54 #[v] w (RecsCopy w rs) := by
  have hv := h
  obtain ⟨a, cap, rfl, hl, hm, hc⟩ := h
  unfold maxLen at hm
  clear hc
  have hs1 : rs.length ≤ 1000000000 := by omega
  have Hsz : Hid (∀ k, k < rs.length → (recAt rs k).key.length ≤ 1000000000 ∧ (recAt rs k).val.length ≤ 1000000000) := Lib.hid fun k hk => by have := szL_at rs k hk; omega
  go_enter Try.func54, Try.ntmps54
  go_wp2_with (at_make; refine wp_makeR rfl _ _ rfl w.heap.size _ _ rs.length rfl rfl rfl rfl hs1 (Nat.le_refl _) ?_; intro w0 f0 hrow0 hgrow0)
  have hb0 : Below w.heap.size w w0 := (Below.refl _ _).grown hgrow0 (Nat.le_refl _) (fun k hk => by cases hk)
  have start : RowUpto w0 w.heap.size (.slice (some ⟨w.heap.size, 0, none⟩) rs.length rs.length) rs.length rs 0 := ⟨f0, fun _ => undef, fun _ => undef, hrow0, fun i hi => by omega, fun i hi => by omega, fun p q k hp hq hpq => by omega⟩
  clear hrow0 hgrow0
  obtain ⟨g, hg⟩ : ∃ g, w.heap.size = g := ⟨_, rfl⟩
  have hgl : w.heap.size ≤ g := by omega
  rw [hg] at start
  have Hg := Lib.hid hg
  go_loopw [4] (fun i wr => ∃ j : Nat, j ≤ rs.length ∧ i = .int .i64 j ∧ RowUpto wr w.heap.size (.slice (some ⟨w.heap.size, 0, none⟩) rs.length rs.length) rs.length rs j ∧ Below w.heap.size w wr) (fun i _ => rs.length - (intOf i).toNat)
  case atStart => exact ⟨0, Nat.zero_le _, rfl, by rw [hg]; exact start, hb0⟩
  case round =>
    clear start hb0 hg
    obtain ⟨j, hj, rfl, hrow, bel⟩ := hrel
    by_cases hlt : j < rs.length
    · obtain ⟨b, off, cap', e, hm'⟩ := hv.form (by omega)
      simp only [Value.slice.injEq, true_and] at e
      obtain ⟨rfl, rfl⟩ := e
      have hvr := hv.below bel
      obtain ⟨r, a1, c1, a2, c2, Hr, hR⟩ := hvr.parts j hlt
      have hsz := Hsz.out j hlt
      rw [Hr.out] at hsz
      have C1 := Lib.hid (laws_toRecord _ r wr hR.recV hsz.1 hsz.2)
      obtain ⟨e0, e1, e2, e3, e4, e5, _, _⟩ := hR
      clear hsz
      go_wp2_with fail
      (with_reducible refine C1.out.mono ?_)
      rintro e w2 ⟨u, rfl, ⟨k1, v1, rfl, o1, o2, ap⟩, b2⟩
      obtain ⟨x1, y1, rfl, _, _, _⟩ := o1.ints
      obtain ⟨x2, y2, rfl, _, _, _⟩ := o2.ints
      have B2 := Bstep bel b2
      have hrow2 := hrow.below b2
      obtain ⟨hg1, hg2, hcs, hfz⟩ := hrow2.cells
      obtain ⟨u0, d0⟩ := hcs (j * 6) (by omega)
      obtain ⟨u1, d1⟩ := hcs (j * 6 + 1) (by omega)
      obtain ⟨u2, d2⟩ := hcs (j * 6 + 2) (by omega)
      obtain ⟨u3, d3⟩ := hcs (j * 6 + 3) (by omega)
      obtain ⟨u4, d4⟩ := hcs (j * 6 + 4) (by omega)
      obtain ⟨u5, d5⟩ := hcs (j * 6 + 5) (by omega)
      have new := hrow.put (m := wr.heap.size) b2 hlt Hr.out rfl o1 o2 ap
      have B3 : Below w.heap.size w _ := B2.grown (set6_grown w2 w.heap.size (j * 6) (.int .i64 r.off) (.int .i64 r.time) (.bool r.hk) (.slice x1 r.key.length y1) (.bool r.hv) (.slice x2 r.val.length y2)) B2.size (fun k hk => by simp only [Option.some.injEq] at hk; omega)
      clear hcs hrow hrow2 o1 o2 ap e0 e1 e2 e3 e4 e5
      go_wp2_with fail
      go_roundw
      case rel => exact ⟨j + 1, by omega, by go_num, new, B3⟩
      case measure => simp [intOf]; omega
    · obtain rfl : j = rs.length := by omega
      go_wp2_with fail
      go_ret
      exact ⟨_, rfl, hrow.done, bel⟩
-- L5c

/-- twelve cells: two records that are the same -/
def SixSix (W : World) (b q b' q' : Nat) (v0 v1 v2 k1 v4 u1 k2 u2 : Value) : Prop :=
  W.cell? ⟨b, q, none⟩ = some v0 ∧ W.cell? ⟨b, q + 1, none⟩ = some v1 ∧ W.cell? ⟨b, q + 2, none⟩ = some v2 ∧ W.cell? ⟨b, q + 3, none⟩ = some k1 ∧ W.cell? ⟨b, q + 4, none⟩ = some v4 ∧ W.cell? ⟨b, q + 5, none⟩ = some u1 ∧
  W.cell? ⟨b', q', none⟩ = some v0 ∧ W.cell? ⟨b', q' + 1, none⟩ = some v1 ∧ W.cell? ⟨b', q' + 2, none⟩ = some v2 ∧ W.cell? ⟨b', q' + 3, none⟩ = some k2 ∧ W.cell? ⟨b', q' + 4, none⟩ = some v4 ∧ W.cell? ⟨b', q' + 5, none⟩ = some u2
/-- a copy of a batch, in memory of its own -/
def BatCopy (w : World) (b : Bat) (e : Ending) (w' : World) : Prop := ∃ v, e = .returned v ∧ BatOwn w' w.heap.size v b ∧ Below w.heap.size w w'
theorem Row6.grown' {w w' : World} {base n B : Nat} {v : Value} {f : Nat → Value} (h : Row6 w base v n f) (hg : w.grownBy w' (some B)) (hB : B < base) : Row6 w' base v n f := h.kept hg (by
  cases e : v.ownBlock with
  | none => exact .inl rfl
  | some q => exact .inr fun e2 => by have := (h.lt q e).1; simp only [Option.some.injEq] at e2; omega)
theorem OwnRecs.by {w w' : World} {base B : Nat} {v : Value} {rs : List Rec} (h : OwnRecs w base v rs) (hB : B < base) (hg : w.grownBy w' (some B)) : OwnRecs w' base v rs := by
  obtain ⟨kv, vv, h1, h2, h3⟩ := h
  exact ⟨kv, vv, h1.grown' hg hB, fun i hi => ⟨(h2 i hi).1.by hB hg, (h2 i hi).2.by hB hg⟩, h3⟩
theorem Row6.base {w : World} {base b n : Nat} {v : Value} {f : Nat → Value} (h : Row6 w base v n f) (hb : b ≤ base) : Row6 w b v n f := by
  obtain ⟨xs, h, hx⟩ := h
  refine ⟨xs, ⟨h.1, ?_⟩, hx⟩
  rcases h.2 with h0 | ⟨g, cap, cur, e, hg, rest⟩
  · exact .inl h0
  · exact .inr ⟨g, cap, cur, e, Nat.le_trans hb hg, rest⟩
theorem OwnRecs.base {w : World} {base b : Nat} {v : Value} {rs : List Rec} (h : OwnRecs w base v rs) (hb : b ≤ base) : OwnRecs w b v rs := by
  obtain ⟨kv, vv, h1, h2, h3⟩ := h
  exact ⟨kv, vv, h1.base hb, fun i hi => ⟨(h2 i hi).1.base hb, (h2 i hi).2.base hb⟩, h3⟩
theorem OwnRecs.form {w : World} {base : Nat} {v : Value} {rs : List Rec} (h : OwnRecs w base v rs) : ∃ a cap, v = .slice a rs.length cap := by
  obtain ⟨a, cap, rfl, _⟩ := h.recs
  exact ⟨a, cap, rfl⟩

set_option maxHeartbeats 1000000 in
theorem laws_toBatch (v : Value) (b : Bat) (w : World) (h : BatV w v b) (hs : b.recs.length + szL b.recs ≤ 100000000) : Calls Try.prog 31 #[v] w (BatCopy w b) := by
  obtain ⟨a, cap, rfl, hr, hl, hm⟩ := h.parts
  clear h
  obtain ⟨packed, mark, prod, epoch, seq, recs⟩ := b
  simp only at hr hl hs ⊢
  have C1 : Hid (∀ wn, Below w.heap.size w wn → Calls Try.prog 54 #[.slice a recs.length cap] wn (RecsCopy wn recs)) := Lib.hid fun wn hw => laws_toRecordS _ recs wn (hr.below hw) hs
  have bA := alloc_below' w (.cells #[.bool packed, .bool mark, .int .i64 prod, .int .i64 epoch, .int .i64 seq, .slice a recs.length cap] 50)
  have bZ := alloc_below' (w.alloc (.cells #[.bool packed, .bool mark, .int .i64 prod, .int .i64 epoch, .int .i64 seq, .slice a recs.length cap] 50)) (.cells #[.bool false, .bool false, .int .i64 0, .int .i64 0, .int .i64 0, .slice none 0 0] 43)
  have bX := alloc_below' ((w.alloc (.cells #[.bool packed, .bool mark, .int .i64 prod, .int .i64 epoch, .int .i64 seq, .slice a recs.length cap] 50)).alloc (.cells #[.bool false, .bool false, .int .i64 0, .int .i64 0, .int .i64 0, .slice none 0 0] 43)) (.cells #[.bool packed, .bool mark, .int .i64 prod, .int .i64 epoch, .int .i64 seq, .slice none 0 0] 43)
  go_enter Try.func31, Try.ntmps31
  go_upto_region 7 with (fail)
  have xA := ((Blk.made w #[.bool packed, .bool mark, .int .i64 prod, .int .i64 epoch, .int .i64 seq, .slice a recs.length cap] 50).belowS bZ).belowS bX
  have xZ := (Blk.made (w.alloc (.cells #[.bool packed, .bool mark, .int .i64 prod, .int .i64 epoch, .int .i64 seq, .slice a recs.length cap] 50)) #[.bool false, .bool false, .int .i64 0, .int .i64 0, .int .i64 0, .slice none 0 0] 43).belowS bX
  have xX := Blk.made ((w.alloc (.cells #[.bool packed, .bool mark, .int .i64 prod, .int .i64 epoch, .int .i64 seq, .slice a recs.length cap] 50)).alloc (.cells #[.bool false, .bool false, .int .i64 0, .int .i64 0, .int .i64 0, .slice none 0 0] 43)) #[.bool packed, .bool mark, .int .i64 prod, .int .i64 epoch, .int .i64 seq, .slice none 0 0] 43
  have B0 := Bstep (Bstep bA bZ) bX
  clear bA bZ bX
  simp only [alloc_size] at xZ xX
  generalize hwb : (((w.alloc (.cells #[.bool packed, .bool mark, .int .i64 prod, .int .i64 epoch, .int .i64 seq, .slice a recs.length cap] 50)).alloc (.cells #[.bool false, .bool false, .int .i64 0, .int .i64 0, .int .i64 0, .slice none 0 0] 43)).alloc (.cells #[.bool packed, .bool mark, .int .i64 prod, .int .i64 epoch, .int .i64 seq, .slice none 0 0] 43)) = wb at xA xZ xX B0 ⊢
  clear hwb
  obtain ⟨Z, hZ⟩ : ∃ Z, w.heap.size + 1 = Z := ⟨_, rfl⟩
  obtain ⟨X, hX⟩ : ∃ X, w.heap.size + 1 + 1 = X := ⟨_, rfl⟩
  rw [hX] at xX ⊢
  rw [hZ] at xZ ⊢
  have hZX : Z ≠ X := by omega
  have hXZ : X ≠ Z := by omega
  have hZA : w.heap.size ≤ Z := by omega
  have hXA : w.heap.size ≤ X := by omega
  clear hZ hX
  obtain ⟨c0, c1, c2, c3, c4, c5⟩ := xA.sixC
  go_wp2_with fail
  (with_reducible refine (C1.out wb B0).mono ?_)
  rintro e w1 ⟨v1, rfl, own1, b1⟩
  obtain ⟨g1, cap1, rfl⟩ := own1.form
  have ltZ := xZ.lt
  have ltX := xX.lt
  have xZ1 := xZ.belowS b1
  have xX1 := xX.belowS b1
  have B1 := Bstep B0 b1
  clear c0 c1 c2 c3 c4 c5 xA xZ xX B0 b1
  have gX := set_grown w1 X 5 (.slice g1 recs.length cap1)
  have zX : Blk (w1.setCell ⟨X, 5, none⟩ (.slice g1 recs.length cap1)) Z _ := xZ1.other hZX
  have oX := own1.by ltX gX
  have BX : Below w.heap.size w (w1.setCell ⟨X, 5, none⟩ (.slice g1 recs.length cap1)) := B1.setCell hXA _
  have zz := zX.six (.bool packed) (.bool mark) (.int .i64 prod) (.int .i64 epoch) (.int .i64 seq) (.slice g1 recs.length cap1)
  have gZ := six_grown (w1.setCell ⟨X, 5, none⟩ (.slice g1 recs.length cap1)) Z (.bool packed) (.bool mark) (.int .i64 prod) (.int .i64 epoch) (.int .i64 seq) (.slice g1 recs.length cap1)
  have oZ := (oX.by ltZ gZ).base (show w.heap.size ≤ wb.heap.size by omega)
  have bel8 := bel_six BX hZA (.bool packed) (.bool mark) (.int .i64 prod) (.int .i64 epoch) (.int .i64 seq) (.slice g1 recs.length cap1)
  obtain ⟨d0, d1, d2, d3, d4, d5⟩ := xX1.sixC
  obtain ⟨e0, e1, e2, e3, e4, e5⟩ := xZ1.sixC
  have fx := xX1.free
  have fz := xZ1.free
  clear gX zX oX BX gZ xZ1 xX1 own1 B1
  go_wp2_with fail
  generalize hW8 : (((((((w1.setCell ⟨X, 5, none⟩ (.slice g1 recs.length cap1)).setCell ⟨Z, 0, none⟩ (.bool packed)).setCell ⟨Z, 1, none⟩ (.bool mark)).setCell ⟨Z, 2, none⟩ (.int .i64 prod)).setCell ⟨Z, 3, none⟩ (.int .i64 epoch)).setCell ⟨Z, 4, none⟩ (.int .i64 seq)).setCell ⟨Z, 5, none⟩ (.slice g1 recs.length cap1)) = W8 at zz oZ bel8 ⊢
  clear d0 d1 d2 d3 d4 d5 e0 e1 e2 e3 e4 e5 fx fz hW8
  obtain ⟨c0, c1, c2, c3, c4, c5⟩ := zz.sixC
  refine bodyPost_ret (v := .agg #[.bool packed, .bool mark, .int .i64 prod, .int .i64 epoch, .int .i64 seq, .slice g1 recs.length cap1]) (by simp [results, Try.results31, go_sem, c0, c1, c2, c3, c4, c5]) rfl ?_
  exact ⟨_, rfl, ⟨_, rfl, oZ⟩, bel8⟩

set_option maxHeartbeats 1000000 in
theorem laws_eqRecordS (v u : Value) (rs : List Rec) (w : World) (h : Recs w v rs) (g : Recs w u rs) : Calls Try.prog 56 #[v, u] w (Same w true) := by
  have hv := h
  have hu := g
  obtain ⟨a, cap, rfl, hl, hm, hc⟩ := h
  obtain ⟨a', cap', rfl, hl', hm', hc'⟩ := g
  unfold maxLen at hm hm'
  clear hc hc'
  have q0 : ((rs.length : Int) != (rs.length : Int)) = false := by simp
  go_enter Try.func56, Try.ntmps56
  go_wp2_with fail
  go_loopw [5] (fun i wr => ∃ k : Nat, k ≤ rs.length ∧ i = .int .i64 k ∧ Below w.heap.size w wr) (fun i _ => rs.length - (intOf i).toNat)
  case atStart => exact ⟨0, Nat.zero_le _, rfl, Below.refl _ _⟩
  case round =>
    obtain ⟨k, hk, rfl, bel⟩ := hrel
    by_cases hlt : k < rs.length
    · obtain ⟨b, off, cp, e, hmm⟩ := hv.form (by omega)
      simp only [Value.slice.injEq, true_and] at e
      obtain ⟨rfl, rfl⟩ := e
      obtain ⟨b', off', cp', e, hmm'⟩ := hu.form (by omega)
      simp only [Value.slice.injEq, true_and] at e
      obtain ⟨rfl, rfl⟩ := e
      have hvr := hv.below bel
      have hur := hu.below bel
      obtain ⟨r, a1, c1, a2, c2, Hr, hR⟩ := hvr.parts k hlt
      obtain ⟨r', a3, c3, a4, c4, Hr', hR'⟩ := hur.parts k hlt
      obtain rfl : r' = r := Hr'.out.symm.trans Hr.out
      have C1 : Hid (∀ W, Below wr.heap.size wr W → Calls Try.prog 71 #[.agg #[.int .i64 r'.off, .int .i64 r'.time, .bool r'.hk, .slice a1 r'.key.length c1, .bool r'.hv, .slice a2 r'.val.length c2], .agg #[.int .i64 r'.off, .int .i64 r'.time, .bool r'.hk, .slice a3 r'.key.length c3, .bool r'.hv, .slice a4 r'.val.length c4]] W (Same W true)) := Lib.hid fun W hW => laws_eqRecord _ _ r' W (hR.recV.below hW) (hR'.recV.below hW)
      have HS : Hid (∀ W, Below wr.heap.size wr W → SixSix W b (off + k * 6) b' (off' + k * 6) (.int .i64 r'.off) (.int .i64 r'.time) (.bool r'.hk) (.slice a1 r'.key.length c1) (.bool r'.hv) (.slice a2 r'.val.length c2) (.slice a3 r'.key.length c3) (.slice a4 r'.val.length c4)) := Lib.hid fun W hW => by
        obtain ⟨x0, x1, x2, x3, x4, x5, _, _⟩ := hR.below hW
        obtain ⟨y0, y1, y2, y3, y4, y5, _, _⟩ := hR'.below hW
        exact ⟨x0, x1, x2, x3, x4, x5, y0, y1, y2, y3, y4, y5⟩
      have bdr : Below wr.heap.size wr wr.drew := below_drewN (Below.refl _ _) 1
      have S1 := HS.out wr.drew bdr
      have D1 := Lib.hid (C1.out wr.drew bdr)
      clear hR hR' Hr Hr' C1
      go_upto_region 6 with (fail)
      unfold SixSix at S1
      go_region_held3 (fun W => W.cell? ⟨b, off + k * 6, none⟩ = some (.int .i64 r'.off) ∧ W.cell? ⟨b, off + k * 6 + 1, none⟩ = some (.int .i64 r'.time) ∧ W.cell? ⟨b, off + k * 6 + 2, none⟩ = some (.bool r'.hk) ∧ W.cell? ⟨b, off + k * 6 + 3, none⟩ = some (.slice a1 r'.key.length c1) ∧ W.cell? ⟨b, off + k * 6 + 4, none⟩ = some (.bool r'.hv) ∧ W.cell? ⟨b, off + k * 6 + 5, none⟩ = some (.slice a2 r'.val.length c2) ∧ W.cell? ⟨b', off' + k * 6, none⟩ = some (.int .i64 r'.off) ∧ W.cell? ⟨b', off' + k * 6 + 1, none⟩ = some (.int .i64 r'.time) ∧ W.cell? ⟨b', off' + k * 6 + 2, none⟩ = some (.bool r'.hk) ∧ W.cell? ⟨b', off' + k * 6 + 3, none⟩ = some (.slice a3 r'.key.length c3) ∧ W.cell? ⟨b', off' + k * 6 + 4, none⟩ = some (.bool r'.hv) ∧ W.cell? ⟨b', off' + k * 6 + 5, none⟩ = some (.slice a4 r'.val.length c4)) (first | with_reducible exact S1 | exact HS.out _ (Bstep bdr b8) | go_keep)
        (first | (go_at_call 71; ((with_reducible refine D1.out.mono ?_); rintro e w8 ⟨rfl, b8⟩)))
      have B8 := Bstep bel (Bstep bdr b8)
      go_wp2_with fail
      go_roundw
      case rel => exact ⟨k + 1, by omega, by go_num, B8⟩
      case measure => simp [intOf]; omega
    · go_wp2_with fail
      go_ret
      exact ⟨rfl, bel⟩

theorem laws_eqBatch (v u : Value) (b : Bat) (w : World) (h : BatV w v b) (g : BatV w u b) : Calls Try.prog 35 #[v, u] w (Same w true) := by
  obtain ⟨a1, cap1, rfl, hr1, hl1, hm1⟩ := h.parts
  obtain ⟨a2, cap2, rfl, hr2, hl2, hm2⟩ := g.parts
  clear h g
  obtain ⟨packed, mark, prod, epoch, seq, recs⟩ := b
  simp only at hr1 hr2 hl1 hl2 ⊢
  have C1 : Hid (∀ W, Below w.heap.size w W → Calls Try.prog 56 #[.slice a1 recs.length cap1, .slice a2 recs.length cap2] W (Same W true)) := Lib.hid fun W hW => laws_eqRecordS _ _ recs W (hr1.below hW) (hr2.below hW)
  have bA := alloc_below' w (.cells #[.bool packed, .bool mark, .int .i64 prod, .int .i64 epoch, .int .i64 seq, .slice a1 recs.length cap1] 43)
  have bB := alloc_below' (w.alloc (.cells #[.bool packed, .bool mark, .int .i64 prod, .int .i64 epoch, .int .i64 seq, .slice a1 recs.length cap1] 43)) (.cells #[.bool packed, .bool mark, .int .i64 prod, .int .i64 epoch, .int .i64 seq, .slice a2 recs.length cap2] 43)
  have B2 := Lib.hid (Bstep bA bB)
  have q2 : (prod != prod) = false := by simp
  have q3 : (epoch != epoch) = false := by simp
  have q4 : (seq != seq) = false := by simp
  clear hr1 hr2 bA bB
  cases packed <;> cases mark
  all_goals
    go_enter Try.func35, Try.ntmps35
    go_wp2_with fail
    (with_reducible refine (C1.out _ B2.out).mono ?_)
    rintro e w3 ⟨rfl, b3⟩
    go_wp2_with fail
    go_ret
    exact ⟨rfl, Bstep B2.out b3⟩
end Go.Proofs.Ytfapeppocfodpaa
