/- The helpers of the laws on messages: two are the same; one is copied, marked, and held against its marks; its size. -/
import Derived.Test.YthlboonobepdaaaR11
import Derived.Test.YthlboonobepdaaaL1
namespace Go.Proofs.Ythlboonobepdaaa
open Go.ChangeShapes Go.WideShapes Go.ChangeAt Go.RowKit
set_option linter.unusedVariables false

theorem alloc_size' (w : World) (o : Obj) : (w.alloc o).heap.size = w.heap.size + 1 := by simp
set_option maxHeartbeats 2000000 in
theorem laws_sameOld (v u : Value) (m : Mes) (w : World) (h : MesV w v m) (g : MesV w u m) : Calls Try.prog 17 #[v, u] w (Same w true) := by
  obtain ⟨off, timed, time, key, val, hk, miss⟩ := m
  have C1 : Hid (∀ wn a b, Ints wn a key → Ints wn b key → Calls Try.prog 15 #[a, b] wn (Same wn (key == key))) := fun wn a b ha hb => laws_sameInts a b key key wn ha hb
  have C2 : Hid (∀ wn a b, Ints wn a val → Ints wn b val → Calls Try.prog 15 #[a, b] wn (Same wn (val == val))) := fun wn a b ha hb => laws_sameInts a b val val wn ha hb
  rw [beq_self] at C1 C2
  obtain ⟨k1, v1, rfl, ik1, iv1⟩ := h
  obtain ⟨k2, v2, rfl, ik2, iv2⟩ := g
  simp only at ik1 iv1 ik2 iv2 ⊢
  have q1 : (off == off) = true := by simp
  have q2 : (time == time) = true := by simp
  have bA := alloc_below' w (.cells #[.int .i64 off, .bool timed, .int .i64 time, k1, v1, .bool hk, .bool miss] 25)
  have bB := alloc_below' (w.alloc (.cells #[.int .i64 off, .bool timed, .int .i64 time, k1, v1, .bool hk, .bool miss] 25)) (.cells #[.int .i64 off, .bool timed, .int .i64 time, k2, v2, .bool hk, .bool miss] 25)
  have xA := (Blk.made w #[.int .i64 off, .bool timed, .int .i64 time, k1, v1, .bool hk, .bool miss] 25).belowS bB
  have xB := Blk.made (w.alloc (.cells #[.int .i64 off, .bool timed, .int .i64 time, k1, v1, .bool hk, .bool miss] 25)) #[.int .i64 off, .bool timed, .int .i64 time, k2, v2, .bool hk, .bool miss] 25
  have bw := Bstep bA bB
  simp only [alloc_size'] at xB
  cases timed <;> cases hk <;> cases miss
  all_goals
    go_enter Try.func17, Try.ntmps17
    go_wp2_with fail
    generalize hW : (w.alloc _).alloc _ = wb at xA xB bw ⊢
    clear hW bA bB
    refine (C1.out _ _ _ (ik1.below bw) (ik2.below bw)).mono ?_
    rintro e w1 ⟨rfl, b1⟩
    have B1 := Bstep bw b1
    have xA1 := xA.belowS b1
    have xB1 := xB.belowS b1
    obtain ⟨c0, c1, c2, c3, c4, c5, c6⟩ := xA1.seven?
    obtain ⟨d0, d1, d2, d3, d4, d5, d6⟩ := xB1.seven?
    clear xA xB
    go_wp2_with fail
    refine (C2.out _ _ _ (iv1.below B1) (iv2.below B1)).mono ?_
    rintro e w2 ⟨rfl, b2⟩
    have B2 := Bstep B1 b2
    clear c0 c1 c2 c3 c4 c5 c6 d0 d1 d2 d3 d4 d5 d6
    obtain ⟨c0, c1, c2, c3, c4, c5, c6⟩ := (xA1.belowS b2).seven?
    obtain ⟨d0, d1, d2, d3, d4, d5, d6⟩ := (xB1.belowS b2).seven?
    clear xA1 xB1
    go_wp2_with fail
    go_ret
    exact ⟨rfl, B2⟩
set_option maxHeartbeats 2000000 in
theorem laws_eqOld (v u : Value) (m : Mes) (w : World) (h : MesV w v m) (g : MesV w u m) : Calls Try.prog 25 #[v, u] w (Same w true) := by
  obtain ⟨off, timed, time, key, val, hk, miss⟩ := m
  have C1 : Hid (∀ wn a b, Ints wn a key → Ints wn b key → Calls Try.prog 26 #[a, b] wn (Same wn (key == key))) := fun wn a b ha hb => laws_eqIntS a b key key wn ha hb
  have C2 : Hid (∀ wn a b, Ints wn a val → Ints wn b val → Calls Try.prog 26 #[a, b] wn (Same wn (val == val))) := fun wn a b ha hb => laws_eqIntS a b val val wn ha hb
  rw [beq_self] at C1 C2
  obtain ⟨k1, v1, rfl, ik1, iv1⟩ := h
  obtain ⟨k2, v2, rfl, ik2, iv2⟩ := g
  simp only at ik1 iv1 ik2 iv2 ⊢
  have q1 : (off != off) = false := by simp
  have q2 : (time != time) = false := by simp
  have bA := alloc_below' w (.cells #[.int .i64 off, .bool timed, .int .i64 time, k1, v1, .bool hk, .bool miss] 25)
  have bB := alloc_below' (w.alloc (.cells #[.int .i64 off, .bool timed, .int .i64 time, k1, v1, .bool hk, .bool miss] 25)) (.cells #[.int .i64 off, .bool timed, .int .i64 time, k2, v2, .bool hk, .bool miss] 25)
  have xA := (Blk.made w #[.int .i64 off, .bool timed, .int .i64 time, k1, v1, .bool hk, .bool miss] 25).belowS bB
  have xB := Blk.made (w.alloc (.cells #[.int .i64 off, .bool timed, .int .i64 time, k1, v1, .bool hk, .bool miss] 25)) #[.int .i64 off, .bool timed, .int .i64 time, k2, v2, .bool hk, .bool miss] 25
  have bw := Bstep bA bB
  simp only [alloc_size'] at xB
  cases timed <;> cases hk <;> cases miss
  all_goals
    go_enter Try.func25, Try.ntmps25
    go_wp2_with fail
    generalize hW : (w.alloc _).alloc _ = wb at xA xB bw ⊢
    clear hW bA bB
    refine (C1.out _ _ _ (ik1.below bw) (ik2.below bw)).mono ?_
    rintro e w1 ⟨rfl, b1⟩
    have B1 := Bstep bw b1
    have xA1 := xA.belowS b1
    have xB1 := xB.belowS b1
    obtain ⟨c0, c1, c2, c3, c4, c5, c6⟩ := xA1.seven?
    obtain ⟨d0, d1, d2, d3, d4, d5, d6⟩ := xB1.seven?
    clear xA xB
    go_wp2_with fail
    refine (C2.out _ _ _ (iv1.below B1) (iv2.below B1)).mono ?_
    rintro e w2 ⟨rfl, b2⟩
    have B2 := Bstep B1 b2
    clear c0 c1 c2 c3 c4 c5 c6 d0 d1 d2 d3 d4 d5 d6
    obtain ⟨c0, c1, c2, c3, c4, c5, c6⟩ := (xA1.belowS b2).seven?
    obtain ⟨d0, d1, d2, d3, d4, d5, d6⟩ := (xB1.belowS b2).seven?
    clear xA1 xB1
    go_wp2_with fail
    go_ret
    exact ⟨rfl, B2⟩

/-- a message whose parts hold the marks k, k + 1 .. -/
def MesMarked (w : World) (base : Nat) (v : Value) (m : Mes) (k : Int) : Prop :=
  ∃ kv vv, v = .agg #[.int .i64 m.off, .bool m.timed, .int .i64 m.time, kv, vv, .bool m.hk, .bool m.miss] ∧ Own w base kv (marks k m.key.length) ∧ Own w base vv (marks (k + (m.key.length : Int)) m.val.length)
theorem MesMarked.below {w w' : World} {base : Nat} {v : Value} {m : Mes} {k : Int} (h : MesMarked w base v m k) (hb : Below w.heap.size w w') : MesMarked w' base v m k := by
  obtain ⟨kv, vv, rfl, h1, h2⟩ := h
  exact ⟨kv, vv, rfl, h1.below hb, h2.below hb⟩
/-- the parts of a message lie ahead of hi -/
def MesTop (v : Value) (hi : Nat) : Prop := ∃ a b c kv vv d f, v = .agg #[a, b, c, kv, vv, d, f] ∧ (∀ k, kv.ownBlock = some k → k < hi) ∧ ∀ k, vv.ownBlock = some k → k < hi
theorem MesOwn.top {w : World} {base : Nat} {v : Value} {m : Mes} (h : MesOwn w base v m) : MesTop v w.heap.size := by
  obtain ⟨kv, vv, rfl, o1, o2, _⟩ := h
  exact ⟨_, _, _, kv, vv, _, _, rfl, o1.lt2, o2.lt2⟩
def MesMarkRes (w : World) (base hi : Nat) (v : Value) (m : Mes) (k : Int) (e : Ending) (w' : World) : Prop :=
  e = .returned (.int .i64 (k + (m.key.length : Int) + (m.val.length : Int))) ∧ MesMarked w' base v m k ∧ Turned w w' base hi
theorem laws_markOld (v : Value) (base hi : Nat) (m : Mes) (k : Int) (w : World) (h : MesOwn w base v m) (ht : MesTop v hi) (hk0 : 0 ≤ k) (hk1 : k ≤ 1000000000) (l1 : m.key.length ≤ 1000000000) (l2 : m.val.length ≤ 1000000000) :
    Calls Try.prog 27 #[v, .int .i64 k] w (MesMarkRes w base hi v m k) := by
  obtain ⟨kv, vv, rfl, o1, o2, ap⟩ := h
  obtain ⟨t1, t2⟩ : (∀ k, kv.ownBlock = some k → k < hi) ∧ ∀ k, vv.ownBlock = some k → k < hi := by
    obtain ⟨_, _, _, _, _, _, _, et, t1, t2⟩ := ht
    simp only [Value.agg.injEq, Array.mk.injEq, List.cons.injEq, and_true] at et
    obtain ⟨_, _, _, rfl, rfl, _, _⟩ := et
    exact ⟨t1, t2⟩
  have C1 : Hid (∀ wn, Own wn base kv m.key → Calls Try.prog 28 #[kv, .int .i64 k] wn (MarkRes wn base kv k m.key.length)) := fun wn ho => laws_markIntS kv base m.key k wn ho hk0 (by omega) (by omega)
  have C2 : Hid (∀ wn, Own wn base vv m.val → Calls Try.prog 28 #[vv, .int .i64 (k + (m.key.length : Int))] wn (MarkRes wn base vv (k + (m.key.length : Int)) m.val.length)) := fun wn ho => laws_markIntS vv base m.val (k + (m.key.length : Int)) wn ho (by omega) (by omega) (by omega)
  have bw := alloc_below' w (.cells #[.int .i64 m.off, .bool m.timed, .int .i64 m.time, kv, vv, .bool m.hk, .bool m.miss] 25)
  have box := Blk.made w #[.int .i64 m.off, .bool m.timed, .int .i64 m.time, kv, vv, .bool m.hk, .bool m.miss] 25
  have k1lt := o1.lt2
  have k2lt := o2.lt2
  have o1' := o1.below bw
  have o2' := o2.below bw
  go_enter Try.func27, Try.ntmps27
  go_wp2_with fail
  generalize hwb : w.alloc (.cells #[.int .i64 m.off, .bool m.timed, .int .i64 m.time, kv, vv, .bool m.hk, .bool m.miss] 25) = wb at bw box o1' o2' ⊢
  clear hwb
  refine (C1.out wb o1').mono ?_
  rintro e w1 ⟨rfl, own1, g1⟩
  have box1 := box.grown (fun e => by have := k1lt w.heap.size e; omega) g1
  have o21 : Own w1 base vv m.val := o2'.grown g1 (by
    cases e : vv.ownBlock with
    | none => exact .inl rfl
    | some q => exact .inr fun e2 => ap q e e2.symm)
  obtain ⟨c0, c1, c2, c3, c4, c5, c6⟩ := box1.seven?
  go_wp2_with fail
  refine (C2.out w1 o21).mono ?_
  rintro e w2 ⟨rfl, own2, g2⟩
  have own12 : Own w2 base kv (marks k m.key.length) := own1.grown g2 (by
    cases e : kv.ownBlock with
    | none => exact .inl rfl
    | some q => exact .inr fun e2 => ap q e2.symm e)
  have B3 : Turned w w2 base hi := ((Turned.of_below bw).trans (Turned.of_grown g1 fun k hk => ⟨o1.lt k hk, t1 k hk⟩)).trans (Turned.of_grown g2 fun k hk => ⟨o2.lt k hk, t2 k hk⟩)
  go_wp2_with fail
  go_ret
  exact ⟨rfl, ⟨_, _, rfl, own12, own2⟩, B3⟩
theorem laws_heldOld (v : Value) (base : Nat) (m : Mes) (k : Int) (w : World) (h : MesMarked w base v m k) (hk0 : 0 ≤ k) (hk1 : k ≤ 1000000000) (l1 : m.key.length ≤ 1000000000) (l2 : m.val.length ≤ 1000000000) :
    Calls Try.prog 31 #[v, .int .i64 k] w fun e w' => e = .returned (.int .i64 (k + (m.key.length : Int) + (m.val.length : Int))) ∧ Below w.heap.size w w' := by
  obtain ⟨kv, vv, rfl, o1, o2⟩ := h
  have bw := alloc_below' w (.cells #[.int .i64 m.off, .bool m.timed, .int .i64 m.time, kv, vv, .bool m.hk, .bool m.miss] 25)
  have C1 := Lib.hid (laws_heldIntS kv k m.key.length _ (o1.ints.below bw) hk0 (by omega) (by omega))
  have C2 := Lib.hid (laws_heldIntS vv (k + (m.key.length : Int)) m.val.length _ (o2.ints.below bw) (by omega) (by omega) (by omega))
  go_enter Try.func31, Try.ntmps31
  go_wp2_with fail
  refine C1.out.mono ?_
  rintro e w1 ⟨rfl, rfl⟩
  go_wp2_with fail
  refine C2.out.mono ?_
  rintro e w1 ⟨rfl, rfl⟩
  go_wp2_with fail
  go_ret
  exact ⟨rfl, bw⟩
def SzResO (w : World) (m : Mes) (left : Int) (e : Ending) (w' : World) : Prop := (∃ n : Int, e = .returned (.int .i64 n) ∧ ((n = -1 ∧ left < (m.key.length : Int) + (m.val.length : Int)) ∨ (0 ≤ n ∧ n = left - (m.key.length : Int) - (m.val.length : Int)))) ∧ Below w.heap.size w w'
theorem laws_szOld (v : Value) (m : Mes) (left : Int) (w : World) (h : MesV w v m) (h0 : 0 ≤ left) (h1 : left ≤ 1000000000) :
    Calls Try.prog 23 #[v, .int .i64 left] w (SzResO w m left) := by
  obtain ⟨off, timed, time, key, val, hk, miss⟩ := m
  obtain ⟨kv, vv, rfl, ik, iv⟩ := h
  simp only at ik iv
  have bw := alloc_below' w (.cells #[.int .i64 off, .bool timed, .int .i64 time, kv, vv, .bool hk, .bool miss] 37)
  have C1 := Lib.hid (laws_szIntS kv key left _ (ik.below bw) h0 h1)
  by_cases hn : left - (key.length : Int) < 0
  · rw [show szN key.length left = -1 from if_pos hn] at C1
    go_enter Try.func23, Try.ntmps23
    go_wp2_with fail
    refine C1.out.mono ?_
    rintro e w1 ⟨rfl, rfl⟩
    go_wp2_with fail
    go_ret
    exact ⟨⟨_, rfl, .inl ⟨rfl, by show left < (key.length : Int) + (val.length : Int); omega⟩⟩, bw⟩
  · rw [show szN key.length left = left - (key.length : Int) from if_neg hn] at C1
    have d0 : decide (left - (key.length : Int) < 0) = false := decide_eq_false hn
    have d1 : decide (left < (key.length : Int)) = false := decide_eq_false (by omega)
    have C2 := Lib.hid (laws_szIntS vv val (left - (key.length : Int)) _ (iv.below bw) (by omega) (by omega))
    by_cases hn2 : left - (key.length : Int) - (val.length : Int) < 0
    · rw [show szN val.length (left - (key.length : Int)) = -1 from if_pos hn2] at C2
      go_enter Try.func23, Try.ntmps23
      go_wp2_with fail
      refine C1.out.mono ?_
      rintro e w1 ⟨rfl, rfl⟩
      go_wp2_with fail
      refine C2.out.mono ?_
      rintro e w1 ⟨rfl, rfl⟩
      go_wp2_with fail
      go_ret
      exact ⟨⟨_, rfl, .inl ⟨rfl, by show left < (key.length : Int) + (val.length : Int); omega⟩⟩, bw⟩
    · rw [show szN val.length (left - (key.length : Int)) = left - (key.length : Int) - (val.length : Int) from if_neg hn2] at C2
      have d2 : decide (left - (key.length : Int) - (val.length : Int) < 0) = false := decide_eq_false hn2
      go_enter Try.func23, Try.ntmps23
      go_wp2_with fail
      refine C1.out.mono ?_
      rintro e w1 ⟨rfl, rfl⟩
      go_wp2_with fail
      refine C2.out.mono ?_
      rintro e w1 ⟨rfl, rfl⟩
      go_wp2_with fail
      go_ret
      exact ⟨⟨_, rfl, .inr ⟨by omega, rfl⟩⟩, bw⟩
/-- a copy of a message, in memory of its own -/
def MesCopy (w : World) (m : Mes) (e : Ending) (w' : World) : Prop := ∃ v, e = .returned v ∧ MesOwn w' w.heap.size v m ∧ Below w.heap.size w w'
set_option maxHeartbeats 1000000 in
theorem laws_toOld (v : Value) (m : Mes) (w : World) (h : MesV w v m) (l1 : m.key.length ≤ 1000000000) (l2 : m.val.length ≤ 1000000000) : Calls Try.prog 24 #[v] w (MesCopy w m) := by
  obtain ⟨off, timed, time, key, val, hk, miss⟩ := m
  simp only at l1 l2
  have C1 : Hid (∀ wn a, Ints wn a key → Calls Try.prog 30 #[a] wn (NewInts1 wn key)) := fun wn a ha => laws_toIntS a key wn ha l1
  have C2 : Hid (∀ wn a, Ints wn a val → Calls Try.prog 30 #[a] wn (NewInts1 wn val)) := fun wn a ha => laws_toIntS a val wn ha l2
  obtain ⟨kv, vv, rfl, ik, iv⟩ := h
  simp only at ik iv
  have bA := alloc_below' w (.cells #[.int .i64 off, .bool timed, .int .i64 time, kv, vv, .bool hk, .bool miss] 37)
  have bZ := alloc_below' (w.alloc (.cells #[.int .i64 off, .bool timed, .int .i64 time, kv, vv, .bool hk, .bool miss] 37)) (.cells #[.int .i64 0, .bool false, .int .i64 0, .slice none 0 0, .slice none 0 0, .bool false, .bool false] 25)
  have bX := alloc_below' ((w.alloc (.cells #[.int .i64 off, .bool timed, .int .i64 time, kv, vv, .bool hk, .bool miss] 37)).alloc (.cells #[.int .i64 0, .bool false, .int .i64 0, .slice none 0 0, .slice none 0 0, .bool false, .bool false] 25)) (.cells #[.int .i64 off, .bool timed, .int .i64 time, .slice none 0 0, .slice none 0 0, .bool false, .bool false] 25)
  have xA := ((Blk.made w #[.int .i64 off, .bool timed, .int .i64 time, kv, vv, .bool hk, .bool miss] 37).belowS bZ).belowS bX
  have xZ := (Blk.made (w.alloc (.cells #[.int .i64 off, .bool timed, .int .i64 time, kv, vv, .bool hk, .bool miss] 37)) #[.int .i64 0, .bool false, .int .i64 0, .slice none 0 0, .slice none 0 0, .bool false, .bool false] 25).belowS bX
  have xX := Blk.made ((w.alloc (.cells #[.int .i64 off, .bool timed, .int .i64 time, kv, vv, .bool hk, .bool miss] 37)).alloc (.cells #[.int .i64 0, .bool false, .int .i64 0, .slice none 0 0, .slice none 0 0, .bool false, .bool false] 25)) #[.int .i64 off, .bool timed, .int .i64 time, .slice none 0 0, .slice none 0 0, .bool false, .bool false] 25
  have B0 := Bstep (Bstep bA bZ) bX
  clear bA bZ bX
  simp only [alloc_size'] at xZ xX
  go_enter Try.func24, Try.ntmps24
  go_upto_region 5 with (fail)
  generalize hwb : (((w.alloc (.cells #[.int .i64 off, .bool timed, .int .i64 time, kv, vv, .bool hk, .bool miss] 37)).alloc (.cells #[.int .i64 0, .bool false, .int .i64 0, .slice none 0 0, .slice none 0 0, .bool false, .bool false] 25)).alloc (.cells #[.int .i64 off, .bool timed, .int .i64 time, .slice none 0 0, .slice none 0 0, .bool false, .bool false] 25)) = wb at xA xZ xX B0 ⊢
  clear hwb
  obtain ⟨A, hA⟩ : ∃ A, w.heap.size = A := ⟨_, rfl⟩
  obtain ⟨Z, hZ⟩ : ∃ Z, w.heap.size + 1 = Z := ⟨_, rfl⟩
  obtain ⟨X, hX⟩ : ∃ X, w.heap.size + 1 + 1 = X := ⟨_, rfl⟩
  have B0' := B0
  rw [hX] at xX ⊢
  rw [hZ] at xZ ⊢
  rw [hA] at xA ⊢
  have hAX : A ≠ X := by omega
  have hZX : Z ≠ X := by omega
  have hAZ : A ≠ Z := by omega
  have hZA : w.heap.size ≤ Z := by omega
  have hXA2 : w.heap.size ≤ X := by omega
  have hZX2 : Z < X := by omega
  have ikb := ik.below B0
  have HA := Lib.hid hA
  clear hZ hX hA
  obtain ⟨c0, c1, c2, c3, c4, c5, c6⟩ := xA.seven?
  go_wp2_with fail
  refine (C1.out wb kv ikb).mono ?_
  rintro e w1 ⟨k1, rfl, own1, b1⟩
  obtain ⟨a1, cap1, rfl, _, _, _⟩ := own1.ints
  have xA1 := xA.belowS b1
  have xZ1 := xZ.belowS b1
  have own1' : Own w1 (X + 1) (.slice a1 key.length cap1) key := own1.base xX.lt
  have xX1 := xX.belowS b1
  have B1 := Bstep B0 b1
  clear c0 c1 c2 c3 c4 c5 c6 xA xZ xX own1
  obtain ⟨c0, c1, c2, c3, c4, c5, c6⟩ := xA1.seven?
  obtain ⟨d0, d1, d2, d3, d4, d5, d6⟩ := xX1.seven?
  have fx := xX1.free
  go_wp2_with fail
  have x2 := xX1.set 3 (.slice a1 key.length cap1)
  have g2 : w1.grownBy (w1.setCell ⟨X, 3, none⟩ (.slice a1 key.length cap1)) (some X) := set_grown _ _ _ _
  have xZ2 := xZ1.by hZX g2
  have xA2 := xA1.by hAX g2
  have B2 : Below w.heap.size w (w1.setCell ⟨X, 3, none⟩ (.slice a1 key.length cap1)) := B1.setCell hXA2 _
  have own12 := own1'.by (Nat.lt_succ_self X) g2
  generalize hW2 : (w1.setCell ⟨X, 3, none⟩ (.slice a1 key.length cap1)) = W2 at x2 xZ2 xA2 B2 own12 ⊢
  clear c0 c1 c2 c3 c4 c5 c6 d0 d1 d2 d3 d4 d5 d6 fx hW2 xA1 xZ1 xX1 own1' g2
  refine (C2.out W2 vv (iv.below B2)).mono ?_
  rintro e w3 ⟨v1, rfl, own2, b3⟩
  obtain ⟨a2, cap2, rfl, _, _, _⟩ := own2.ints
  have apart := own12.apart own2
  have own23 : Own w3 (X + 1) (.slice a2 val.length cap2) val := own2.base x2.lt
  have xZ3 := xZ2.belowS b3
  have xX3 := x2.belowS b3
  have xA3 := xA2.belowS b3
  have B3 := Bstep B2 b3
  have own13 := own12.below b3
  clear xZ2 x2 own12 own2 b3 xA2
  have x4 := ((xX3.set 4 (.slice a2 val.length cap2)).set 5 (.bool hk)).set 6 (.bool miss)
  have g4 : w3.grownBy (((w3.setCell ⟨X, 4, none⟩ (.slice a2 val.length cap2)).setCell ⟨X, 5, none⟩ (.bool hk)).setCell ⟨X, 6, none⟩ (.bool miss)) (some X) := grown_trans (grown_trans (set_grown _ _ _ _) (set_grown _ _ _ _)) (set_grown _ _ _ _)
  have z4 := xZ3.by hZX g4
  have own14 := own13.by (Nat.lt_succ_self X) g4
  have own24 := own23.by (Nat.lt_succ_self X) g4
  have B4 : Below w.heap.size w (((w3.setCell ⟨X, 4, none⟩ (.slice a2 val.length cap2)).setCell ⟨X, 5, none⟩ (.bool hk)).setCell ⟨X, 6, none⟩ (.bool miss)) := ((B3.setCell hXA2 _).setCell hXA2 _).setCell hXA2 _
  simp only [List.setIfInBounds_toArray, List.set_cons_zero, List.set_cons_succ] at x4 xX3
  obtain ⟨c0, c1, c2, c3, c4, c5, c6⟩ := xA3.seven?
  obtain ⟨d0, d1, d2, d3, d4, d5, d6⟩ := xX3.seven?
  obtain ⟨z0, z1, z2, z3, z4', z5, z6⟩ := xZ3.seven?
  have fx := xX3.free
  have fz := xZ3.free
  go_wp2_with fail
  have box8 := z4.sevenS (.int .i64 off) (.bool timed) (.int .i64 time) (.slice a1 key.length cap1) (.slice a2 val.length cap2) (.bool hk) (.bool miss)
  have g8 := seven_grown (((w3.setCell ⟨X, 4, none⟩ (.slice a2 val.length cap2)).setCell ⟨X, 5, none⟩ (.bool hk)).setCell ⟨X, 6, none⟩ (.bool miss)) Z (.int .i64 off) (.bool timed) (.int .i64 time) (.slice a1 key.length cap1) (.slice a2 val.length cap2) (.bool hk) (.bool miss)
  have bel8 := bel_seven B4 hZA (.int .i64 off) (.bool timed) (.int .i64 time) (.slice a1 key.length cap1) (.slice a2 val.length cap2) (.bool hk) (.bool miss)
  generalize hW8 : ((((((((((w3.setCell ⟨X, 4, none⟩ (.slice a2 val.length cap2)).setCell ⟨X, 5, none⟩ (.bool hk)).setCell ⟨X, 6, none⟩ (.bool miss)).setCell ⟨Z, 0, none⟩ (.int .i64 off)).setCell ⟨Z, 1, none⟩ (.bool timed)).setCell ⟨Z, 2, none⟩ (.int .i64 time)).setCell ⟨Z, 3, none⟩ (.slice a1 key.length cap1)).setCell ⟨Z, 4, none⟩ (.slice a2 val.length cap2)).setCell ⟨Z, 5, none⟩ (.bool hk)).setCell ⟨Z, 6, none⟩ (.bool miss)) = W8 at box8 g8 bel8 ⊢
  have o1 := (own14.by (show Z < X + 1 by omega) g8).base (show w.heap.size ≤ X + 1 by omega)
  have o2 := (own24.by (show Z < X + 1 by omega) g8).base (show w.heap.size ≤ X + 1 by omega)
  clear c0 c1 c2 c3 c4 c5 c6 d0 d1 d2 d3 d4 d5 d6 z0 z1 z2 z3 z4' z5 z6 fz fx hW8
  obtain ⟨c0, c1, c2, c3, c4, c5, c6⟩ := box8.seven?
  refine bodyPost_ret (v := .agg #[.int .i64 off, .bool timed, .int .i64 time, .slice a1 key.length cap1, .slice a2 val.length cap2, .bool hk, .bool miss]) (by simp [results, Try.results24, go_sem, c0, c1, c2, c3, c4, c5, c6]) rfl ?_
  exact ⟨_, rfl, ⟨_, _, rfl, o1, o2, apart⟩, bel8⟩
end Go.Proofs.Ythlboonobepdaaa
