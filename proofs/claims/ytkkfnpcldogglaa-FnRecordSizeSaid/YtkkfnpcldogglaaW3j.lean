/- Chapter 3: how the program writes records. -/
import Derived.Test.YtkkfnpcldogglaaW3i
namespace Go.Proofs.Ytkkfnpcldogglaa
open Go.ChangeShapes Go.WideShapes Go.ChangeAt Go.RowKit
set_option linter.unusedVariables false

/-- numbers of the call's own if both tests say yes, none if not -/
def IfInts (w : World) (b1 b2 : Bool) (ys : List Int) (e : Ending) (w' : World) : Prop := NewInts w (if (b1 && b2) = true then ys else []) (b1 && b2) e w'

set_option maxHeartbeats 1000000 in
theorem impl_RecordBytes (v : Value) (r : Rec) (o t : Int) (w : World) (h : RecV w v r) :
    Calls Try.prog 16 #[v, .int .i64 o, .int .i64 t] w (NewInts w (if (recOk r && baseOk o t) = true then recBytes r o t else []) (recOk r && baseOk o t)) := by
  have C1 : Hid (∀ wn, Below w.heap.size w wn → Calls Try.prog 24 #[v] wn (SaysB (recOk r) wn)) := fun wn hb => impl_RecordValid v r wn (h.below hb)
  have C2 : Hid (∀ wn, Calls Try.prog 42 #[.int .i64 o, .int .i64 t] wn fun e w' => e = .returned (.bool (baseOk o t)) ∧ wn = w') := fun wn => impl_isBase o t wn
  obtain ⟨kv, vv, rfl, ik, iv⟩ := h
  have H : Hid (recOk r = true → baseOk o t = true → _) := fun h1 h2 => And.intro (recOk_iff.1 h1) (And.intro (baseOk_iff.1 h2) (recBody_len (o := o) (t := t) h1))
  obtain ⟨b1, h1⟩ : ∃ b, recOk r = b := ⟨_, rfl⟩
  obtain ⟨b2, h2⟩ : ∃ b, baseOk o t = b := ⟨_, rfl⟩
  rw [h1] at C1 H ⊢
  rw [h2] at C2 H ⊢
  show Calls Try.prog 16 _ w (IfInts w b1 b2 (recBytes r o t))
  obtain ⟨R, hR⟩ : ∃ R, recBytes r o t = R := ⟨_, rfl⟩
  rw [hR]
  unfold recBytes recBody at hR
  unfold recBody at H
  obtain ⟨off, time, hk, key, hv, val⟩ := r
  have HR := Lib.hid hR
  clear h1 h2 hR
  have box := Blk.made w #[.int .i64 off, .int .i64 time, .bool hk, kv, .bool hv, vv] 25
  have belw := alloc_below' w (.cells #[.int .i64 off, .int .i64 time, .bool hk, kv, .bool hv, vv] 25)
  simp only at ik iv C1 H HR ⊢
  go_enter Try.func16, Try.ntmps16
  go_wp2_with fail
  generalize hwb : w.alloc (.cells #[.int .i64 off, .int .i64 time, .bool hk, kv, .bool hv, vv] 25) = wb at box belw ⊢
  clear hwb
  have hB := box.lt
  refine (C1.out wb belw).mono ?_
  rintro e w1 ⟨rfl, bel1⟩
  have box1 := box.below hB bel1
  have B1 := belw.trans (bel1.mono belw.size)
  cases b1 with
  | false =>
    go_wp2_with fail
    go_ret2
    exact ⟨_, rfl, own_nil _ _, B1⟩
  | true =>
    go_wp2_with fail
    refine (C2.out w1).mono ?_
    rintro e w1' ⟨rfl, rfl⟩
    cases b2 with
    | false =>
      go_wp2_with fail
      go_ret2
      exact ⟨_, rfl, own_nil _ _, B1⟩
    | true =>
      obtain ⟨⟨⟨r0, r1⟩, ⟨q0, q1⟩, pk, pv⟩, ⟨⟨o0, o1⟩, t0, t1⟩, hlen⟩ := H.out (by simp) (by simp)
      have lk := (partOk_iff.1 pk).2.2
      have lv := (partOk_iff.1 pv).2.2
      have e1 := varB_len (time - t)
      have e2 := varB_len (off - o)
      have e3 := putP_len (has := hk) lk
      have e4 := putP_len (has := hv) lv
      have hbase : w.heap.size ≤ w1.heap.size := B1.size
      have P1 : Hid (∀ wn v xs n, Own wn w1.heap.size v xs → w1.heap.size ≤ wn.heap.size → xs.length ≤ 100 → -1000000 ≤ n → n ≤ 1000000 → Calls Try.prog 43 #[v, .int .i64 n] wn (AppRes wn w1.heap.size (xs ++ varB n))) := fun wn v xs n ho hs hl n0 n1 => impl_withNumber v xs n w1.heap.size wn ho hs (by omega) n0 n1
      have P2 : Hid (∀ wn v xs, Own wn w1.heap.size v xs → Below w1.heap.size w1 wn → xs.length ≤ 100 → Calls Try.prog 44 #[v, .bool hk, kv] wn (AppRes wn w1.heap.size (xs ++ putP hk key))) := fun wn v xs ho hb hl => impl_withPart v kv xs key hk _ wn ho (ik.below (B1.trans (hb.mono hbase))) (fun w' hw' => ik.below (B1.trans ((hb.trans hw').mono hbase))) hb.size (by omega) (by omega)
      have P3 : Hid (∀ wn v xs, Own wn w1.heap.size v xs → Below w1.heap.size w1 wn → xs.length ≤ 100 → Calls Try.prog 44 #[v, .bool hv, vv] wn (AppRes wn w1.heap.size (xs ++ putP hv val))) := fun wn v xs ho hb hl => impl_withPart v vv xs val hv _ wn ho (iv.below (B1.trans (hb.mono hbase))) (fun w' hw' => iv.below (B1.trans ((hb.trans hw').mono hbase))) hb.size (by omega) (by omega)
      have n1 : -1000000 ≤ time - t ∧ time - t ≤ 1000000 := by omega
      have n2 : -1000000 ≤ off - o ∧ off - o ≤ 1000000 := by omega
      obtain ⟨x1, hx1⟩ : ∃ x, varB (time - t) = x := ⟨_, rfl⟩
      obtain ⟨x2, hx2⟩ : ∃ x, varB (off - o) = x := ⟨_, rfl⟩
      obtain ⟨x3, hx3⟩ : ∃ x, putP hk key = x := ⟨_, rfl⟩
      obtain ⟨x4, hx4⟩ : ∃ x, putP hv val = x := ⟨_, rfl⟩
      have Q1 := Lib.hid (P1.out w1 (.slice none 0 0) [] (time - t) (own_nil _ _) (Nat.le_refl _) (by simp) n1.1 n1.2)
      have Q2 : Hid (∀ wn v xs, Own wn w1.heap.size v xs → w1.heap.size ≤ wn.heap.size → xs.length ≤ 100 → Calls Try.prog 43 #[v, .int .i64 (off - o)] wn (AppRes wn w1.heap.size (xs ++ varB (off - o)))) := fun wn v xs ho hs hl => P1.out wn v xs (off - o) ho hs hl n2.1 n2.2
      have hR2 := HR.out
      rw [hx1] at Q1 e1 hlen hR2
      rw [hx2] at Q2 e2 hlen hR2
      rw [hx3] at P2 e3 hlen hR2
      rw [hx4] at P3 e4 hlen hR2
      have HR2 := Lib.hid hR2
      rw [List.nil_append] at Q1
      clear hx1 hx2 hx3 hx4 n1 n2 P1 H pk pv lk lv C1 C2 box bel1 belw HR hR2
      have hB1 : w.heap.size < w1.heap.size := box1.lt
      have cells : Hid (∀ wn, Below w1.heap.size w1 wn → w1.heap.size ≤ wn.heap.size ∧ wn.cell? ⟨w.heap.size, 0, none⟩ = some (.int .i64 off) ∧ wn.cell? ⟨w.heap.size, 1, none⟩ = some (.int .i64 time) ∧ wn.cell? ⟨w.heap.size, 2, none⟩ = some (.bool hk) ∧ wn.cell? ⟨w.heap.size, 3, none⟩ = some kv ∧ wn.cell? ⟨w.heap.size, 4, none⟩ = some (.bool hv) ∧ wn.cell? ⟨w.heap.size, 5, none⟩ = some vv) := fun wn hw =>
        have b := box1.below hB1 hw
        ⟨hw.size, b.cell 0, b.cell 1, b.cell 2, b.cell 3, b.cell 4, b.cell 5⟩
      obtain ⟨_, c0, c1, c2, c3, c4, c5⟩ := cells.out w1 (Below.refl _ _)
      have l2 : x1.length ≤ 100 := by omega
      have l3 : (x1 ++ x2).length ≤ 100 := by rw [List.length_append]; omega
      have l4 : (x1 ++ x2 ++ x3).length ≤ 100 := by simp only [List.length_append]; omega
      clear box1
      go_wp2_with fail
      refine Q1.out.mono ?_
      rintro e w2 ⟨v2, rfl, own2, D2⟩
      clear c0 c1 c2 c3 c4 c5
      obtain ⟨s2, c0, c1, c2, c3, c4, c5⟩ := cells.out w2 D2
      go_wp2_with fail
      refine (Q2.out w2 v2 x1 own2 s2 l2).mono ?_
      rintro e w3 ⟨v3, rfl, own3, b3⟩
      have D3 := D2.trans b3
      clear c0 c1 c2 c3 c4 c5
      obtain ⟨s3, c0, c1, c2, c3, c4, c5⟩ := cells.out w3 D3
      go_wp2_with fail
      refine (P2.out w3 v3 _ own3 D3 l3).mono ?_
      rintro e w4 ⟨v4, rfl, own4, b4⟩
      have D4 := D3.trans b4
      clear c0 c1 c2 c3 c4 c5
      obtain ⟨s4, c0, c1, c2, c3, c4, c5⟩ := cells.out w4 D4
      go_wp2_with fail
      refine (P3.out w4 v4 _ own4 D4 l4).mono ?_
      rintro e w5 ⟨v5, rfl, own5, b5⟩
      have D5 := D4.trans b5
      clear c0 c1 c2 c3 c4 c5
      obtain ⟨body, hbody⟩ : ∃ ys, x1 ++ x2 ++ x3 ++ x4 = ys := ⟨_, rfl⟩
      have hR3 := HR2.out
      rw [hbody] at own5 hlen hR3
      have hvn := varB_len (body.length : Int)
      have P5 := Lib.hid (impl_withNumber (.slice none 0 0) [] (body.length : Int) w5.heap.size w5 (own_nil _ _) (Nat.le_refl _) (by simp) (by omega) (by omega))
      rw [List.nil_append] at P5
      obtain ⟨ys, hys⟩ : ∃ ys, varB (body.length : Int) = ys := ⟨_, rfl⟩
      rw [hys] at P5 hvn hR3
      have HR3 := Lib.hid hR3
      have i5 := own5.ints
      have i5' := i5
      obtain ⟨a5, cap5, rfl, hl5, hm5, hc5⟩ := i5'
      unfold maxLen at hm5
      clear hbody hys hc5 l2 l3 l4 hR3 HR2
      go_wp2_with fail
      refine P5.out.mono ?_
      rintro e w6 ⟨v6, rfl, own6, b6⟩
      have i6 := i5.below b6
      have D6 := D5.trans (b6.mono D5.size)
      have s6 := D6.size
      have own6' := own6.base (show w.heap.size ≤ w5.heap.size from Nat.le_trans hbase D5.size)
      have ss : w.heap.size ≤ w6.heap.size := Nat.le_trans hbase s6
      go_wp2_with (at_builtin; refine wp_appI rfl _ _ rfl w.heap.size v6 _ ys body rfl rfl own6' i6 (by omega) ss ?_; intro v7 w7 own7 g7)
      go_ret2
      rw [HR3.out] at own7
      exact ⟨_, rfl, own7, (B1.trans (D6.mono hbase)).grown g7 ss own6'.lt⟩
/-- how many bytes a record has -/
theorem impl_RecordSize (v : Value) (r : Rec) (o t : Int) (w : World) (h : RecV w v r) :
    Calls Try.prog 26 #[v, .int .i64 o, .int .i64 t] w fun e w' => e = .returned (.int .i64 (recS r o t)) ∧ Below w.heap.size w w' := by
  have C1 : Hid (∀ wn, Below w.heap.size w wn → Calls Try.prog 16 #[v, .int .i64 o, .int .i64 t] wn (IfInts wn (recOk r) (baseOk o t) (recBytes r o t))) := fun wn hb => impl_RecordBytes v r o t wn (h.below hb)
  obtain ⟨kv, vv, rfl, ik, iv⟩ := h
  clear ik iv
  unfold recS
  obtain ⟨b, hb⟩ : ∃ b, (recOk r && baseOk o t) = b := ⟨_, rfl⟩
  unfold IfInts at C1
  rw [hb] at C1 ⊢
  clear hb
  cases b with
  | false =>
    rw [if_neg (by simp)] at C1 ⊢
    go_enter Try.func26, Try.ntmps26
    go_wp2_with fail
    refine (C1.out _ (alloc_below' _ _)).mono ?_
    rintro e w1 ⟨u, rfl, own, b1⟩
    go_wp2_with fail
    go_ret
    exact ⟨rfl, Bstep (alloc_below' _ _) b1⟩
  | true =>
    rw [if_pos rfl] at C1 ⊢
    obtain ⟨ys, hys⟩ : ∃ ys, recBytes r o t = ys := ⟨_, rfl⟩
    rw [hys] at C1 ⊢
    clear hys
    go_enter Try.func26, Try.ntmps26
    go_wp2_with fail
    refine (C1.out _ (alloc_below' _ _)).mono ?_
    rintro e w1 ⟨u, rfl, own, b1⟩
    obtain ⟨a1, cap1, rfl, hl1, hm1, _⟩ := own.ints
    go_wp2_with fail
    go_ret
    exact ⟨rfl, Bstep (alloc_below' _ _) b1⟩
end Go.Proofs.Ytkkfnpcldogglaa
