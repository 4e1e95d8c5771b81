/- Chapter 23: how far two rows of terms agree, by the program. -/
import Derived.Test.YtddemgdclilgpaaW14n
import Derived.Test.YtddemgdclilgpaaI2
namespace Go.Proofs.Ytddemgdclilgpaa
open Go.ChangeShapes Go.WideShapes Go.ChangeAt Go.RowKit Go.Shelf
set_option linter.unusedVariables false
attribute [local go_sem] Oper.semAt_some

theorem backN_lt {a : List Trm} (k : Nat) (h : 0 < a.length) : backN a k < a.length := by unfold backN; omega
theorem backN_back {a : List Trm} {i : Nat} (h : i < a.length) : backN a (a.length - 1 - i) = i := by unfold backN; omega
/-- no term of b is the one of round k -/
def NoneAt (a b : List Trm) (k : Nat) : Prop := ∀ j, j < b.length → tAt b j ≠ tAt a (backN a k)
theorem meet_zero {a : List Trm} {ea : Int} {b : List Trm} {eb : Int} (h : endOk a ea = true) (k : endOk b eb = true) (no : ∀ x, x < a.length → NoneAt a b x) : meetI a ea b eb = 0 := by
  rcases meet_char h k with ⟨h1, _⟩ | ⟨i, j, hi, hj, e, _⟩
  · exact h1
  · exact absurd (e.trans (by rw [backN_back hi])) (no (a.length - 1 - i) (by omega) j hj)
theorem meet_found {a : List Trm} {ea : Int} {b : List Trm} {eb : Int} (h : endOk a ea = true) (k : endOk b eb = true) {x j : Nat} (hx : x < a.length) (hj : j < b.length) (e : tAt b j = tAt a (backN a x)) (no : ∀ y, y < x → NoneAt a b y) :
    meetI a ea b eb = min (endAtT a (backN a x) ea) (endAtT b j eb) := by
  have hb := backN_lt (a := a) x (by omega)
  rcases meet_char h k with ⟨_, h2⟩ | ⟨i, j', hi, hj', e', hm, hv⟩
  · exact absurd e (h2 _ _ hb hj)
  · have h1 := hm _ _ hb hj e
    have h2 : i = backN a x := by
      rcases Nat.lt_or_ge (a.length - 1 - i) x with hlt | hge
      · exact absurd (e'.trans (by rw [backN_back hi])) (no _ hlt j' hj')
      · unfold backN at h1 ⊢; omega
    subst h2
    have okb : tsOk b = true := (endOk_iff.1 k).1
    have : j' = j := by
      have q1 := findN_uniq okb hj' (rfl : (tAt b j').num = _)
      have q2 := findN_uniq okb hj (rfl : (tAt b j).num = _)
      rw [e'] at q1
      rw [e] at q2
      rw [← q1, ← q2]
    rw [hv, this]

/-- the four boxes of the parameters, and the one of the result -/
def Box4 (W : World) (N : Nat) (v0 v1 v2 v3 : Value) : Prop := Blk W N #[v0] ∧ Blk W (N + 1) #[v1] ∧ Blk W (N + 1 + 1) #[v2] ∧ Blk W (N + 1 + 1 + 1) #[v3]
theorem Box4.below {W W' : World} {N n : Nat} {v0 v1 v2 v3 : Value} (h : Box4 W N v0 v1 v2 v3) (hN : N + 4 ≤ n) (hb : Below n W W') : Box4 W' N v0 v1 v2 v3 :=
  ⟨h.1.below (by omega) hb, h.2.1.below (by omega) hb, h.2.2.1.below (by omega) hb, h.2.2.2.below (by omega) hb⟩
theorem Box4.grown {W W' : World} {N R : Nat} {v0 v1 v2 v3 : Value} (h : Box4 W N v0 v1 v2 v3) (hR : R = N + 4) (hg : W.grownBy W' (some R)) : Box4 W' N v0 v1 v2 v3 :=
  ⟨h.1.by (by omega) hg, h.2.1.by (by omega) hg, h.2.2.1.by (by omega) hg, h.2.2.2.by (by omega) hg⟩
theorem boxes_made (w : World) (v0 v1 v2 v3 v4 : Value) (t0 t1 t2 t3 t4 : TypeId) :
    Box4 (((((w.alloc (.cells #[v0] t0)).alloc (.cells #[v1] t1)).alloc (.cells #[v2] t2)).alloc (.cells #[v3] t3)).alloc (.cells #[v4] t4)) w.heap.size v0 v1 v2 v3 ∧
    Blk (((((w.alloc (.cells #[v0] t0)).alloc (.cells #[v1] t1)).alloc (.cells #[v2] t2)).alloc (.cells #[v3] t3)).alloc (.cells #[v4] t4)) (w.heap.size + 1 + 1 + 1 + 1) #[v4] ∧
    Below w.heap.size w (((((w.alloc (.cells #[v0] t0)).alloc (.cells #[v1] t1)).alloc (.cells #[v2] t2)).alloc (.cells #[v3] t3)).alloc (.cells #[v4] t4)) ∧
    (((((w.alloc (.cells #[v0] t0)).alloc (.cells #[v1] t1)).alloc (.cells #[v2] t2)).alloc (.cells #[v3] t3)).alloc (.cells #[v4] t4)).heap.size = w.heap.size + 5 := by
  have s1 : (w.alloc (.cells #[v0] t0)).heap.size = w.heap.size + 1 := by simp
  have s2 : ((w.alloc (.cells #[v0] t0)).alloc (.cells #[v1] t1)).heap.size = w.heap.size + 1 + 1 := by simp
  have s3 : (((w.alloc (.cells #[v0] t0)).alloc (.cells #[v1] t1)).alloc (.cells #[v2] t2)).heap.size = w.heap.size + 1 + 1 + 1 := by simp
  have s4 : ((((w.alloc (.cells #[v0] t0)).alloc (.cells #[v1] t1)).alloc (.cells #[v2] t2)).alloc (.cells #[v3] t3)).heap.size = w.heap.size + 1 + 1 + 1 + 1 := by simp
  have a0 := Blk.made w #[v0] t0
  have a1 := Blk.made (w.alloc (.cells #[v0] t0)) #[v1] t1
  have a2 := Blk.made ((w.alloc (.cells #[v0] t0)).alloc (.cells #[v1] t1)) #[v2] t2
  have a3 := Blk.made (((w.alloc (.cells #[v0] t0)).alloc (.cells #[v1] t1)).alloc (.cells #[v2] t2)) #[v3] t3
  have a4 := Blk.made ((((w.alloc (.cells #[v0] t0)).alloc (.cells #[v1] t1)).alloc (.cells #[v2] t2)).alloc (.cells #[v3] t3)) #[v4] t4
  rw [s1] at a1
  rw [s2] at a2
  rw [s3] at a3
  rw [s4] at a4
  have b1 := alloc_below' w (.cells #[v0] t0)
  have b2 := alloc_below' (w.alloc (.cells #[v0] t0)) (.cells #[v1] t1)
  have b3 := alloc_below' ((w.alloc (.cells #[v0] t0)).alloc (.cells #[v1] t1)) (.cells #[v2] t2)
  have b4 := alloc_below' (((w.alloc (.cells #[v0] t0)).alloc (.cells #[v1] t1)).alloc (.cells #[v2] t2)) (.cells #[v3] t3)
  have b5 := alloc_below' ((((w.alloc (.cells #[v0] t0)).alloc (.cells #[v1] t1)).alloc (.cells #[v2] t2)).alloc (.cells #[v3] t3)) (.cells #[v4] t4)
  have c5 := b5
  have c4 := Bstep b4 c5
  have c3 := Bstep b3 c4
  have c2 := Bstep b2 c3
  exact ⟨⟨a0.belowS c2, a1.belowS c3, a2.belowS c4, a3.belowS c5⟩, a4, Bstep b1 c2, by simp⟩

theorem keepsFrom_below {B n : Nat} {W W' : World} (hb : Below n W W') (hn : W.heap.size ≤ n) : KeepsFrom B W W' :=
  ⟨hb.size, fun k o _ hk _ => (hb.block k (Nat.lt_of_lt_of_le (Array.getElem?_eq_some_iff.1 hk).1 hn)).trans hk⟩

theorem grown_below {w a b : World} {row : Option Nat} (h : w.grownBy a row) (k : Below a.heap.size a b) : w.grownBy b row :=
  ⟨k.os.trans h.os, k.tape.trans h.tape, k.output.trans h.output, Nat.le_trans h.size k.size, fun i hi hne => (k.block i (Nat.lt_of_lt_of_le hi h.size)).trans (h.block i hi hne)⟩
theorem grown_set {w a : World} {R : Nat} (h : w.grownBy a (some R)) (v : Value) : w.grownBy (a.setCell ⟨R, 0, none⟩ v) (some R) :=
  have g := grownBy_setCell' a R v
  ⟨g.os.trans h.os, g.tape.trans h.tape, g.output.trans h.output, Nat.le_trans h.size g.size, fun i hi hne => (g.block i (Nat.lt_of_lt_of_le hi h.size) hne).trans (h.block i hi hne)⟩

/-- what the operations of the return yield -/
def eightV (va vb : Value) (m j : Nat) (ea eb e1 e2 : Int) : Nat → Value → Prop
  | 0, v => v = va
  | 1, v => v = .int .i64 (m : Int)
  | 2, v => v = .int .i64 ea
  | 3, v => v = .int .i64 e1
  | 4, v => v = vb
  | 5, v => v = .int .i64 (j : Int)
  | 6, v => v = .int .i64 eb
  | 7, v => v = .int .i64 e2
  | 8, v => v = .int .i64 (min e1 e2)
  | _, _ => True
/-- the worlds of the return: nothing has turned but the result's box -/
def eightF (w0 : World) (R : Nat) (res : Value) (l : Array Bool) (W : World) : Prop :=
  w0.grownBy W (some R) ∧ (∃ u, Blk W R #[u]) ∧ (l.getD 9 false = true → Blk W R #[res])
theorem eight_start {w0 : World} {R : Nat} {u : Value} (h : Blk w0 R #[u]) (res : Value) (n : Nat) : eightF w0 R res (Array.replicate n false) { w0 with drawn := w0.drawn + 1 } :=
  have b : Below w0.heap.size w0 w0.drew := below_drewN (Below.refl _ _) 1
  ⟨⟨b.os, b.tape, b.output, b.size, fun k hk _ => b.block k hk⟩, ⟨u, h.belowS b⟩, fun e => by
    simp only [Array.getD_eq_getD_getElem?, Array.getElem?_replicate] at e
    split at e <;> simp at e⟩
theorem eightF.step {w0 W W' : World} {R i : Nat} {res : Value} {l : Array Bool} (h : eightF w0 R res l W) (hi : i ≠ 9) (hb : Below W.heap.size W W') : eightF w0 R res (l.setIfInBounds i true) W' := by
  obtain ⟨h1, ⟨u, h2⟩, h3⟩ := h
  refine ⟨grown_below h1 hb, ⟨u, h2.belowS hb⟩, fun e => ?_⟩
  rw [getD_set_other _ _ _ _ hi] at e
  exact (h3 e).belowS hb
theorem eightF.done {w0 W : World} {R : Nat} {res : Value} {l : Array Bool} (h : eightF w0 R res l W) : eightF w0 R res (l.setIfInBounds 9 true) (W.setCell ⟨R, 0, none⟩ res) := by
  obtain ⟨h1, ⟨u, h2⟩, h3⟩ := h
  have h4 : Blk (W.setCell ⟨R, 0, none⟩ res) R #[res] := h2.set 0 res
  exact ⟨grown_set h1 res, ⟨res, h4⟩, fun _ => h4⟩

set_option maxRecDepth 100000 in
set_option maxHeartbeats 4000000 in
theorem TermsMeet_in (v u : Value) (a b : List Trm) (ea eb : Int) (w : World) (h : Ts w v a) (g : Ts w u b) :
    CallsIn Fence.wide 12 Try.prog 9 #[v, .int .i64 ea, u, .int .i64 eb] w fun e w' => e = .returned (.int .i64 (meetI a ea b eb)) ∧ Below w.heap.size w w' := by
  have hv := h
  have hu := g
  have C1 : Hid (∀ W, Below w.heap.size w W → Calls Try.prog 20 #[v, .int .i64 ea] W fun e w' => e = .returned (.bool (endOk a ea)) ∧ Below W.heap.size W w') := Lib.hid fun W hW => impl_isEnd v a ea W (hv.below hW)
  have C2 : Hid (∀ W, Below w.heap.size w W → Calls Try.prog 20 #[u, .int .i64 eb] W fun e w' => e = .returned (.bool (endOk b eb)) ∧ Below W.heap.size W w') := Lib.hid fun W hW => impl_isEnd u b eb W (hu.below hW)
  obtain ⟨aa, ca, rfl, hl, hm, hc⟩ := h
  obtain ⟨ab, cb, rfl, hl', hm', hc'⟩ := g
  unfold maxLen at hm hm'
  clear hc hc'
  have HBX := boxes_made w (.slice aa a.length ca) (.int .i64 ea) (.slice ab b.length cb) (.int .i64 eb) (.int .i64 0) 23 3 23 3 3
  obtain ⟨bx, bR, bB, hsz⟩ := HBX
  have E0 : (endOk a ea && endOk b eb) = false → meetI a ea b eb = -1 := meetI_bad
  have E1 : endOk a ea = true → endOk b eb = true → (∀ x, x < a.length → NoneAt a b x) → meetI a ea b eb = 0 := fun h k => meet_zero h k
  have E2 : endOk a ea = true → endOk b eb = true → ∀ x j, x < a.length → j < b.length → tAt b j = tAt a (backN a x) → (∀ y, y < x → NoneAt a b y) → meetI a ea b eb = min (endAtT a (backN a x) ea) (endAtT b j eb) := fun h k x j hx hj e no => meet_found h k hx hj e no
  obtain ⟨r1, hr1⟩ : ∃ r, endOk a ea = r := ⟨_, rfl⟩
  obtain ⟨r2, hr2⟩ : ∃ r, endOk b eb = r := ⟨_, rfl⟩
  rw [hr1] at C1 E0 E1 E2
  rw [hr2] at C2 E0 E1 E2
  clear hr1 hr2
  obtain ⟨mt, hmt⟩ : ∃ r, meetI a ea b eb = r := ⟨_, rfl⟩
  rw [hmt] at E0 E1 E2 ⊢
  clear hmt
  have HE0 := Lib.hid E0
  have HE1 := Lib.hid E1
  have HE2 := Lib.hid E2
  clear E0 E1 E2
  refine callsIn_of_wp_marks Try.func9 rfl trivial ?_ rfl
  simp only [Try.ntmps9, List.size_toArray, List.length_cons, List.length_nil, Nat.reduceAdd, Nat.reduceSub, Array.replicate_succ, Array.replicate_zero, List.push_toArray, List.append_toArray, List.nil_append, List.cons_append]
  gi_wp2_with fail
  obtain ⟨W5, hW5⟩ : ∃ W, (((((w.alloc (.cells #[.slice aa a.length ca] 23)).alloc (.cells #[.int .i64 ea] 3)).alloc (.cells #[.slice ab b.length cb] 23)).alloc (.cells #[.int .i64 eb] 3)).alloc (.cells #[.int .i64 0] 3)) = W := ⟨_, rfl⟩
  rw [hW5] at bx bR bB hsz ⊢
  clear hW5
  cases r1 with
  | false =>
    have hmt := HE0.out rfl
    subst hmt
    refine ⟨trivial, ?_⟩
    refine ((callsIn_wide.2 (C1.out W5 bB))).mono ?_
    rintro e w1 ⟨rfl, b1⟩
    have bR1 := bR.belowS b1
    have cR := bR1.cell 0
    have fR := bR1.free 0
    gi_wp2
    refine ⟨trivial, ?_⟩
    gi_wp2
    refine ⟨.int .i64 (-1), ?_, rfl, (Bstep bB b1).setCell (p := ⟨w.heap.size + 1 + 1 + 1 + 1, 0, none⟩) (by simp; omega) _⟩
    have hcS := World.cell?_setCell_same' w1 ⟨w.heap.size + 1 + 1 + 1 + 1, 0, none⟩ (.int .i64 (-1)) (by rw [cR]; rfl)
    simp [results, Try.f9, go_sem, hcS]
  | true =>
  cases r2 with
  | false =>
    have hmt := HE0.out rfl
    subst hmt
    refine ⟨trivial, ?_⟩
    refine ((callsIn_wide.2 (C1.out W5 bB))).mono ?_
    rintro e w1 ⟨rfl, b1⟩
    have bB1 := Bstep bB b1
    have bR1 := bR.belowS b1
    have bx1 := bx.below (by omega) b1
    have c2 := bx1.2.2.1.cell 0
    have c3 := bx1.2.2.2.cell 0
    gi_wp2_with fail
    refine ⟨trivial, ?_⟩
    refine ((callsIn_wide.2 (C2.out w1 bB1))).mono ?_
    rintro e w2 ⟨rfl, b2⟩
    have bR2 := bR1.belowS b2
    have cR := bR2.cell 0
    have fR := bR2.free 0
    gi_wp2
    refine ⟨.int .i64 (-1), ?_, rfl, (Bstep bB1 b2).setCell (p := ⟨w.heap.size + 1 + 1 + 1 + 1, 0, none⟩) (by simp; omega) _⟩
    have hcS := World.cell?_setCell_same' w2 ⟨w.heap.size + 1 + 1 + 1 + 1, 0, none⟩ (.int .i64 (-1)) (by rw [cR]; rfl)
    simp [results, Try.f9, go_sem, hcS]
  | true =>
    refine ⟨trivial, ?_⟩
    refine ((callsIn_wide.2 (C1.out W5 bB))).mono ?_
    rintro e w1 ⟨rfl, b1⟩
    have bB1 := Bstep bB b1
    have bR1 := bR.belowS b1
    have bx1 := bx.below (by omega) b1
    have hs1 : w.heap.size + 5 ≤ w1.heap.size := by have := b1.size; omega
    have c2 := bx1.2.2.1.cell 0
    have c3 := bx1.2.2.2.cell 0
    gi_wp2_with fail
    refine ⟨trivial, ?_⟩
    refine ((callsIn_wide.2 (C2.out w1 bB1))).mono ?_
    rintro e w2 ⟨rfl, b2⟩
    have bB2 := Bstep bB1 b2
    have bR2 := bR1.belowS b2
    have bx2 := bx1.below (by omega) b2
    have hs2 : w.heap.size + 5 ≤ w2.heap.size := by have := b2.size; omega
    have c0 := bx2.1.cell 0
    clear c2 c3 b1 b2 bR1 bx1 hs1 bB1 bR bx hsz bB C1 C2
    gi_wp2_with fail
    refine ⟨trivial, ?_⟩
    refine (backward_in Fence.wide 11 trivial rfl aa a.length ca w2).mono ?_
    rintro e w' ⟨rfl, rfl⟩
    obtain ⟨W0, hW0⟩ : ∃ W, w2.alloc (.cells #[.slice aa a.length ca] 23) = W := ⟨_, rfl⟩
    have bK := alloc_below' w2 (.cells #[.slice aa a.length ca] 23)
    have xK := Blk.made w2 #[.slice aa a.length ca] 23
    have hK0 : W0.heap.size = w2.heap.size + 1 := by rw [← hW0]; simp
    rw [hW0] at bK xK ⊢
    clear hW0
    obtain ⟨Kb, hKb⟩ : ∃ k, w2.heap.size = k := ⟨_, rfl⟩
    have bx0 := bx2.below (by omega) bK
    have bR0 := bR2.belowS bK
    have bB0 := Bstep bB2 bK
    rw [hKb] at xK hK0 hs2 ⊢
    clear hKb bK bx2 bR2 bB2
    have cK := xK.cell 0
    gi_wp2_with fail
    refine wpIn_rangeFunc_ownH rfl (by omega) (gf := 31) (lb := #[.pointer (some ⟨Kb, 0, none⟩)]) rfl trivial (enters_of Try.func31 (by kernel_rfl) rfl)
      (backward_stops Fence.wide 11 trivial rfl (by omega) Kb W0.heap.size _ a W0 (by omega) (Nat.le_refl _) cK (hv.below bB0) (fun h0 b hb => Nat.lt_of_lt_of_le (hv.lt h0 b hb) bB0.size))
      belowK_t (belowK_b (Nat.le_refl _)) (Below.refl _ _) (fun _ => rfl)
      (fun pre W => (∀ x ∈ pre, NoneAt a b x) ∧ Below W0.heap.size W0 W)
      (fun c pre W => (c = .ret ∧ ∃ (ini : List Nat) (last j : Nat), pre = ini ++ [last] ∧ (∀ x ∈ ini, NoneAt a b x) ∧ j < b.length ∧ tAt b j = tAt a (backN a last) ∧ W.cell? ⟨w.heap.size + 1 + 1 + 1 + 1, 0, none⟩ = some (.int .i64 (min (endAtT a (backN a last) ea) (endAtT b j eb)))) ∧ Below w.heap.size w W)
      (OwnFrom.and (fun _ _ _ _ hs _ _ => hs) (ownFrom_below (Nat.le_refl _) (Nat.le_refl _)))
      (fun c => OwnFrom.and (Own.from (fun s A B row hs hg hr => by obtain ⟨hc, ini, last, j, e1, e2, e3, e4, e5⟩ := hs; exact ⟨hc, ini, last, j, e1, e2, e3, e4, cell_kept e5 hg hr⟩) _) (ownFrom_below (Nat.le_refl _) bB0.size))
      ⟨by simp, Below.refl _ _⟩
      (fun x a' W => ∃ T, W0.heap.size ≤ T ∧ (W.cell? ⟨T, 0, none⟩ = some (.int .i64 (tAt a (backN a x)).num) ∧ W.cell? ⟨T, 1, none⟩ = some (.int .i64 (tAt a (backN a x)).first)) ∧ a' = { tmps := #[.slice aa a.length ca, .int .i64 ea, .slice ab b.length cb, .int .i64 eb, .pointer (some ⟨w.heap.size, 0, none⟩), .pointer (some ⟨w.heap.size + 1, 0, none⟩), .pointer (some ⟨w.heap.size + 1 + 1, 0, none⟩), .pointer (some ⟨w.heap.size + 1 + 1 + 1, 0, none⟩), .pointer (some ⟨w.heap.size + 1 + 1 + 1 + 1, 0, none⟩), .int .i64 (backN a x : Int), .pointer (some ⟨T, 0, none⟩), undef, .slice aa a.length ca, .int .i64 ea, .bool true, .bool false, .bool false, .slice ab b.length cb, .int .i64 eb, .bool true, .bool false, .bool false, .slice aa a.length ca, .func (.func 31) #[] #[.pointer (some ⟨Kb, 0, none⟩)], .int .i64 (backN a x : Int), .agg #[.int .i64 (tAt a (backN a x)).num, .int .i64 (tAt a (backN a x)).first], undef, undef, undef, undef, undef, undef, undef, undef, undef, undef, undef, undef, undef, undef], defers := [] })
      (fun x a' _ A B row hs hg hr => by obtain ⟨T, h1, ⟨h2, h3⟩, h4⟩ := hs; exact ⟨T, h1, ⟨cell_kept h2 hg (fun r e => (hr r e).2), cell_kept h3 hg (fun r e => (hr r e).2)⟩, h4⟩)
      ?assign ?body ?done ?stop
    case assign =>
      intro l pre x W K hI hK
      simp only [encT]
      gi_wp2
      have bA := alloc_below' W (.cells #[.int .i64 (tAt a (backN a x)).num, .int .i64 (tAt a (backN a x)).first] 29)
      have xA := Blk.made W #[.int .i64 (tAt a (backN a x)).num, .int .i64 (tAt a (backN a x)).first] 29
      exact hK _ _ ((KeepsOthers.alloc _ _).from _) (bA.mono hI.2.size) ⟨hI.1, hI.2.trans (bA.mono hI.2.size)⟩ ⟨W.heap.size, hI.2.size, ⟨xA.cell 0, xA.cell 1⟩, rfl⟩
    case body =>
      rintro l pre x a' W hl ⟨rr, hrr⟩ ⟨hpre, hB⟩ ⟨T, hT, ⟨t0, t1⟩, rfl⟩ hN
      have ha : 0 < a.length := by omega
      have hml := backN_lt (a := a) x ha
      have hBw : Below w.heap.size w W := bB0.trans (hB.mono bB0.size)
      have bxW := bx0.below (n := W0.heap.size) (by omega) hB
      have bRW := bR0.belowS hB
      have c2 := bxW.2.2.1.cell 0
      have CI := Lib.hid (slices_Index _ b (tAt a (backN a x)).num (tAt a (backN a x)).first W (hu.below hBw))
      have hsW : w.heap.size + 6 ≤ W.heap.size := by have := hB.size; omega
      have HP := Lib.hid hpre
      clear hpre
      gi_wp2_with fail
      refine ⟨trivial, ?_⟩
      refine (CallsIn.inRound l (callsIn_wide.2 CI.out)).mono ?_
      rintro e w3 ⟨he, b3⟩
      rcases he with ⟨rfl, hno⟩ | ⟨j, rfl, hj, hjt⟩
      · gi_wp2_with fail
        refine ⟨keepsFrom_below b3 (Nat.le_refl _), b3.mono hB.size, fun y hy => ?_, hB.trans (b3.mono hB.size)⟩
        rcases List.mem_append.1 hy with hy | hy
        · exact HP.out y hy
        · rw [List.mem_singleton] at hy
          subst hy
          exact hno
      · gi_wp2_with fail
        have bx3 := bxW.below (n := W.heap.size) (by omega) b3
        have bR3 := bRW.belowS b3
        have hBw3 : Below w.heap.size w w3 := Bstep hBw b3
        have hva3 := hv.below hBw3
        have hvb3 := hu.below hBw3
        have hlta : 0 < a.length → ∀ k, some (w.heap.size + 1 + 1 + 1 + 1) = some k → (Value.slice aa a.length ca).ownBlock ≠ some k := fun h0 k e e2 => by cases e; have := hv.lt h0 _ e2; omega
        have hltb : 0 < b.length → ∀ k, some (w.heap.size + 1 + 1 + 1 + 1) = some k → (Value.slice ab b.length cb).ownBlock ≠ some k := fun h0 k e e2 => by cases e; have := hu.lt h0 _ e2; omega
        have hpost : ∀ W', w3.grownBy W' (some (w.heap.size + 1 + 1 + 1 + 1)) → W'.cell? ⟨w.heap.size + 1 + 1 + 1 + 1, 0, none⟩ = some (.int .i64 (min (endAtT a (backN a x) ea) (endAtT b j eb))) →
            ∀ ac : Act, ownPostG W0.heap.size (Below W0.heap.size)
              (fun pre W => (∀ x ∈ pre, NoneAt a b x) ∧ Below W0.heap.size W0 W)
              (fun c pre W => (c = .ret ∧ ∃ (ini : List Nat) (last j : Nat), pre = ini ++ [last] ∧ (∀ x ∈ ini, NoneAt a b x) ∧ j < b.length ∧ tAt b j = tAt a (backN a last) ∧ W.cell? ⟨w.heap.size + 1 + 1 + 1 + 1, 0, none⟩ = some (.int .i64 (min (endAtT a (backN a last) ea) (endAtT b j eb)))) ∧ Below w.heap.size w W)
              (pre ++ [x]) W .ret ac W' := fun W' hg hc ac =>
          ⟨(keepsFrom_below (B := W0.heap.size) b3 (Nat.le_refl _)).trans (KeepsFrom.of_grownBy hg (fun r e => by cases e; omega)), ⟨rfl, pre, x, j, rfl, HP.out, hj, hjt, hc⟩, hBw3.grown hg (Nat.le_of_lt (by have := b3.size; omega)) (fun r e => by cases e; omega)⟩
        have HPO := Lib.hid hpost
        obtain ⟨m, hm⟩ : ∃ m, backN a x = m := ⟨_, rfl⟩
        rw [hm] at hml
        obtain ⟨e1, he1⟩ : ∃ z, endAtT a m ea = z := ⟨_, rfl⟩
        obtain ⟨e2, he2⟩ : ∃ z, endAtT b j eb = z := ⟨_, rfl⟩
        rw [hm, he1, he2] at HPO
        rw [hm]
        have D1 : Hid (∀ W', Ts W' (.slice aa a.length ca) a → Calls Try.prog 23 #[.slice aa a.length ca, .int .i64 (m : Int), .int .i64 ea] W' fun e w' => e = .returned (.int .i64 e1) ∧ Below W'.heap.size W' w') := Lib.hid fun W' hW => by rw [← he1]; exact impl_endAt _ a m ea W' hW hml
        have D2 : Hid (∀ W', Ts W' (.slice ab b.length cb) b → Calls Try.prog 23 #[.slice ab b.length cb, .int .i64 (j : Int), .int .i64 eb] W' fun e w' => e = .returned (.int .i64 e2) ∧ Below W'.heap.size W' w') := Lib.hid fun W' hW => by rw [← he2]; exact impl_endAt _ b j eb W' hW hj
        have HVA : Hid (∀ W', w3.grownBy W' (some (w.heap.size + 1 + 1 + 1 + 1)) → Ts W' (.slice aa a.length ca) a) := Lib.hid fun W' hg => hva3.grown hg hlta
        have HVB : Hid (∀ W', w3.grownBy W' (some (w.heap.size + 1 + 1 + 1 + 1)) → Ts W' (.slice ab b.length cb) b) := Lib.hid fun W' hg => hvb3.grown hg hltb
        have bx3' : Hid (∀ W', w3.grownBy W' (some (w.heap.size + 1 + 1 + 1 + 1)) → Box4 W' w.heap.size (.slice aa a.length ca) (.int .i64 ea) (.slice ab b.length cb) (.int .i64 eb)) := Lib.hid fun W' hg => bx3.grown rfl hg
        have F0 := Lib.hid (eight_start bR3 (.int .i64 (min e1 e2)) 10)
        clear hpost hm he1 he2 HP hjt hva3 hvb3 hlta hltb bx3 bR3 hBw3 bRW bxW CI hsW hBw hrr hN t0 t1 hB HE0 HE1 HE2 xK bx0 bR0 bB0 cK c0
        refine region_invIn (fun i _ v => eightV (.slice aa a.length ca) (.slice ab b.length cb) m j ea eb e1 e2 i v) (eightF w3 (w.heap.size + 1 + 1 + 1 + 1) (.int .i64 (min e1 e2))) (fun _ _ => True) (by kernel_rfl) (by decide +kernel) ?_ (by decide +kernel) (by decide +kernel) (fun i w w' v _ h => h) F0.out ?_ ?_
        · intro s hs
          show s < 40
          revert s
          decide +kernel
        · intro i o ho l' ac Wc hls hl hop hdeps hI K hK
          obtain ⟨i1, i2, i3, i4, hF⟩ := hI
          have hls' : l'.size = 10 := hls
          match i, ho with
          | 0, ho =>
            obtain rfl := Option.some.inj ho
            have q : ac.tmps.getD 4 undef = .pointer (some ⟨w.heap.size, 0, none⟩) := i3 4 (by decide +kernel)
            have cc := (bx3'.out Wc hF.1).1.cell 0
            clear i1 i2 i3 i4 hdeps
            go_simp
            exact hK _ _ trivial (hF.step (by decide) (Below.refl _ _)) (fun _ => rfl)
          | 1, ho =>
            obtain rfl := Option.some.inj ho
            have q : ac.tmps.getD 9 undef = .int .i64 (m : Int) := i3 9 (by decide +kernel)
            clear i1 i2 i3 i4 hdeps
            go_simp
            exact hK _ _ trivial (hF.step (by decide) (Below.refl _ _)) (fun _ => rfl)
          | 2, ho =>
            obtain rfl := Option.some.inj ho
            have q : ac.tmps.getD 5 undef = .pointer (some ⟨w.heap.size + 1, 0, none⟩) := i3 5 (by decide +kernel)
            have cc := (bx3'.out Wc hF.1).2.1.cell 0
            clear i1 i2 i3 i4 hdeps
            go_simp
            exact hK _ _ trivial (hF.step (by decide) (Below.refl _ _)) (fun _ => rfl)
          | 3, ho =>
            obtain rfl := Option.some.inj ho
            have d0 : l'.getD 0 false = true := by
              simp [Region.binds] at hdeps ⊢
              simp [hdeps]
            have p0 : ac.tmps.getD 31 undef = .slice aa a.length ca := i4 0 _ 31 rfl rfl d0
            have d1 : l'.getD 1 false = true := by
              simp [Region.binds] at hdeps ⊢
              simp [hdeps]
            have p1 : ac.tmps.getD 32 undef = .int .i64 (m : Int) := i4 1 _ 32 rfl rfl d1
            have d2 : l'.getD 2 false = true := by
              simp [Region.binds] at hdeps ⊢
              simp [hdeps]
            have p2 : ac.tmps.getD 33 undef = .int .i64 ea := i4 2 _ 33 rfl rfl d2
            have C := Lib.hid (D1.out Wc (HVA.out Wc hF.1))
            clear i1 i2 i3 i4 hdeps d0 d1 d2
            go_simp
            refine ⟨trivial, ?_⟩
            refine (CallsIn.inRound l (callsIn_wide.2 C.out)).mono ?_
            rintro e W' ⟨rfl, b4⟩
            exact hK _ _ trivial (hF.step (by decide) b4) (fun _ => rfl)
          | 4, ho =>
            obtain rfl := Option.some.inj ho
            have q : ac.tmps.getD 6 undef = .pointer (some ⟨w.heap.size + 1 + 1, 0, none⟩) := i3 6 (by decide +kernel)
            have cc := (bx3'.out Wc hF.1).2.2.1.cell 0
            clear i1 i2 i3 i4 hdeps
            go_simp
            exact hK _ _ trivial (hF.step (by decide) (Below.refl _ _)) (fun _ => rfl)
          | 5, ho =>
            obtain rfl := Option.some.inj ho
            have q : ac.tmps.getD 11 undef = .int .i64 (j : Int) := i3 11 (by decide +kernel)
            clear i1 i2 i3 i4 hdeps
            go_simp
            exact hK _ _ trivial (hF.step (by decide) (Below.refl _ _)) (fun _ => rfl)
          | 6, ho =>
            obtain rfl := Option.some.inj ho
            have q : ac.tmps.getD 7 undef = .pointer (some ⟨w.heap.size + 1 + 1 + 1, 0, none⟩) := i3 7 (by decide +kernel)
            have cc := (bx3'.out Wc hF.1).2.2.2.cell 0
            clear i1 i2 i3 i4 hdeps
            go_simp
            exact hK _ _ trivial (hF.step (by decide) (Below.refl _ _)) (fun _ => rfl)
          | 7, ho =>
            obtain rfl := Option.some.inj ho
            have d4 : l'.getD 4 false = true := by
              simp [Region.binds] at hdeps ⊢
              simp [hdeps]
            have p4 : ac.tmps.getD 35 undef = .slice ab b.length cb := i4 4 _ 35 rfl rfl d4
            have d5 : l'.getD 5 false = true := by
              simp [Region.binds] at hdeps ⊢
              simp [hdeps]
            have p5 : ac.tmps.getD 36 undef = .int .i64 (j : Int) := i4 5 _ 36 rfl rfl d5
            have d6 : l'.getD 6 false = true := by
              simp [Region.binds] at hdeps ⊢
              simp [hdeps]
            have p6 : ac.tmps.getD 37 undef = .int .i64 eb := i4 6 _ 37 rfl rfl d6
            have C := Lib.hid (D2.out Wc (HVB.out Wc hF.1))
            clear i1 i2 i3 i4 hdeps d4 d5 d6
            go_simp
            refine ⟨trivial, ?_⟩
            refine (CallsIn.inRound l (callsIn_wide.2 C.out)).mono ?_
            rintro e W' ⟨rfl, b4⟩
            exact hK _ _ trivial (hF.step (by decide) b4) (fun _ => rfl)
          | 8, ho =>
            obtain rfl := Option.some.inj ho
            have d3 : l'.getD 3 false = true := by
              simp [Region.binds] at hdeps ⊢
              simp [hdeps]
            have p3 : ac.tmps.getD 34 undef = .int .i64 e1 := i4 3 _ 34 rfl rfl d3
            have d7 : l'.getD 7 false = true := by
              simp [Region.binds] at hdeps ⊢
              simp [hdeps]
            have p7 : ac.tmps.getD 38 undef = .int .i64 e2 := i4 7 _ 38 rfl rfl d7
            clear i1 i2 i3 i4 hdeps d3 d7
            go_simp
            exact hK _ _ trivial (hF.step (by decide) (Below.refl _ _)) (fun _ => congrArg (Value.int .i64) (by split <;> omega))
          | 9, ho =>
            obtain rfl := Option.some.inj ho
            have d8 : l'.getD 8 false = true := by
              simp [Region.binds] at hdeps ⊢
              simp [hdeps]
            have p8 : ac.tmps.getD 39 undef = .int .i64 (min e1 e2) := i4 8 _ 39 rfl rfl d8
            have q : ac.tmps.getD 8 undef = .pointer (some ⟨w.heap.size + 1 + 1 + 1 + 1, 0, none⟩) := i3 8 (by decide +kernel)
            obtain ⟨u0, hu0⟩ := hF.2.1
            have cc := hu0.cell 0
            have ff := hu0.free 0
            clear i1 i2 i3 i4 hdeps d8
            go_simp
            exact hK undef _ trivial hF.done (fun _ => trivial)
          | n + 10, ho =>
            have hx := (Array.getElem?_eq_some_iff.1 ho).1
            have hx2 : n + 10 < 10 := hx
            omega
        · intro l ac Wc hI hall
          obtain ⟨i1, i2, i3, i4, hF⟩ := hI
          have hfin := hF.2.2 (hall 9 (by decide))
          have hg := hF.1
          clear i1 i2 i3 i4 hF hall
          gi_wp2_with fail
          exact HPO.out Wc hg (hfin.cell 0) _
    case done =>
      rintro D ys W hD rfl ⟨hne, hB⟩ hK
      have bRd := bR0.belowS hB
      have cR := bRd.cell 0
      have fR := bRd.free 0
      gi_wp2
      have hmt := HE1.out trivial trivial (fun x hx => hne x (List.mem_range.2 hx))
      subst hmt
      have hK' := (KeepsOthers.setCell W ⟨w.heap.size + 1 + 1 + 1 + 1, 0, none⟩ (.int .i64 0)).same D _ hK rfl
      have hBd : Below w.heap.size w W := bB0.trans (hB.mono bB0.size)
      refine ⟨by simp, .inl ⟨_, _, rfl, run_takeDeferred hK', ?_⟩⟩
      have hc5 := cell_kept (World.cell?_setCell_same' W ⟨w.heap.size + 1 + 1 + 1 + 1, 0, none⟩ (.int .i64 0) (by rw [cR]; rfl)) (grownBy_putObj' _ D (.deferred none)) (fun r e => by cases e; exact ⟨_, hK', rfl⟩)
      refine ⟨.int .i64 0, ?_, rfl, (hBd.setCell (p := ⟨w.heap.size + 1 + 1 + 1 + 1, 0, none⟩) (by simp; omega) _).trans (belowK_b (w := W0) bB0.size _ D _ _ hD hK' rfl rfl)⟩
      simp [results, Try.f9, go_sem, hc5]
    case stop =>
      rintro D c pre W hD ⟨k, hk, rfl⟩ ⟨⟨rfl, ini, last, j, e1, e2, e3, e4, e5⟩, hB⟩ hK
      gi_wp2
      obtain ⟨k', rfl⟩ : ∃ k', k = k' + 1 := by
        cases k with
        | zero => simp at e1
        | succ k' => exact ⟨k', rfl⟩
      rw [List.range_succ] at e1
      obtain ⟨rfl, e6⟩ := List.append_inj' e1 rfl
      obtain rfl : k' = last := by simpa using e6
      have hmt := HE2.out trivial trivial k' j (by omega) e3 e4 (fun y hy => e2 y (List.mem_range.2 hy))
      rw [← hmt] at e5
      refine ⟨by simp, .inl ⟨_, _, rfl, run_takeDeferred hK, ?_⟩⟩
      have hc5 := cell_kept e5 (grownBy_putObj' _ D (.deferred none)) (fun r e => by cases e; exact ⟨_, hK, rfl⟩)
      refine ⟨.int .i64 mt, ?_, rfl, hB.trans (belowK_b (w := W0) bB0.size W D _ _ hD hK rfl rfl)⟩
      simp [results, Try.f9, go_sem, hc5]
theorem impl_TermsMeet (v u : Value) (a b : List Trm) (ea eb : Int) (w : World) (h : Ts w v a) (g : Ts w u b) :
    Calls Try.prog 9 #[v, .int .i64 ea, u, .int .i64 eb] w fun e w' => e = .returned (.int .i64 (meetI a ea b eb)) ∧ Below w.heap.size w w' :=
  callsIn_wide.1 (TermsMeet_in v u a b ea eb w h g)
end Go.Proofs.Ytddemgdclilgpaa
