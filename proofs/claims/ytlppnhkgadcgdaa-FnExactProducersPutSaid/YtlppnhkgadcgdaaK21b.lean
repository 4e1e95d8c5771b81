/- Chapter 21: the exact law on a batch that producers take. -/
import Derived.Test.YtlppnhkgadcgdaaW21h
import Derived.Test.YtlppnhkgadcgdaaL12b
import Derived.Test.YtlppnhkgadcgdaaK5
import Derived.Test.YtlppnhkgadcgdaaL5d
namespace Go.Proofs.Ytlppnhkgadcgdaa
open Go.ChangeShapes Go.WideShapes Go.ChangeAt Go.RowKit
set_option linter.unusedVariables false

theorem OwnT.turnedT {w w' : World} {lo hi base : Nat} {v : Value} {ts : List Trm} (h : OwnT w base v ts) (ht : Turned w w' lo hi) (ho : ∀ b, v.ownBlock = some b → b < lo ∨ hi ≤ b) : OwnT w' base v ts := by
  have hlt := h.lt
  obtain ⟨xs, hr, hx⟩ := h
  refine ⟨xs, ⟨hr.1, ?_⟩, hx⟩
  rcases hr.2 with h0 | ⟨g, cap, cur, e, hg, hh, r⟩
  · exact .inl h0
  · have h1 := (hlt g (by rw [e]; rfl)).2
    exact .inr ⟨g, cap, cur, e, hg, (ht.2.2.2.2 g h1 (ho g (by rw [e]; rfl))).trans hh, r⟩
theorem OwnRecsT.row {w w' : World} {base hi : Nat} {v : Value} {rs : List Rec} {row : Option Nat} (h : OwnRecsT w base hi v rs) (hg : w.grownBy w' row) (hr : ∀ k, row = some k → k < base) : OwnRecsT w' base hi v rs := by
  obtain ⟨kv, vv, h1, h2, h3, h4⟩ := h
  have t : ∀ {u : Value}, (∀ k, u.ownBlock = some k → base ≤ k) → u.ownBlock = none ∨ u.ownBlock ≠ row := fun {u} hu => by
    cases e : u.ownBlock with
    | none => exact .inl rfl
    | some q => exact .inr fun e2 => by have := hu q e; have := hr q e2.symm; omega
  exact ⟨kv, vv, h1.kept hg (t fun k hk => (h1.lt k hk).1), fun i hi => ⟨(h2 i hi).1.grown hg (t fun k hk => (h2 i hi).1.lt k hk), (h2 i hi).2.grown hg (t fun k hk => (h2 i hi).2.lt k hk)⟩, h3, h4⟩
theorem own_apart {v u : Value} (h : ∀ k, v.ownBlock = some k → u.ownBlock = some k → False) : v.ownBlock = none ∨ v.ownBlock ≠ u.ownBlock := by
  cases e : v.ownBlock with
  | none => exact .inl rfl
  | some q => exact .inr fun e2 => h q e e2.symm
theorem putR_len (p : Trm) (ts : List Trm) (d : Bool) : (putR p ts d).length ≤ ts.length + 1 := by
  induction ts generalizing d with
  | nil =>
    unfold putR
    split <;> simp
  | cons t r ih =>
    unfold putR
    cases d with
    | true =>
      have : (putR p r true).length ≤ r.length := by rw [putR_done]; exact List.length_filter_le _ _
      rw [if_neg (by simp), Bool.true_or]
      simp only [List.length_append, List.length_nil, List.length_cons]
      split <;> simp <;> omega
    | false =>
      by_cases h : p.num ≤ t.num
      · have : (putR p r true).length ≤ r.length := by rw [putR_done]; exact List.length_filter_le _ _
        rw [if_pos ⟨rfl, h⟩, Bool.false_or, decide_eq_true h]
        simp only [List.length_append, List.length_nil, List.length_cons]
        split <;> simp <;> omega
      · have := ih false
        rw [if_neg (fun q => h q.2), Bool.false_or, decide_eq_false h]
        simp only [List.length_append, List.length_nil, List.length_cons]
        split <;> simp <;> omega
theorem putList_len (ts : List Trm) (b : Bat) (h : ts.length ≤ 1048576) : (putList ts b).length ≤ 1048577 := by
  have := putR_len (newT b) ts false
  unfold putList
  split
  · simp
  · split <;> omega
set_option maxHeartbeats 4000000 in
theorem law_FnExactProducersPut (w : World) (v : Value) (ts : List Trm) (h : Ts w v ts) (u : Value) (b : Bat) (g : BatV w u b) : Calls Try.prog 8 #[v, u] w (Yes w) := by
  have hv := h
  obtain ⟨al, cl, rfl, hll, hlm, hlc⟩ := h
  unfold maxLen at hlm
  clear hlc
  have hu := g
  obtain ⟨a, cap, rfl, hr, hl, hm⟩ := g.parts
  obtain ⟨packed, mark, prod, epoch, seq, recs⟩ := b
  simp only at hr hl hu ⊢
  clear g hr
  have bw := alloc_below' w (.cells #[.bool packed, .bool mark, .int .i64 prod, .int .i64 epoch, .int .i64 seq, .slice a recs.length cap] 25)
  have xA := Blk.made w #[.bool packed, .bool mark, .int .i64 prod, .int .i64 epoch, .int .i64 seq, .slice a recs.length cap] 25
  go_enter Try.func8, Try.ntmps8
  go_wp2_with fail
  generalize hwb : w.alloc (.cells #[.bool packed, .bool mark, .int .i64 prod, .int .i64 epoch, .int .i64 seq, .slice a recs.length cap] 25) = wb at bw xA ⊢
  clear hwb
  obtain ⟨A, hA⟩ : ∃ A, w.heap.size = A := ⟨_, rfl⟩
  rw [hA] at xA ⊢
  have HA := Lib.hid hA
  clear hA
  have C0 := Lib.hid (laws_szProducerS (.slice al ts.length cl) ts 1048576 wb (hv.below bw) (by omega) (by omega))
  unfold SzResT at C0
  by_cases hlen : (1048576 : Int) - (ts.length : Int) < 0
  · rw [if_pos hlen] at C0
    have H0 := Lib.hid hlen
    clear hlen
    refine C0.out.mono ?_
    rintro e w1 ⟨rfl, rfl⟩
    go_wp2_with fail
    go_ret
    exact ⟨rfl, bw⟩
  rw [if_neg hlen] at C0
  have D0 := Lib.hid (laws_szBatch _ ⟨packed, mark, prod, epoch, seq, recs⟩ (1048576 - (ts.length : Int)) wb (hu.below bw) (by omega) (by omega))
  have dl : decide ((1048576 : Int) - (ts.length : Int) < 0) = false := decide_eq_false hlen
  have hts : ts.length ≤ 1048576 := by omega
  have HL := Lib.hid hlen
  clear hlen
  refine C0.out.mono ?_
  rintro e w1 ⟨rfl, rfl⟩
  obtain ⟨c0, c1, c2, c3, c4, c5⟩ := xA.sixC
  go_wp2_with fail
  (with_reducible refine D0.out.mono ?_)
  rintro e w1 ⟨⟨n, rfl, hn⟩, b1⟩
  have B1 := Bstep bw b1
  have x1 := xA.belowS b1
  clear c0 c1 c2 c3 c4 c5 xA bw b1 C0 D0
  rcases hn with ⟨rfl, hn⟩ | ⟨n0, hn⟩
  · clear hn
    go_wp2_with fail
    go_ret
    exact ⟨rfl, B1⟩
  have d0 : decide (n < 0) = false := decide_eq_false (by omega)
  have hsz : recs.length + szL recs ≤ 100000000 := by have := HL.out; omega
  clear hn HL
  have C3 : Hid (∀ W, Below w.heap.size w W → Calls Try.prog 18 #[.slice al ts.length cl] W (CopyT W ts)) := Lib.hid fun W hW => laws_toProducerS _ ts W (hv.below hW) (by omega)
  have D3 : Hid (∀ W, Below w.heap.size w W → Calls Try.prog 19 #[.agg #[.bool packed, .bool mark, .int .i64 prod, .int .i64 epoch, .int .i64 seq, .slice a recs.length cap]] W (BatCopy W ⟨packed, mark, prod, epoch, seq, recs⟩)) := Lib.hid fun W hW => laws_toBatch _ ⟨packed, mark, prod, epoch, seq, recs⟩ W (hu.below hW) hsz
  have C6 : Hid (∀ W u v ss, Ts W u ss → Ts W v ss → Calls Try.prog 21 #[u, v] W (Same W true)) := Lib.hid fun W u v ss hu hv => laws_eqProducerS u v ss W hu hv
  have D6 : Hid (∀ W u v, BatV W u ⟨packed, mark, prod, epoch, seq, recs⟩ → BatV W v ⟨packed, mark, prod, epoch, seq, recs⟩ → Calls Try.prog 22 #[u, v] W (Same W true)) := Lib.hid fun W u v hu hv => laws_eqBatch u v _ W hu hv
  clear n0
  have C1 : Hid (∀ W u v, Ts W u ts → BatV W v ⟨packed, mark, prod, epoch, seq, recs⟩ → Calls Try.prog 26 #[u, v] W (PutRes W (putList ts ⟨packed, mark, prod, epoch, seq, recs⟩) (putCode ts ⟨packed, mark, prod, epoch, seq, recs⟩))) := Lib.hid fun W u v hu hv => spec_ProducersPut u v ts _ W hu hv
  have C2 : Hid (∀ W u v, Ts W u ts → BatV W v ⟨packed, mark, prod, epoch, seq, recs⟩ → Calls Try.prog 27 #[u, v] W (PutRes W (putList ts ⟨packed, mark, prod, epoch, seq, recs⟩) (putCode ts ⟨packed, mark, prod, epoch, seq, recs⟩))) := Lib.hid fun W u v hu hv => impl_ProducersPut u v ts _ W hu hv
  have hLl : (putList ts ⟨packed, mark, prod, epoch, seq, recs⟩).length ≤ 1048577 := putList_len ts _ (by omega)
  obtain ⟨N, hN⟩ : ∃ N, putCode ts ⟨packed, mark, prod, epoch, seq, recs⟩ = N := ⟨_, rfl⟩
  obtain ⟨Ls, hLs⟩ : ∃ Ls, putList ts ⟨packed, mark, prod, epoch, seq, recs⟩ = Ls := ⟨_, rfl⟩
  rw [hN, hLs] at C1 C2
  rw [hLs] at hLl
  clear hN hLs
  have hNN : (N != N) = false := by simp
  have hq : (1 + 3 * (Ls.length : Int) != 1 + 3 * (Ls.length : Int)) = false := by simp
  have hq0 : decide (1 + 3 * (Ls.length : Int) < 0) = false := decide_eq_false (by omega)
  go_upto_region 8 with (fail)
  have HS : Hid (∀ W, Below w1.heap.size w1 W → W.cell? ⟨A, 0, none⟩ = some (.bool packed) ∧ W.cell? ⟨A, 1, none⟩ = some (.bool mark) ∧ W.cell? ⟨A, 2, none⟩ = some (.int .i64 prod) ∧ W.cell? ⟨A, 3, none⟩ = some (.int .i64 epoch) ∧ W.cell? ⟨A, 4, none⟩ = some (.int .i64 seq) ∧ W.cell? ⟨A, 5, none⟩ = some (.slice a recs.length cap)) := Lib.hid fun W hW => (x1.belowS hW).sixC
  have bdr : Below w1.heap.size w1 w1.drew := below_drewN (Below.refl _ _) 1
  have S1 := HS.out _ bdr
  have E0 := Bstep B1 bdr
  go_region_held3 (fun W => W.cell? ⟨A, 0, none⟩ = some (.bool packed) ∧ W.cell? ⟨A, 1, none⟩ = some (.bool mark) ∧ W.cell? ⟨A, 2, none⟩ = some (.int .i64 prod) ∧ W.cell? ⟨A, 3, none⟩ = some (.int .i64 epoch) ∧ W.cell? ⟨A, 4, none⟩ = some (.int .i64 seq) ∧ W.cell? ⟨A, 5, none⟩ = some (.slice a recs.length cap))
    (first | with_reducible exact S1 | exact HS.out _ (Bstep (Bstep (Bstep bdr b7) b8) b9) | exact HS.out _ (Bstep (Bstep bdr b7) b8) | exact HS.out _ (Bstep bdr b7) | go_keep)
    (first | (go_at_call 18; ((with_reducible refine (C3.out _ E0).mono ?_); rintro e w7 ⟨v7, rfl, own7, b7⟩))
           | (go_at_call 19; ((with_reducible refine (D3.out _ (Bstep E0 b7)).mono ?_); rintro e w8 ⟨v8, rfl, own8, b8⟩))
           | (go_at_call 26; ((with_reducible refine (C1.out _ _ _ (own7.below b8).ts own8.batV).mono ?_); rintro e w9 ⟨v0, rfl, oW9, b9⟩)))
  have B9 := Bstep (Bstep (Bstep bdr b7) b8) b9
  have B2 := B1.trans (B9.mono B1.size)
  have x2 := x1.belowS B9
  have hA9 : A < w9.heap.size := x2.lt
  have hw9 : w.heap.size ≤ w9.heap.size := B2.size
  have q0 : ∀ k, v0.ownBlock = some k → k < w9.heap.size := fun k hk => (oW9.lt k hk).2
  obtain ⟨base0, oW9⟩ : ∃ base0, OwnT w9 base0 v0 Ls := ⟨_, oW9⟩
  clear x1 B1 HS S1 E0 bdr own7 b7 own8 b8 b9 B9 C1
  obtain ⟨c0, c1, c2, c3, c4, c5⟩ := x2.sixC
  go_wp2_with fail
  (with_reducible refine (C3.out w9 B2).mono ?_)
  rintro e w3 ⟨v3, rfl, own3, b3⟩
  have B3 := Bstep B2 b3
  have x3 := x2.belowS b3
  have oW3 := oW9.below b3
  have q3 : ∀ k, v3.ownBlock = some k → w9.heap.size ≤ k ∧ k < w3.heap.size := own3.lt
  have hs93 : w9.heap.size ≤ w3.heap.size := b3.size
  clear c0 c1 c2 c3 c4 c5 x2 oW9
  obtain ⟨c0, c1, c2, c3, c4, c5⟩ := x3.sixC
  go_wp2_with fail
  (with_reducible refine (D3.out w3 B3).mono ?_)
  rintro e w4 ⟨v4, rfl, own4, b4⟩
  have B4 := Bstep B3 b4
  have x4 := x3.belowS b4
  have own34 := own3.below b4
  have oW4 := oW3.below b4
  have hs34 : w3.heap.size ≤ w4.heap.size := b4.size
  obtain ⟨r4, rfl, o4⟩ := own4
  simp only at o4
  obtain ⟨a5, cap5, rfl⟩ := o4.form
  have o4 := o4.top
  clear c0 c1 c2 c3 c4 c5 x3 B3 b3 b4 own3 oW3
  have bx := alloc_below' w4 (.cells #[.bool packed, .bool mark, .int .i64 prod, .int .i64 epoch, .int .i64 seq, .slice a5 recs.length cap5] 33)
  have xx := Blk.made w4 #[.bool packed, .bool mark, .int .i64 prod, .int .i64 epoch, .int .i64 seq, .slice a5 recs.length cap5] 33
  go_wp2_with fail
  generalize hw5 : w4.alloc (.cells #[.bool packed, .bool mark, .int .i64 prod, .int .i64 epoch, .int .i64 seq, .slice a5 recs.length cap5] 33) = w5 at bx xx ⊢
  obtain ⟨X, hX⟩ : ∃ X, w4.heap.size = X := ⟨_, rfl⟩
  have x5 := x4.belowS bx
  have B5 := Bstep B4 bx
  have o5 := o4.below bx
  have own35 := own34.below bx
  have oW5 := oW4.below bx
  rw [hX] at xx o5 hs34 ⊢
  have hX5 : X < w5.heap.size := xx.lt
  clear hw5 x4 B4 bx o4 hX own34 oW4
  have hx5 : BatV w5 (.agg #[.bool packed, .bool mark, .int .i64 prod, .int .i64 epoch, .int .i64 seq, .slice a5 recs.length cap5]) ⟨packed, mark, prod, epoch, seq, recs⟩ := ⟨_, rfl, o5.recs⟩
  (with_reducible refine (C2.out w5 _ _ own35.ts hx5).mono ?_)
  rintro e w6 ⟨v1, rfl, oG6, b6⟩
  have q1 : ∀ k, v1.ownBlock = some k → X < k := fun k hk => Nat.lt_of_lt_of_le hX5 (oG6.lt k hk).1
  have hs56 : w5.heap.size ≤ w6.heap.size := b6.size
  have B6 := Bstep B5 b6
  have x6 := x5.belowS b6
  have xx6 := xx.belowS b6
  have o6 := o5.below b6
  have own36 := own35.below b6
  have oW6 := oW5.below b6
  obtain ⟨base1, hb1, oG6⟩ : ∃ base1, w.heap.size ≤ base1 ∧ OwnT w6 base1 v1 Ls := ⟨_, B5.size, oG6⟩
  clear x5 B5 b6 xx o5 hx5 own35 oW5
  go_wp2_with fail
  (with_reducible refine (C6.out w6 _ _ _ oG6.ts oW6.ts).mono ?_)
  rintro e w7 ⟨rfl, b7⟩
  have B7 := Bstep B6 b7
  have x7 := x6.belowS b7
  have xx7 := xx6.belowS b7
  have o7 := o6.below b7
  have own37 := own36.below b7
  have oW7 := oW6.below b7
  have oG7 := oG6.below b7
  clear x6 xx6 o6 own36 b7 B6 oW6 oG6
  go_wp2_with fail
  (with_reducible refine (C3.out w7 B7).mono ?_)
  rintro e w7b ⟨v7, rfl, own7, b7⟩
  go_wp2_with fail
  (with_reducible refine (C6.out w7b _ _ _ (own37.below b7).ts own7.ts).mono ?_)
  rintro e w8 ⟨rfl, b8⟩
  have b78 := Bstep b7 b8
  have B8 := Bstep B7 b78
  have x8 := x7.belowS b78
  have xx8 := xx7.belowS b78
  have o8 := o7.below b78
  have own38 := own37.below b78
  have oW8 := oW7.below b78
  have oG8 := oG7.below b78
  clear x7 xx7 o7 own37 own7 b7 b8 b78 B7 oW7 oG7
  have HS : Hid (∀ W, Below w8.heap.size w8 W → TwoBats W A X (.bool packed) (.bool mark) (.int .i64 prod) (.int .i64 epoch) (.int .i64 seq) (.slice a recs.length cap) (.slice a5 recs.length cap5)) := Lib.hid fun W hW => two_bats (x8.belowS hW) (xx8.belowS hW)
  have bdr : Below w8.heap.size w8 w8.drew := below_drewN (Below.refl _ _) 1
  have S6 := HS.out w8.drew bdr
  have E3 := Lib.hid (D3.out w8.drew (Bstep B8 bdr))
  have E4 : Hid (∀ W u, Below w8.heap.size w8 W → BatV W u ⟨packed, mark, prod, epoch, seq, recs⟩ → Calls Try.prog 22 #[.agg #[.bool packed, .bool mark, .int .i64 prod, .int .i64 epoch, .int .i64 seq, .slice a5 recs.length cap5], u] W (Same W true)) := Lib.hid fun W u hW hu => D6.out W _ u ⟨_, rfl, (o8.below hW).recs⟩ hu
  go_upto_region 16 with (fail)
  unfold TwoBats at S6
  go_region_held3 (fun W => W.cell? ⟨A, 0, none⟩ = some (.bool packed) ∧ W.cell? ⟨A, 1, none⟩ = some (.bool mark) ∧ W.cell? ⟨A, 2, none⟩ = some (.int .i64 prod) ∧ W.cell? ⟨A, 3, none⟩ = some (.int .i64 epoch) ∧ W.cell? ⟨A, 4, none⟩ = some (.int .i64 seq) ∧ W.cell? ⟨A, 5, none⟩ = some (.slice a recs.length cap) ∧ W.cell? ⟨X, 0, none⟩ = some (.bool packed) ∧ W.cell? ⟨X, 1, none⟩ = some (.bool mark) ∧ W.cell? ⟨X, 2, none⟩ = some (.int .i64 prod) ∧ W.cell? ⟨X, 3, none⟩ = some (.int .i64 epoch) ∧ W.cell? ⟨X, 4, none⟩ = some (.int .i64 seq) ∧ W.cell? ⟨X, 5, none⟩ = some (.slice a5 recs.length cap5)) (first | with_reducible exact S6 | exact HS.out _ (Bstep bdr b7) | exact HS.out _ (Bstep (Bstep bdr b7) b9) | go_keep)
    (first
      | (go_at_call 19; ((with_reducible refine E3.out.mono ?_); rintro e w7 ⟨v7, rfl, own7, b7⟩))
      | (go_at_call 22; ((with_reducible refine (E4.out _ _ (Bstep bdr b7) own7.batV).mono ?_); rintro e w10 ⟨rfl, b9⟩)))
  have b810 := Bstep (Bstep bdr b7) b9
  have B10 := Bstep B8 b810
  have x10 := x8.belowS b810
  have xx10 := xx8.belowS b810
  have o10 := o8.below b810
  have own310 := own38.below b810
  have oW10 := oW8.below b810
  have oG10 := oG8.below b810
  clear HS S6 E3 E4 bdr own7 b7 b9 b810 x8 xx8 o8 own38 oW8 oG8 B8
  have hs10 : X < w10.heap.size := xx10.lt
  go_wp2_with fail
  (with_reducible refine (laws_markProducerS v3 _ ts 1 w10 own310 (by omega) (by omega) (by omega)).mono ?_)
  rintro e w11 ⟨rfl, mk11, g11⟩
  have B11 := below_row B10 own310 hw9 g11
  have x11 := x10.grown (fun e => by have := q3 _ e; omega) g11
  have xx11 := xx10.grown (fun e => by have := q3 _ e; omega) g11
  have o11 := o10.row g11 fun k hk => (q3 k hk).2
  have oW11 := oW10.grown g11 (own_apart fun k h0 h3 => by have := q0 k h0; have := q3 k h3; omega)
  have oG11 := oG10.grown g11 (own_apart fun k h0 h3 => by have := q1 k h0; have := q3 k h3; omega)
  have hs11 : X < w11.heap.size := xx11.lt
  clear x10 xx10 o10 own310 oW10 oG10 g11 mk11 B10
  obtain ⟨c0, c1, c2, c3, c4, c5⟩ := xx11.sixC
  go_wp2_with fail
  (with_reducible refine (laws_markBatch packed mark prod epoch seq _ _ _ recs _ w11 o11 (by omega) (by omega) (by omega)).mono ?_)
  rintro e w12 ⟨n2, rfl, n20, n21, T12⟩
  have B12 : Below w.heap.size w w12 := B11.trans (T12.belowLo (by omega) (by omega))
  have x12 := x11.turned T12 (.inl (by omega))
  have oW12 := oW11.turnedT T12 fun k hk => .inl (by have := q0 k hk; omega)
  have oG12 := oG11.turnedT T12 fun k hk => .inr (by have := q1 k hk; omega)
  have dn2 : decide (n2 < 0) = false := decide_eq_false (by omega)
  clear c0 c1 c2 c3 c4 c5 x11 xx11 o11 oW11 oG11 B11 n21
  go_wp2_with fail
  (with_reducible refine (C6.out w12 _ _ _ oG12.ts oW12.ts).mono ?_)
  rintro e w13 ⟨rfl, b13⟩
  have B13 := Bstep B12 b13
  have x13 := x12.belowS b13
  have oW13 := oW12.below b13
  have oG13 := oG12.below b13
  clear x12 oW12 oG12 b13 B12 T12
  go_wp2_with fail
  (with_reducible refine (laws_markProducerS v1 _ Ls 1 w13 oG13 (by omega) (by omega) (by omega)).mono ?_)
  rintro e w14 ⟨rfl, mk14, g14⟩
  have B14 := below_row B13 oG13 hb1 g14
  have x14 := x13.grown (fun e => by have := q1 _ e; omega) g14
  have oW14 := oW13.grown g14 (own_apart fun k h0 h3 => by have := q0 k h0; have := q1 k h3; omega)
  clear x13 oW13 oG13 g14 B13
  go_wp2_with fail
  (with_reducible refine (laws_heldProducerS v1 1 Ls.length w14 mk14.ts (by omega) (by omega) (by omega)).mono ?_)
  rintro e w14b ⟨rfl, rfl⟩
  go_upto_region 31 with (fail)
  have HS : Hid (∀ W, Below w14.heap.size w14 W → W.cell? ⟨A, 0, none⟩ = some (.bool packed) ∧ W.cell? ⟨A, 1, none⟩ = some (.bool mark) ∧ W.cell? ⟨A, 2, none⟩ = some (.int .i64 prod) ∧ W.cell? ⟨A, 3, none⟩ = some (.int .i64 epoch) ∧ W.cell? ⟨A, 4, none⟩ = some (.int .i64 seq) ∧ W.cell? ⟨A, 5, none⟩ = some (.slice a recs.length cap)) := Lib.hid fun W hW => (x14.belowS hW).sixC
  have bdr : Below w14.heap.size w14 w14.drew := below_drewN (Below.refl _ _) 1
  have S1 := HS.out _ bdr
  have E0 := Bstep B14 bdr
  go_region_held3 (fun W => W.cell? ⟨A, 0, none⟩ = some (.bool packed) ∧ W.cell? ⟨A, 1, none⟩ = some (.bool mark) ∧ W.cell? ⟨A, 2, none⟩ = some (.int .i64 prod) ∧ W.cell? ⟨A, 3, none⟩ = some (.int .i64 epoch) ∧ W.cell? ⟨A, 4, none⟩ = some (.int .i64 seq) ∧ W.cell? ⟨A, 5, none⟩ = some (.slice a recs.length cap))
    (first | with_reducible exact S1 | exact HS.out _ (Bstep (Bstep (Bstep bdr b7) b8) b9) | exact HS.out _ (Bstep (Bstep bdr b7) b8) | exact HS.out _ (Bstep bdr b7) | go_keep)
    (first | (go_at_call 18; ((with_reducible refine (C3.out _ E0).mono ?_); rintro e w7 ⟨v7, rfl, own7, b7⟩))
           | (go_at_call 19; ((with_reducible refine (D3.out _ (Bstep E0 b7)).mono ?_); rintro e w8 ⟨v8, rfl, own8, b8⟩))
           | (go_at_call 27; ((with_reducible refine (C2.out _ _ _ (own7.below b8).ts own8.batV).mono ?_); rintro e w15 ⟨vh, rfl, oH, b9⟩)))
  have b15 := Bstep (Bstep (Bstep bdr b7) b8) b9
  have B15 := Bstep B14 b15
  have oW15 := oW14.below b15
  have mk15 := mk14.below b15
  clear HS S1 E0 bdr own7 b7 own8 b8 b9 b15 x14 oW14 mk14 B14
  go_wp2_with fail
  (with_reducible refine (C6.out w15 _ _ _ oH.ts oW15.ts).mono ?_)
  rintro e w16 ⟨rfl, b16⟩
  have B16 := Bstep B15 b16
  have mk16 := mk15.below b16
  go_wp2_with fail
  (with_reducible refine (laws_heldProducerS v1 1 Ls.length w16 mk16.ts (by omega) (by omega) (by omega)).mono ?_)
  rintro e w17 ⟨rfl, rfl⟩
  go_wp2_with fail
  go_ret
  exact ⟨rfl, B16⟩
end Go.Proofs.Ytlppnhkgadcgdaa
