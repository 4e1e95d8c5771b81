/- Chapter 21: the exact law on batches that are taken one after the other. -/
import Derived.Test.YtfapeppocfodpaaW21r
import Derived.Test.YtfapeppocfodpaaL12b
import Derived.Test.YtfapeppocfodpaaKL
import Derived.Test.YtfapeppocfodpaaLLX
namespace Go.Proofs.Ytfapeppocfodpaa
open Go.ChangeShapes Go.WideShapes Go.ChangeAt Go.RowKit
set_option linter.unusedVariables false

theorem OwnT.turnedT {w w' : World} {lo hi base : Nat} {v : Value} {ts : List Trm} (h : OwnT w base v ts) (ht : Turned w w' lo hi) (ho : ∀ b, v.ownBlock = some b → b < lo ∨ hi ≤ b) : OwnT w' base v ts := by
  have hlt := h.lt
  obtain ⟨xs, hr, hx⟩ := h
  refine ⟨xs, ⟨hr.1, ?_⟩, hx⟩
  rcases hr.2 with h0 | ⟨g, cap, cur, e, hg, hh, r⟩
  · exact .inl h0
  · have h1 := (hlt g (by rw [e]; rfl)).2
    exact .inr ⟨g, cap, cur, e, hg, (ht.2.2.2.2 g h1 (ho g (by rw [e]; rfl))).trans hh, r⟩
theorem own_apart {v u : Value} (h : ∀ k, v.ownBlock = some k → u.ownBlock = some k → False) : v.ownBlock = none ∨ v.ownBlock ≠ u.ownBlock := by
  cases e : v.ownBlock with
  | none => exact .inl rfl
  | some q => exact .inr fun e2 => h q e e2.symm
theorem apart_swap {v u : Value} (h : v.ownBlock = none ∨ v.ownBlock ≠ u.ownBlock) : ∀ k, v.ownBlock = some k → u.ownBlock = some k → False := fun k hk hu => by
  rcases h with h | h
  · rw [h] at hk; cases hk
  · exact h (hk.trans hu.symm)
set_option maxHeartbeats 4000000 in
theorem law_FnExactProducersRun (w : World) (v : Value) (bs : List Bat) (h : Bats w v bs) : Calls Try.prog 3 #[v] w (Yes w) := by
  have hv := h
  obtain ⟨a, cap, rfl, hl, hm, hc⟩ := h
  unfold maxLen at hm
  clear hc
  have C0 := Lib.hid (laws_szBatchS (.slice a bs.length cap) bs 1048576 w hv (by omega) (by omega))
  go_enter Try.func3, Try.ntmps3
  go_wp2_with fail
  (with_reducible refine C0.out.mono ?_)
  rintro e w1 ⟨⟨n, rfl, hn⟩, B1⟩
  clear C0
  rcases hn with ⟨rfl, hn⟩ | ⟨n0, hn⟩
  · clear hn
    go_wp2_with fail
    go_ret
    exact ⟨rfl, B1⟩
  have d0 : decide (n < 0) = false := decide_eq_false (by omega)
  have hsz : bs.length + szB bs ≤ 100000000 := by omega
  have hbl : bs.length ≤ 100000000 := by omega
  have C3 : Hid (∀ W, Below w.heap.size w W → Calls Try.prog 10 #[.slice a bs.length cap] W (BatsCopy W bs)) := Lib.hid fun W hW => laws_toBatchS _ bs W (hv.below hW) hsz
  have C1 : Hid (∀ W u, Bats W u bs → Calls Try.prog 9 #[u] W (RunRes W (runOut bs []) (runCodes bs []))) := Lib.hid fun W u hu => spec_ProducersRun u bs W hu (by omega)
  have C2 : Hid (∀ W u, Bats W u bs → Calls Try.prog 11 #[u] W (RunRes W (runOut bs []) (runCodes bs []))) := Lib.hid fun W u hu => impl_ProducersRun u bs W hu (by omega)
  have C4 : Hid (∀ W u v, Bats W u bs → Bats W v bs → Calls Try.prog 14 #[u, v] W (Same W true)) := Lib.hid fun W u v hu hv => laws_eqBatchS u v bs W hu hv
  have C6 : Hid (∀ W u v ss, Ts W u ss → Ts W v ss → Calls Try.prog 12 #[u, v] W (Same W true)) := Lib.hid fun W u v ss hu hv => laws_eqProducerS u v ss W hu hv
  have hlen := runCodes_len bs []
  have htl := (tsOk_iff.1 (runOut_ok bs tsOk_nil)).1
  obtain ⟨ts, hts⟩ : ∃ ts, runOut bs [] = ts := ⟨_, rfl⟩
  obtain ⟨xs, hxs⟩ : ∃ xs, runCodes bs [] = xs := ⟨_, rfl⟩
  rw [hts, hxs] at C1 C2
  rw [hxs] at hlen
  rw [hts] at htl
  have C5 : Hid (∀ wn u v, Ints wn u xs → Ints wn v xs → Calls Try.prog 13 #[u, v] wn (Same wn (xs == xs))) := fun wn u v hu hv => laws_eqIntS u v xs xs wn hu hv
  rw [beq_self] at C5
  have hxl : xs.length ≤ 100000000 := by omega
  have hq : (1 + 3 * (ts.length : Int) + (xs.length : Int) != 1 + 3 * (ts.length : Int) + (xs.length : Int)) = false := by simp
  have hq1 : decide (1 + 3 * (ts.length : Int) < 0) = false := decide_eq_false (by omega)
  have hq2 : decide (1 + 3 * (ts.length : Int) + (xs.length : Int) < 0) = false := decide_eq_false (by omega)
  have HSZ := Lib.hid hsz
  clear hts hxs hn n0 hsz hv hlen
  go_wp2_with fail
  (with_reducible refine (C3.out w1 B1).mono ?_)
  rintro e w2 ⟨v2, rfl, own2, b2⟩
  have B2 := Bstep B1 b2
  go_wp2_with fail
  (with_reducible refine (C1.out w2 v2 own2.bats).mono ?_)
  rintro e w3 ⟨v0, u0, rfl, oW3, oU3, -, b3⟩
  have B3 := Bstep B2 b3
  have q0 : ∀ k, v0.ownBlock = some k → k < w3.heap.size := fun k hk => (oW3.lt k hk).2
  have q0' := oU3.lt2
  obtain ⟨base0, oW3, oU3⟩ : ∃ base0, OwnT w3 base0 v0 ts ∧ Own w3 base0 u0 xs := ⟨_, oW3, oU3⟩
  clear own2 b2 b3 B2 B1
  go_wp2_with fail
  (with_reducible refine (C3.out w3 B3).mono ?_)
  rintro e w4 ⟨v4, rfl, own4, b4⟩
  have B4 := Bstep B3 b4
  have T4 := own4.top
  have i4 := own4.bats
  have oW4 := oW3.below b4
  have oU4 := oU3.below b4
  have hw3 : w.heap.size ≤ w3.heap.size := B3.size
  have hs34 : w3.heap.size ≤ w4.heap.size := b4.size
  clear own4 oW3 oU3 b4 B3
  go_wp2_with fail
  (with_reducible refine (C2.out w4 v4 i4).mono ?_)
  rintro e w5 ⟨v1, u1, rfl, oG5, oH5, apG, b5⟩
  have q1 : ∀ k, v1.ownBlock = some k → w4.heap.size ≤ k := fun k hk => (oG5.lt k hk).1
  have q1' := oH5.lt
  have apK := apart_swap apG
  have B5 := Bstep B4 b5
  have T5 := T4.below b5
  have i5 := i4.below b5
  have oW5 := oW4.below b5
  have oU5 := oU4.below b5
  have hw4 : w.heap.size ≤ w4.heap.size := B4.size
  have hs45 : w4.heap.size ≤ w5.heap.size := b5.size
  clear i4 b5 B4 T4 oW4 oU4 apG
  go_wp2_with fail
  (with_reducible refine (C6.out w5 v1 v0 ts oG5.ts oW5.ts).mono ?_)
  rintro e w6 ⟨rfl, b6⟩
  go_wp2_with fail
  (with_reducible refine (C5.out w6 u1 u0 (oH5.below b6).ints (oU5.below b6).ints).mono ?_)
  rintro e w6b ⟨rfl, b6b⟩
  have b56 := Bstep b6 b6b
  have B6 := Bstep B5 b56
  have T6 := T5.below b56
  have i6 := i5.below b56
  have oW6 := oW5.below b56
  have oU6 := oU5.below b56
  have oG6 := oG5.below b56
  have oH6 := oH5.below b56
  have hs48 : w4.heap.size ≤ w6b.heap.size := Nat.le_trans hs45 b56.size
  clear i5 b6 b6b b56 B5 T5 oW5 oU5 oG5 oH5
  go_wp2_with fail
  (with_reducible refine (C3.out w6b B6).mono ?_)
  rintro e w7 ⟨v7, rfl, own7, b7⟩
  go_wp2_with fail
  (with_reducible refine (C4.out w7 v4 v7 (i6.below b7) own7.bats).mono ?_)
  rintro e w8 ⟨rfl, b8⟩
  have b68 := Bstep b7 b8
  have B8 := Bstep B6 b68
  have T8 := T6.below b68
  have oW8 := oW6.below b68
  have oU8 := oU6.below b68
  have oG8 := oG6.below b68
  have oH8 := oH6.below b68
  have hs38 : w4.heap.size ≤ w8.heap.size := Nat.le_trans hs48 b68.size
  clear i6 b7 b8 b68 B6 T6 oW6 oU6 oG6 oH6 own7
  go_wp2_with fail
  refine (laws_markBatchS _ w3.heap.size w4.heap.size bs 1 w8 T8 (by omega) (by omega) HSZ.out).mono ?_
  rintro e w9 ⟨n1, rfl, hn1, _, tt⟩
  have dn1 : decide (n1 < 0) = false := decide_eq_false (by omega)
  have oW9 := oW8.turnedT tt (fun b hb => .inl (q0 b hb))
  have oU9 := oU8.turned tt (fun b hb => .inl (q0' b hb))
  have oG9 := oG8.turnedT tt (fun b hb => .inr (q1 b hb))
  have oH9 := oH8.turned tt (fun b hb => .inr (q1' b hb))
  have B9 : Below w.heap.size w w9 := B8.trans (tt.belowLo hw3 (by omega))
  clear oW8 oU8 oG8 oH8 B8 T8 tt hn1
  go_wp2_with fail
  (with_reducible refine (C6.out w9 v1 v0 ts oG9.ts oW9.ts).mono ?_)
  rintro e w10 ⟨rfl, b10⟩
  go_wp2_with fail
  (with_reducible refine (C5.out w10 u1 u0 (oH9.below b10).ints (oU9.below b10).ints).mono ?_)
  rintro e w10b ⟨rfl, b10b⟩
  have b910 := Bstep b10 b10b
  have B10 := Bstep B9 b910
  have oW10 := oW9.below b910
  have oU10 := oU9.below b910
  have oG10 := oG9.below b910
  have oH10 := oH9.below b910
  clear oW9 oU9 oG9 oH9 B9 b10 b10b b910
  go_wp2_with fail
  (with_reducible refine (laws_markProducerS v1 _ ts 1 w10b oG10 (by omega) (by omega) (by omega)).mono ?_)
  rintro e w11 ⟨rfl, mk11, g11⟩
  have B11 := below_row B10 oG10 hw4 g11
  have oW11 := oW10.grown g11 (own_apart fun k h0 h3 => by have := q0 k h0; have := q1 k h3; omega)
  have oU11 := oU10.grown g11 (own_apart fun k h0 h3 => by have := q0' k h0; have := q1 k h3; omega)
  have oH11 := oH10.grown g11 (own_apart fun k h0 h3 => apK k h3 h0)
  clear oW10 oU10 oG10 oH10 B10 g11
  go_wp2_with fail
  (with_reducible refine (laws_markIntS u1 _ xs (1 + 3 * (ts.length : Int)) w11 oH11 (by omega) (by omega) (by omega)).mono ?_)
  rintro e w12 ⟨rfl, mi12, g12⟩
  have B12 : Below w.heap.size w w12 := B11.grown g12 B11.size fun k hk => by have := q1' k hk; omega
  have oW12 := oW11.grown g12 (own_apart fun k h0 h3 => by have := q0 k h0; have := q1' k h3; omega)
  have oU12 := oU11.grown g12 (own_apart fun k h0 h3 => by have := q0' k h0; have := q1' k h3; omega)
  have mk12 := mk11.grown g12 (own_apart fun k h0 h3 => apK k h0 h3)
  clear oW11 oU11 oH11 mk11 B11 g12
  go_wp2_with fail
  (with_reducible refine (laws_heldProducerS v1 1 ts.length w12 mk12.ts (by omega) (by omega) (by omega)).mono ?_)
  rintro e w13 ⟨rfl, rfl⟩
  go_wp2_with fail
  (with_reducible refine (laws_heldIntS u1 (1 + 3 * (ts.length : Int)) xs.length w12 mi12.ints (by omega) (by omega) (by omega)).mono ?_)
  rintro e w13 ⟨rfl, rfl⟩
  go_wp2_with fail
  (with_reducible refine (C3.out w12 B12).mono ?_)
  rintro e w14 ⟨v14, rfl, own14, b14⟩
  go_wp2_with fail
  (with_reducible refine (C2.out w14 v14 own14.bats).mono ?_)
  rintro e w15 ⟨vh, uh, rfl, oI15, oJ15, -, b15⟩
  have b125 := Bstep b14 b15
  have B15 := Bstep B12 b125
  have oW15 := oW12.below b125
  have oU15 := oU12.below b125
  have mk15 := mk12.below b125
  have mi15 := mi12.below b125
  clear own14 b14 b15 b125 oW12 oU12 mk12 mi12 B12
  go_wp2_with fail
  (with_reducible refine (C6.out w15 vh v0 ts oI15.ts oW15.ts).mono ?_)
  rintro e w16 ⟨rfl, b16⟩
  go_wp2_with fail
  (with_reducible refine (C5.out w16 uh u0 (oJ15.below b16).ints (oU15.below b16).ints).mono ?_)
  rintro e w17 ⟨rfl, b17⟩
  have b157 := Bstep b16 b17
  have B17 := Bstep B15 b157
  have mk17 := mk15.below b157
  have mi17 := mi15.below b157
  go_wp2_with fail
  (with_reducible refine (laws_heldProducerS v1 1 ts.length w17 mk17.ts (by omega) (by omega) (by omega)).mono ?_)
  rintro e w18 ⟨rfl, rfl⟩
  go_wp2_with fail
  (with_reducible refine (laws_heldIntS u1 (1 + 3 * (ts.length : Int)) xs.length w17 mi17.ints (by omega) (by omega) (by omega)).mono ?_)
  rintro e w18 ⟨rfl, rfl⟩
  go_wp2_with fail
  go_ret
  exact ⟨rfl, B17⟩
end Go.Proofs.Ytfapeppocfodpaa
