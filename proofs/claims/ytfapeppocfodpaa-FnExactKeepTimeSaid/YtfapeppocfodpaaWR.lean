/- Chapters 15 and 33: the end of a segment, and its size. -/
import Derived.Test.YtfapeppocfodpaaWXL
namespace Go.Proofs.Ytfapeppocfodpaa
open Go.ChangeShapes Go.WideShapes Go.ChangeAt Go.RowKit
set_option linter.unusedVariables false

def readE (bs : List Bat) : Int := if logOk bs = true then endOf bs else -1
def sizeI (bs : List Bat) : Int := ((catB bs).length : Int)
def sizeE (bs : List Bat) : Int := if logOk bs = true then sizeI bs else -1
theorem logOk_bat {bs : List Bat} (h : logOk bs = true) : ∀ i, i < bs.length → batOk (batN bs i) = true := fun i hi => (stepB_iff.1 ((logOk_iff.1 h).2 i hi)).1
theorem impl_endOfA (v : Value) (bs : List Bat) (w : World) (h : Bats w v bs) (hs : bs.length ≤ 1000000000) (hb : ∀ i, i < bs.length → batOk (batN bs i) = true) : Calls Try.prog 80 #[v] w (SaysI (endOf bs) w) :=
  impl_endOf v bs w h hs fun h0 => hb _ (by omega)
theorem impl_batchSize (v : Value) (x : Bat) (w : World) (h : BatV w v x) (hb : batOk x = true) : Calls Try.prog 81 #[v] w (SaysI ((batB x).length : Int) w) := by
  obtain ⟨a1, c1, rfl, hr, hl, hm⟩ := h.parts
  have bA := alloc_below' w (.cells #[.bool x.packed, .bool x.mark, .int .i64 x.prod, .int .i64 x.epoch, .int .i64 x.seq, .slice a1 x.recs.length c1] 43)
  have xA := Blk.made w #[.bool x.packed, .bool x.mark, .int .i64 x.prod, .int .i64 x.epoch, .int .i64 x.seq, .slice a1 x.recs.length c1] 43
  have C1 := impl_BatchBytes _ x _ (h.below bA)
  rw [if_pos hb, hb] at C1
  have C1 := Lib.hid C1
  obtain ⟨c0, c1', c2', c3, c4, c5⟩ := xA.sixC
  clear h hr
  go_enter Try.func81, Try.ntmps81
  go_wp2_with fail
  refine C1.out.mono ?_
  rintro e w1 ⟨u, rfl, own, b1⟩
  obtain ⟨a2, k2, rfl, _, _, _⟩ := own.ints
  have B1 := Bstep bA b1
  clear own b1
  go_wp2_with fail
  go_ret
  exact ⟨rfl, B1⟩
set_option maxHeartbeats 1000000 in
theorem impl_sizeOf (v : Value) (bs : List Bat) (w : World) (h : Bats w v bs) (hs : bs.length ≤ 1000000000) (hb : ∀ i, i < bs.length → batOk (batN bs i) = true) : Calls Try.prog 63 #[v] w (SaysI (sizeI bs) w) := by
  have hv := h
  obtain ⟨a, cap, rfl, hl, hm, hc⟩ := h
  unfold maxLen at hm
  have HB := Lib.hid hb
  have HN := Lib.hid (catB_len bs hb)
  have HL : Hid (sizeI bs = ((catB (bs.take bs.length)).length : Int)) := Lib.hid (by rw [List.take_length]; rfl)
  clear hc hb
  go_enter Try.func63, Try.ntmps63
  go_wp2_with fail
  go_loopw [3, 8] (fun o i wr => ∃ (k : Nat) (m : Int), k ≤ bs.length ∧ i = .int .i64 k ∧ o = .int .i64 m ∧ m = ((catB (bs.take k)).length : Int) ∧ Below w.heap.size w wr) (fun _ i _ => bs.length - (intOf i).toNat)
  case atStart => exact ⟨0, 0, Nat.zero_le _, rfl, rfl, by simp [catB], Below.refl _ _⟩
  case round =>
    obtain ⟨k, m, hk, rfl, rfl, hm1, bel⟩ := hrel
    by_cases hlt : k < bs.length
    · obtain ⟨b, off, cap', e, hm'⟩ := hv.form (by omega)
      simp only [Value.slice.injEq, true_and] at e
      obtain ⟨rfl, rfl⟩ := e
      have hvr := hv.below bel
      obtain ⟨x, a1, c1, Hr, hR⟩ := hvr.parts k hlt
      have hxok := HB.out k hlt
      have hst := congrArg List.length (catB_take bs k hlt)
      have hl1 := HN.out k hk
      rw [Hr.out] at hxok hst
      rw [List.length_append] at hst
      have hl2 := (batB_size hxok).2
      have m0 : 0 ≤ m := by omega
      have m1 : m ≤ 228000000000 := by omega
      obtain ⟨n, hn⟩ : ∃ n, (batB x).length = n := ⟨_, rfl⟩
      have hxv := hR.batV
      rw [hn] at hst hl2
      have Hm2 : Hid (m + (n : Int) = ((catB (bs.take (k + 1))).length : Int)) := Lib.hid (by omega)
      obtain ⟨e0, e1, e2, e3, e4, e5, _⟩ := hR
      clear hst hvr hm1 hl1 Hr
      have bX := alloc_below' wr (.cells #[.bool x.packed, .bool x.mark, .int .i64 x.prod, .int .i64 x.epoch, .int .i64 x.seq, .slice a1 x.recs.length c1] 43)
      have xX := Blk.made wr #[.bool x.packed, .bool x.mark, .int .i64 x.prod, .int .i64 x.epoch, .int .i64 x.seq, .slice a1 x.recs.length c1] 43
      go_upto_region 5 with (fail)
      generalize hW : wr.alloc (.cells #[.bool x.packed, .bool x.mark, .int .i64 x.prod, .int .i64 x.epoch, .int .i64 x.seq, .slice a1 x.recs.length c1] 43) = w3 at bX xX ⊢
      clear hW e0 e1 e2 e3 e4 e5
      have C2 := impl_batchSize _ x w3 (hxv.below bX) hxok
      rw [hn] at C2
      have C2 := Lib.hid C2
      have B3 := Bstep bel bX
      obtain ⟨d0, d1, d2, d3, d4, d5⟩ := xX.sixC
      clear bX hxv hxok hn
      go_wp2_with fail
      (with_reducible refine C2.out.mono ?_)
      rintro e w4 ⟨rfl, b4⟩
      have B4 := Bstep B3 b4
      clear d0 d1 d2 d3 d4 d5 C2 b4 xX B3
      go_wp2_with fail
      go_roundw
      case rel => exact ⟨k + 1, _, by omega, by go_num, rfl, Hm2.out, B4⟩
      case measure => simp [intOf]; omega
    · obtain rfl : k = bs.length := by omega
      have Fin : Hid (sizeI bs = m) := Lib.hid (by rw [HL.out, hm1])
      clear hm1
      go_wp2_with fail
      go_ret
      exact ⟨ret_int Fin.out.symm, bel⟩
set_option maxHeartbeats 1000000 in
theorem spec_l33Size (v : Value) (bs : List Bat) (w : World) (h : Bats w v bs) (hs : bs.length ≤ 1000000000) (hb : ∀ i, i < bs.length → batOk (batN bs i) = true) : Calls Try.prog 44 #[v] w (SaysI (sizeI bs) w) := by
  have hv := h
  obtain ⟨a, cap, rfl, hl, hm, hc⟩ := h
  unfold maxLen at hm
  have HB := Lib.hid hb
  have HN := Lib.hid (catB_len bs hb)
  have HL : Hid (sizeI bs = ((catB (bs.take bs.length)).length : Int)) := Lib.hid (by rw [List.take_length]; rfl)
  clear hc hb
  go_enter Try.func44, Try.ntmps44
  go_wp2_with fail
  go_loopw [3, 4] (fun o i wr => ∃ (k : Nat) (m : Int), k ≤ bs.length ∧ i = .int .i64 k ∧ o = .int .i64 m ∧ m = ((catB (bs.take k)).length : Int) ∧ Below w.heap.size w wr) (fun _ i _ => bs.length - (intOf i).toNat)
  case atStart => exact ⟨0, 0, Nat.zero_le _, rfl, rfl, by simp [catB], Below.refl _ _⟩
  case round =>
    obtain ⟨k, m, hk, rfl, rfl, hm1, bel⟩ := hrel
    by_cases hlt : k < bs.length
    · obtain ⟨b, off, cap', e, hm'⟩ := hv.form (by omega)
      simp only [Value.slice.injEq, true_and] at e
      obtain ⟨rfl, rfl⟩ := e
      have hvr := hv.below bel
      obtain ⟨x, a1, c1, Hr, hR⟩ := hvr.parts k hlt
      have hxok := HB.out k hlt
      have hst := congrArg List.length (catB_take bs k hlt)
      have hl1 := HN.out k hk
      rw [Hr.out] at hxok hst
      rw [List.length_append] at hst
      have hl2 := (batB_size hxok).2
      have m0 : 0 ≤ m := by omega
      have m1 : m ≤ 228000000000 := by omega
      obtain ⟨n, hn⟩ : ∃ n, (batB x).length = n := ⟨_, rfl⟩
      have hxv := hR.batV
      rw [hn] at hst hl2
      have Hm2 : Hid (m + (n : Int) = ((catB (bs.take (k + 1))).length : Int)) := Lib.hid (by omega)
      obtain ⟨e0, e1, e2, e3, e4, e5, _⟩ := hR
      clear hst hvr hm1 hl1 Hr
      have C2 := Lib.hid (spec_l5Bytes _ x wr hxv hxok)
      go_wp2_with fail
      (with_reducible refine C2.out.mono ?_)
      rintro e w4 ⟨u, rfl, own4, b4⟩
      have B4 := Bstep bel b4
      obtain ⟨a2, k2, rfl, _, _, _⟩ := own4.ints
      rw [hn]
      clear own4 b4 C2 e0 e1 e2 e3 e4 e5 hxv hxok hn
      go_wp2_with fail
      go_roundw
      case rel => exact ⟨k + 1, _, by omega, by go_num, rfl, Hm2.out, B4⟩
      case measure => simp [intOf]; omega
    · obtain rfl : k = bs.length := by omega
      have Fin : Hid (sizeI bs = m) := Lib.hid (by rw [HL.out, hm1])
      clear hm1
      go_wp2_with fail
      go_ret
      exact ⟨ret_int Fin.out.symm, bel⟩
end Go.Proofs.Ytfapeppocfodpaa
