/- Chapter 2: the law on the digits of bytes. -/
import Derived.Test.YtppppgkcgocgaaaK2c
import Derived.Deep.RegionHeld3
namespace Go.Proofs.Ytppppgkcgocgaaa
open Go.ChangeShapes Go.WideShapes Go.ChangeAt Go.RowKit
set_option linter.unusedVariables false

set_option maxHeartbeats 1600000 in
theorem law_FnBytesText (w : World) (v : Value) (zs : List Int) (h : U8s w v zs) (v2 : Value) (ms : List Int) (h2 : U8s w v2 ms) : Calls Try.prog 10 #[v, v2] w (Yes w) := by
  have hv := h
  obtain ⟨a, cap, rfl, hl, hm, hc, hr⟩ := h
  clear hc hr
  unfold maxLen at hm
  obtain ⟨a2, cap2, rfl, hl2, hm2, hc2, hr2⟩ := h2
  clear hc2 hr2
  unfold maxLen at hm2
  by_cases hbig : 1048576 < zs.length
  · go_enter Try.func10, Try.ntmps10
    go_wp2
    go_ret
    exact ⟨rfl, Below.refl _ _⟩
  have b1 : decide ((1048576 : Int) < (zs.length : Int)) = false := decide_eq_false (by omega)
  by_cases hbig2 : 1048576 < ms.length
  · have b2 : decide ((1048576 : Int) < (ms.length : Int)) = true := decide_eq_true (by omega)
    go_enter Try.func10, Try.ntmps10
    go_wp2
    go_ret
    exact ⟨rfl, Below.refl _ _⟩
  have b2 : decide ((1048576 : Int) < (ms.length : Int)) = false := decide_eq_false (by omega)
  have D1 := Lib.hid (spec_DrawBytesText _ zs w hv (by omega))
  clear hv
  go_enter Try.func10, Try.ntmps10
  go_wp2_with fail
  refine D1.out.mono ?_
  rintro e w1 ⟨u, xs, rfl, ⟨g, off, ucap, rfl⟩, iu, xl, bel⟩
  have hmx := iu.sizes.2
  unfold maxLen at hmx
  obtain ⟨hmx1, hmx2⟩ := hmx
  have C2 := Lib.hid (impl_BytesText _ xs w1 iu (by omega))
  have C3 : Hid (∀ wn, Ints wn (.slice (some ⟨g, off, none⟩) xs.length ucap) xs → Calls Try.prog 28 #[.slice (some ⟨g, off, none⟩) xs.length ucap] wn (StrRes (textB xs) wn)) := fun wn h => spec_BytesText _ xs wn h (by omega)
  have C4 : Hid (∀ wn, Ints wn (.slice (some ⟨g, off, none⟩) xs.length ucap) xs → Calls Try.prog 25 #[.slice (some ⟨g, off, none⟩) xs.length ucap] wn fun e w' => e = .returned (.int .i64 (sumV xs)) ∧ wn = w') := fun wn h => spec_SumOf _ xs wn h
  unfold StrRes at C2 C3
  cases hok : okBs xs with
  | false =>
    rw [textB_no hok] at C2 C3
    rw [sumV_no hok] at C4
    clear hok
    obtain ⟨s0, hs0⟩ := hid_eq (strOfNums [])
    rw [hs0] at C2 C3
    have q1 : (s0.toList == s0.toList) = true := by simp
    clear hs0
    go_wp2_with fail
    refine C2.out.mono ?_
    rintro e w2 ⟨rfl, bel2⟩
    have iu2 := iu.below bel2
    go_wp2_with fail
    refine (C3.out _ iu2).mono ?_
    rintro e w3 ⟨rfl, bel3⟩
    have iu3 := iu2.below bel3
    go_wp2_with fail
    refine (C4.out _ iu3).mono ?_
    rintro e w4 ⟨rfl, rfl⟩
    go_wp2_with fail
    go_ret
    exact ⟨rfl, Bstep (Bstep bel bel2) bel3⟩
  | true =>
    rw [textB_ok hok] at C2 C3
    rw [sumV_yes hok] at C4
    have hb := sumB_bound xs
    obtain ⟨n, hn⟩ := hid_eq (sumB xs)
    rw [hn] at C4 hb
    obtain ⟨hb0, hb1⟩ := hb
    have d4 : decide (n < 0) = false := decide_eq_false (by omega)
    obtain ⟨k, hk⟩ := hid_eq (ms.length % (xs.length + 1))
    have hkle : k ≤ xs.length := by
      have := Nat.mod_lt ms.length (show 0 < xs.length + 1 by omega)
      omega
    have t1 : (ms.length : Int).tmod ((xs.length : Int) + 1) = (k : Int) := by
      have e : (xs.length : Int) + 1 = ((xs.length + 1 : Nat) : Int) := by simp
      rw [e, ← hk]; rfl
    have t2 : (ms.length : Int) % ((xs.length : Int) + 1) = (k : Int) := by
      have e : (xs.length : Int) + 1 = ((xs.length + 1 : Nat) : Int) := by simp
      rw [e, ← hk]; rfl
    have hsum : strOfNums (hexB (xs.take k)) ++ strOfNums (hexB (xs.drop k)) = strOfNums (hexB xs) := by
      rw [str_append, ← hexB_append, List.take_append_drop]
    have hsz : (strOfNums (hexB xs)).size = 2 * xs.length := by rw [strOfNums_size, hexB_len]
    have hta := textB_ok (okBs_take hok k)
    have htd := textB_ok (okBs_drop hok k)
    have CA : Hid (∀ wn, Ints wn (.slice (some ⟨g, off, none⟩) xs.length ucap) xs → Calls Try.prog 27 #[.slice (some ⟨g, off, none⟩) k ucap] wn fun e w' => e = .returned (.string (strOfNums (hexB (xs.take k)))) ∧ Ints w' (.slice (some ⟨g, off, none⟩) xs.length ucap) xs ∧ Below wn.heap.size wn w') := fun wn hi => by
      have := impl_BytesText _ (xs.take k) wn (hi.take k hkle) (by rw [List.length_take]; omega)
      rw [hta] at this
      exact this.mono fun e w' ⟨he, hb⟩ => ⟨he, hi.below hb, hb⟩
    have CB : Hid (∀ wn (b : Addr), (b = ⟨g, off + k, none⟩ ∨ k = xs.length) → Ints wn (.slice (some ⟨g, off, none⟩) xs.length ucap) xs → Calls Try.prog 27 #[.slice (some b) (xs.length - k) (ucap - k)] wn fun e w' => e = .returned (.string (strOfNums (hexB (xs.drop k)))) ∧ Ints w' (.slice (some ⟨g, off, none⟩) xs.length ucap) xs ∧ Below wn.heap.size wn w') := fun wn b hb hi => by
      have hi2 : Ints wn (.slice (some b) (xs.length - k) (ucap - k)) (xs.drop k) := by
        rcases hb with rfl | hb
        · exact hi.drop' k hkle
        · rw [List.drop_eq_nil_of_le (by omega), show xs.length - k = 0 by omega]
          exact Ints.empty _ _ _ (by unfold maxLen; omega)
      have := impl_BytesText _ (xs.drop k) wn hi2 (by rw [List.length_drop]; omega)
      rw [htd] at this
      exact this.mono fun e w' ⟨he, hb⟩ => ⟨he, hi.below hb, hb⟩
    obtain ⟨sa, hsa⟩ := hid_eq (strOfNums (hexB (xs.take k)))
    obtain ⟨sd, hsd⟩ := hid_eq (strOfNums (hexB (xs.drop k)))
    obtain ⟨st, hst⟩ := hid_eq (strOfNums (hexB xs))
    rw [hsa] at CA hsum
    rw [hsd] at CB hsum
    rw [hst] at C2 C3 hsum hsz
    have q1 : (st.toList == st.toList) = true := by simp
    have hadd : ∀ wn : World, (Op.stringOp .add sa sd).run Try.prog wn = .ok (.string st) wn := fun wn => by
      rw [← hsum]
      refine run_string_add_sum wn sa sd ?_
      rw [← hsa, ← hsd, strOfNums_size, strOfNums_size, hexB_len, hexB_len, List.length_take, List.length_drop]
      omega
    have hz : ((st.size : Int) == 2 * (xs.length : Int)) = true := by rw [hsz, beq_iff_eq]; simp
    have hz2 : (st.size : Int) = 2 * (xs.length : Int) := by rw [hsz]; simp
    have hzw : ((st.size : Int) == IntKind.i64.wrap (2 * (xs.length : Int))) = true := by rw [show IntKind.i64.wrap (2 * (xs.length : Int)) = 2 * (xs.length : Int) from IntWalk.i64_in _ ⟨by omega, by omega⟩]; exact hz
    have i0 : (0 : Int) ≤ (k : Int) := by omega
    have i1 : (k : Int) ≤ (xs.length : Int) := by omega
    have hle : k ≤ ucap := by omega
    clear hok hn hk hsum hsz hta htd hsa hsd hst hz2
    go_wp2_with fail
    refine C2.out.mono ?_
    rintro e w2 ⟨rfl, bel2⟩
    have iu2 := iu.below bel2
    go_wp2_with fail
    refine (C3.out _ iu2).mono ?_
    rintro e w3 ⟨rfl, bel3⟩
    have iu3 := iu2.below bel3
    go_wp2_with fail
    refine (C4.out _ iu3).mono ?_
    rintro e w4 ⟨rfl, rfl⟩
    go_wp2_with fail
    have B3 := Bstep (Bstep bel bel2) bel3
    have CA2 : Hid (∀ wn, (Ints wn (.slice (some ⟨g, off, none⟩) xs.length ucap) xs ∧ Below w3.heap.size w3 wn) → Calls Try.prog 27 #[.slice (some ⟨g, off, none⟩) k ucap] wn fun e w' => e = .returned (.string sa) ∧ (Ints w' (.slice (some ⟨g, off, none⟩) xs.length ucap) xs ∧ Below w3.heap.size w3 w')) := fun wn h => (CA.out wn h.1).mono fun e w' ⟨h1, h2, h3⟩ => ⟨h1, h2, h.2.trans (h3.mono h.2.size)⟩
    have CB2 : Hid (∀ wn (b : Addr), (b = ⟨g, off + k, none⟩ ∨ k = xs.length) → (Ints wn (.slice (some ⟨g, off, none⟩) xs.length ucap) xs ∧ Below w3.heap.size w3 wn) → Calls Try.prog 27 #[.slice (some b) (xs.length - k) (ucap - k)] wn fun e w' => e = .returned (.string sd) ∧ (Ints w' (.slice (some ⟨g, off, none⟩) xs.length ucap) xs ∧ Below w3.heap.size w3 w')) := fun wn b hb h => (CB.out wn b hb h.1).mono fun e w' ⟨h1, h2, h3⟩ => ⟨h1, h2, h.2.trans (h3.mono h.2.size)⟩
    have S0 : Ints w3.drew (.slice (some ⟨g, off, none⟩) xs.length ucap) xs ∧ Below w3.heap.size w3 w3.drew := ⟨iu3, below_drewN (Below.refl _ _) 1⟩
    clear CA CB
    have done : Hid (∀ wn, (Ints wn (.slice (some ⟨g, off, none⟩) xs.length ucap) xs ∧ Below w3.heap.size w3 wn) → Below w.heap.size w wn) := fun wn h => Bstep B3 h.2
    by_cases hck : ucap = k
    · obtain rfl : ucap = xs.length := by omega
      obtain rfl : k = xs.length := hck.symm
      rw [Nat.sub_self] at CB2
      have CB3 : Hid (∀ wn, (Ints wn (.slice (some ⟨g, off, none⟩) xs.length xs.length) xs ∧ Below w3.heap.size w3 wn) → Calls Try.prog 27 #[.slice (some ⟨g, off, none⟩) 0 0] wn fun e w' => e = .returned (.string sd) ∧ (Ints w' (.slice (some ⟨g, off, none⟩) xs.length xs.length) xs ∧ Below w3.heap.size w3 w')) := fun wn h => CB2.out wn _ (.inr rfl) h
      clear CB2
      go_region_held3 (fun w' => Ints w' (.slice (some ⟨g, off, none⟩) xs.length xs.length) xs ∧ Below w3.heap.size w3 w') (first | assumption | go_keep)
        (first | (go_at_call 27; ((with_reducible refine (CA2.out _ (by assumption)).mono ?_); rintro e w' ⟨rfl, hS⟩)) | (go_at_call 27; ((with_reducible refine (CB3.out _ (by assumption)).mono ?_); rintro e w' ⟨rfl, hS⟩)))
      go_wp2
      go_ret
      exact ⟨rfl, done.out _ (by assumption)⟩
    · have CB3 : Hid (∀ wn, (Ints wn (.slice (some ⟨g, off, none⟩) xs.length ucap) xs ∧ Below w3.heap.size w3 wn) → Calls Try.prog 27 #[.slice (some ⟨g, off + k, none⟩) (xs.length - k) (ucap - k)] wn fun e w' => e = .returned (.string sd) ∧ (Ints w' (.slice (some ⟨g, off, none⟩) xs.length ucap) xs ∧ Below w3.heap.size w3 w')) := fun wn h => CB2.out wn _ (.inl rfl) h
      clear CB2
      go_region_held3 (fun w' => Ints w' (.slice (some ⟨g, off, none⟩) xs.length ucap) xs ∧ Below w3.heap.size w3 w') (first | assumption | go_keep)
        (first | (go_at_call 27; ((with_reducible refine (CA2.out _ (by assumption)).mono ?_); rintro e w' ⟨rfl, hS⟩)) | (go_at_call 27; ((with_reducible refine (CB3.out _ (by assumption)).mono ?_); rintro e w' ⟨rfl, hS⟩)))
      go_wp2
      go_ret
      exact ⟨rfl, done.out _ (by assumption)⟩
end Go.Proofs.Ytppppgkcgocgaaa
