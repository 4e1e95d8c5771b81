/- Chapter 4: 60 times the same byte. -/
import Derived.Test.YtkdikdkeaomobaaK4d
namespace Go.Proofs.Ytkdikdkeaomobaa
open Go.ChangeShapes Go.WideShapes Go.ChangeAt Go.RowKit
set_option linter.unusedVariables false

theorem below_none' {w W : World} (h : w.grownBy W none) : Below w.heap.size w W := ⟨h.os, h.tape, h.output, h.size, fun k hk => h.block k hk (by simp)⟩
theorem rep_set (x : Int) {k : Nat} (hk : k < 60) : (List.replicate k x ++ List.replicate (60 - k) 0).set k x = List.replicate (k + 1) x ++ List.replicate (60 - (k + 1)) 0 := by
  rw [List.set_append_right _ _ (by simp), List.length_replicate, Nat.sub_self, show 60 - k = (60 - (k + 1)) + 1 by omega, List.replicate_succ, List.set_cons_zero, List.replicate_succ' (n := k), List.append_assoc]
  rfl
set_option maxHeartbeats 1000000 in
theorem law_FnPackSame (w : World) (v : Value) (zs : List Int) (h : U8s w v zs) : Calls Try.prog 5 #[v] w (Yes w) := by
  have hU := h
  obtain ⟨a, cap, rfl, hl, hm, hc, hr⟩ := hU
  unfold maxLen at hm
  clear hc hr
  by_cases hlen : 1048576 < zs.length
  · go_enter Try.func5, Try.ntmps5
    go_wp2
    go_ret
    exact ⟨rfl, Below.refl _ _⟩
  · have C0 := Lib.hid (spec_DrawPackBytes _ zs w h (by omega))
    clear h
    go_enter Try.func5, Try.ntmps5
    go_wp2_with fail
    refine C0.out.mono ?_
    rintro e w1 ⟨u, form, rfl, hi, hfl, hge, B1⟩
    have hxl := pckL_len' form
    have C1 : Hid (∀ v w, Ints w v form → Calls Try.prog 15 #[v] w (NewInts w (pckL form) (pckB form))) := fun v w h => spec_PackBytes v form w h (by omega)
    have C2 : Hid (∀ v w, Ints w v form → Calls Try.prog 14 #[v] w (NewInts w (pckL form) (pckB form))) := fun v w h => impl_PackBytes v form w h (by omega)
    have hfacts : pckB form = true → (pckL form).length ≤ 210 → ∀ x, (x = 0 ∨ (0 < form.length ∧ x = form.getD 0 0)) → ∀ v w, Ints w v (List.replicate 60 x) → Calls Try.prog 14 #[v] w (fun e w' => ∃ pk, pk.length = 4 ∧ NewInts w pk true e w') := fun h1 _ x hx v w h => by
      obtain ⟨q1, q2⟩ := pckB_iff.1 h1
      have hx2 : 0 ≤ x ∧ x ≤ 255 := by
        rcases hx with rfl | ⟨_, rfl⟩
        · omega
        · exact okB_getD q1 0
      have hb : pckB (List.replicate 60 x) = true := pckB_iff.2 ⟨by unfold okBs; simp; omega, by simp⟩
      have e : pckL (List.replicate 60 x) = packP (List.replicate 60 x) := by unfold pckL; rw [hb]; rfl
      have h3 := impl_PackBytes v _ w h (by simp)
      rw [hb] at h3
      exact h3.mono fun e2 w2 hh => ⟨_, by rw [e]; exact pack_same x, hh⟩
    obtain ⟨b, hb⟩ : ∃ b, pckB form = b := ⟨_, rfl⟩
    obtain ⟨r, hr⟩ : ∃ r, pckL form = r := ⟨_, rfl⟩
    rw [hb, hr] at C1 C2 hfacts
    rw [hr] at hxl
    have HF := Lib.hid hfacts
    have C5 : Hid (∀ wn u v xs, Ints wn u xs → Ints wn v xs → Calls Try.prog 16 #[u, v] wn (Same wn true)) := fun wn u v xs hu hv => by
      have := laws_sameInts u v xs xs wn hu hv
      rwa [beq_self] at this
    have qb : (b != b) = false := by simp
    have qe : (b == b) = true := by simp
    clear hfacts hb hr C0
    obtain ⟨a1, cap1, rfl, l1, m1, _⟩ := id hi
    unfold maxLen at m1
    go_wp2_with fail
    refine (C2.out _ w1 hi).mono ?_
    rintro e w2 ⟨u2, rfl, own2, b2⟩
    have hi2 := hi.below b2
    have B2 := Bstep B1 b2
    clear hi b2 B1
    go_wp2_with fail
    refine (C1.out _ w2 hi2).mono ?_
    rintro e w3 ⟨u3, rfl, own3, b3⟩
    have hi3 := hi2.below b3
    have B3 := Bstep B2 b3
    have i2 := own2.ints.below b3
    have i3 := own3.ints
    clear hi2 b3 B2 own2 own3
    obtain ⟨a3, cap3, rfl, l3, m3, _⟩ := id i3
    unfold maxLen at m3
    obtain ⟨a2, cap2, rfl, l2, m2, _⟩ := id i2
    unfold maxLen at m2
    cases b with
    | false =>
      go_wp2_with fail
      refine (C5.out w3 _ _ _ i2 i3).mono ?_
      rintro e w4 ⟨rfl, b4⟩
      go_wp2_with fail
      refine (C5.out w4 _ _ _ (i2.below b4) (i3.below b4)).mono ?_
      rintro e w5 ⟨rfl, b5⟩
      go_wp2_with fail
      go_ret
      exact ⟨rfl, Bstep (Bstep B3 b4) b5⟩
    | true =>
      go_wp2_with fail
      refine (C5.out w3 _ _ _ i2 i3).mono ?_
      rintro e w4 ⟨rfl, b4⟩
      have hi4 := hi3.below b4
      have i24 := i2.below b4
      have i34 := i3.below b4
      have B4 := Bstep B3 b4
      clear hi3 i2 i3 B3 b4
      clear i24 i34
      by_cases h0 : 0 < form.length
      · have dl : decide ((0 : Int) < (form.length : Int)) = true := decide_eq_true (by omega)
        obtain ⟨x, hx⟩ : ∃ x, form.getD 0 0 = x := ⟨_, rfl⟩
        have C3 := Lib.hid (HF.out (by simp) (by omega) x (.inr ⟨h0, hx.symm⟩))
        have Hx := Lib.hid hx
        clear hx
        go_wp2_with (at_make; refine wp_makeN rfl _ _ rfl w4.heap.size 60 60 60 rfl rfl rfl rfl (by omega) (Nat.le_refl _) ?_; intro w5 own5 g5)
        have hi5 := hi4.below (below_none' g5)
        have B5 := Bstep B4 (below_none' g5)
        have hlu := hi4.lt h0
        have hlw := B4.size
        clear hi4 B4
        go_loopw [9] (fun i ws => ∃ k : Nat, i = .int .i64 k ∧ k ≤ 60 ∧ Own ws w4.heap.size (.slice (some ⟨w4.heap.size, 0, none⟩) 60 60) (List.replicate k x ++ List.replicate (60 - k) 0) ∧ Ints ws (.slice a1 form.length cap1) form ∧ Below w.heap.size w ws) (fun i _ => 60 - (intOf i).toNat)
        case atStart => exact ⟨0, rfl, by omega, by simpa using own5, hi5, B5⟩
        case round =>
          clear own5 hi5 B5 g5
          obtain ⟨k, rfl, hk, hown, hin, hbel⟩ := hrel
          by_cases hk60 : k < 60
          · have dk : decide ((k : Int) < 60) = true := decide_eq_true (by omega)
            obtain ⟨_, _, e9, _, _, hcl⟩ := id hin
            simp only [Value.slice.injEq] at e9
            obtain ⟨rfl, _, rfl⟩ := e9
            obtain ⟨q, off, rfl, hcell⟩ := hcl h0
            have hx1 : wr.cell? ⟨q, off, none⟩ = some (.int .i64 x) := by
              have hh := hcell 0 h0
              rw [Hx.out] at hh
              simpa using hh
            have hq := hlu q rfl
            have hll : (List.replicate k x ++ List.replicate (60 - k) (0 : Int)).length = 60 := by simp; omega
            obtain ⟨ys, hys⟩ : ∃ ys, List.replicate k x ++ List.replicate (60 - k) (0 : Int) = ys := ⟨_, rfl⟩
            have hset := rep_set x hk60
            rw [hys] at hown hll hset
            rw [← hll] at hown
            have hc := World.ownsRow.cellAt hown k (by omega)
            have hf := World.ownsRow.frozenAt hown k
            have hst := World.ownsRow.stored hown k (.int .i64 x)
            have hnew : Own (wr.setCell ⟨w4.heap.size, k, none⟩ (.int .i64 x)) w4.heap.size (.slice (some ⟨w4.heap.size, 0, none⟩) ys.length ys.length) (ys.set k x) := by
              unfold Own
              rw [List.length_set, List.map_set]
              exact hst.1
            obtain ⟨old, hold⟩ : ∃ old, wr.cell? ⟨w4.heap.size, k, none⟩ = some (.int .i64 old) := by
              rw [hc]; exact ⟨ys.getD k 0, by simp only [List.getElem?_map, List.getD]; rw [List.getElem?_eq_getElem (by omega)]; rfl⟩
            have hin2 : Ints (wr.setCell ⟨w4.heap.size, k, none⟩ (.int .i64 x)) (.slice (some ⟨q, off, none⟩) form.length cap1) form := hin.keep fun b hb _ => Below.heap_setCell wr _ _ b (by simp only [Value.ownBlock, Option.some.injEq] at hb; simp; omega)
            have hbel2 : Below w.heap.size w (wr.setCell ⟨w4.heap.size, k, none⟩ (.int .i64 x)) := hbel.setCell (by have := hlw; simp; omega) _
            rw [hset, hll] at hnew
            clear hc hst hset hys hown hcell hcl
            go_wp2_with fail
            go_roundw
            case rel => exact ⟨k + 1, by go_num, by omega, hnew, hin2, hbel2⟩
            case measure => simp [intOf]; omega
          · have dk : decide ((k : Int) < 60) = false := decide_eq_false (by omega)
            have hk2 : k = 60 := by omega
            have hown2 : Own wr w4.heap.size (.slice (some ⟨w4.heap.size, 0, none⟩) 60 60) (List.replicate 60 x) := by
              rw [hk2] at hown
              simpa using hown
            clear hk2 hown
            go_wp2_with fail
            refine (C3.out _ wr (hown2).ints).mono ?_
            rintro e w8 ⟨pk, hpk, v8, rfl, own8, b8⟩
            obtain ⟨a8, cap8, rfl, l8, m8, _⟩ := own8.ints
            unfold maxLen at m8
            have d9 : ((pk.length : Int) == 4) = true := by rw [beq_iff_eq]; omega
            clear hpk
            go_wp2_with fail
            go_ret
            exact ⟨rfl, Bstep hbel b8⟩
      · have dl : decide ((0 : Int) < (form.length : Int)) = false := decide_eq_false (by omega)
        have C3 := Lib.hid (HF.out (by simp) (by omega) 0 (.inl rfl))
        go_wp2_with (at_make; refine wp_makeN rfl _ _ rfl w4.heap.size 60 60 60 rfl rfl rfl rfl (by omega) (Nat.le_refl _) ?_; intro w5 own5 g5)
        have B5 := Bstep B4 (below_none' g5)
        go_loopw [9] (fun i ws => i = .int .i64 0 ∧ Own ws w4.heap.size (.slice (some ⟨w4.heap.size, 0, none⟩) 60 60) (List.replicate 60 0) ∧ Below w.heap.size w ws) (fun i _ => 60 - (intOf i).toNat)
        case atStart => exact ⟨rfl, own5, B5⟩
        case round =>
          clear own5 B5
          obtain ⟨rfl, hown2, hbel⟩ := hrel
          go_wp2_with fail
          refine (C3.out _ wr (hown2).ints).mono ?_
          rintro e w8 ⟨pk, hpk, v8, rfl, own8, b8⟩
          obtain ⟨a8, cap8, rfl, l8, m8, _⟩ := own8.ints
          unfold maxLen at m8
          have d9 : ((pk.length : Int) == 4) = true := by rw [beq_iff_eq]; omega
          clear hpk
          go_wp2_with fail
          go_ret
          exact ⟨rfl, Bstep hbel b8⟩
end Go.Proofs.Ytkdikdkeaomobaa
