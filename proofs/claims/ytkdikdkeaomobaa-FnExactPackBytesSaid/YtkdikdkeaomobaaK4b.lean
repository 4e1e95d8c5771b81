/- Chapter 4: the exact law of packing. -/
import Derived.Test.YtkdikdkeaomobaaW4i
namespace Go.Proofs.Ytkdikdkeaomobaa
open Go.ChangeShapes Go.WideShapes Go.ChangeAt Go.RowKit
set_option linter.unusedVariables false

set_option maxHeartbeats 1000000 in
theorem law_FnExactPackBytes (w : World) (v : Value) (zs : List Int) (h : IntsIn w v zs) : Calls Try.prog 10 #[v] w (Yes w) := by
  have hv := h.1
  obtain ⟨a, cap, rfl, hl, hm, hc⟩ := h.1
  clear hc
  unfold maxLen at hm
  by_cases hlen : 1048576 < zs.length
  · go_enter Try.func10, Try.ntmps10
    go_wp2
    go_ret
    exact ⟨rfl, Below.refl _ _⟩
  · have C1 : Hid (∀ v w, Ints w v zs → Calls Try.prog 15 #[v] w (NewInts w (pckL zs) (pckB zs))) := fun v w h => spec_PackBytes v zs w h (by omega)
    have C2 : Hid (∀ v w, Ints w v zs → Calls Try.prog 14 #[v] w (NewInts w (pckL zs) (pckB zs))) := fun v w h => impl_PackBytes v zs w h (by omega)
    have C3 : Hid (∀ v w, Ints w v zs → Calls Try.prog 24 #[v] w (NewInts1 w zs)) := fun v w h => laws_toIntS v zs w h (by omega)
    have HV : Hid (∀ W : World, Below w.heap.size w W → Ints W (.slice a zs.length cap) zs) := Lib.hid fun W hW => hv.below hW
    have hxl := pckL_len zs
    obtain ⟨xs, hx⟩ : ∃ xs, pckL zs = xs := ⟨_, rfl⟩
    obtain ⟨b, hb⟩ : ∃ b, pckB zs = b := ⟨_, rfl⟩
    rw [hx, hb] at C1 C2
    rw [hx] at hxl
    clear hx hb h hv
    have C5 : Hid (∀ wn u v, Ints wn u xs → Ints wn v xs → Calls Try.prog 25 #[u, v] wn (Same wn true)) := fun wn u v hu hv => by
      have := laws_eqIntS u v xs xs wn hu hv
      rwa [beq_self] at this
    have C6 : Hid (∀ wn u v, Ints wn u zs → Ints wn v zs → Calls Try.prog 25 #[u, v] wn (Same wn true)) := fun wn u v hu hv => by
      have := laws_eqIntS u v zs zs wn hu hv
      rwa [beq_self] at this
    have hq : (1 + (xs.length : Int) != 1 + (xs.length : Int)) = false := by simp
    have hbb : (b != b) = false := by simp
    cases b
    all_goals
      go_enter Try.func10, Try.ntmps10
      go_wp2_with fail
      refine (C3.out _ _ (HV.out w (Below.refl _ _))).mono ?_
      rintro e w1 ⟨v0, rfl, own0, B1⟩
      go_wp2_with fail
      refine (C1.out v0 w1 own0.ints).mono ?_
      rintro e w2 ⟨u0, rfl, ownW, b2⟩
      have B2 := Bstep B1 b2
      have q0 := ownW.lt2
      have sw2 := B2.size
      clear own0 b2 B1
      go_wp2_with fail
      refine (C3.out _ _ (HV.out w2 B2)).mono ?_
      rintro e w3 ⟨v1, rfl, own1, b3⟩
      have B3 := Bstep B2 b3
      have ownW3 := ownW.below b3
      have q1 := own1.lt
      have q1' := own1.lt2
      have s23 := b3.size
      clear b3 ownW B2
      go_wp2_with fail
      refine (C2.out v1 w3 own1.ints).mono ?_
      rintro e w4 ⟨u1, rfl, ownG, b4⟩
      have B4 := Bstep B3 b4
      have ownW4 := ownW3.below b4
      have own14 := own1.below b4
      have q2 := ownG.lt
      have s34 := b4.size
      clear b4 ownW3 own1 B3
      go_wp2_with fail
      refine (C5.out w4 u1 u0 ownG.ints ownW4.ints).mono ?_
      rintro e w5 ⟨rfl, b5⟩
      have B5 := Bstep B4 b5
      have ownW5 := ownW4.below b5
      have own15 := own14.below b5
      have ownG5 := ownG.below b5
      clear b5 ownW4 own14 ownG B4
      go_wp2_with fail
      refine (C3.out _ _ (HV.out w5 B5)).mono ?_
      rintro e w6 ⟨v6, rfl, own6, b6⟩
      have B6 := Bstep B5 b6
      have own16 := own15.below b6
      go_wp2_with fail
      refine (C6.out w6 v1 v6 own16.ints own6.ints).mono ?_
      rintro e w7 ⟨rfl, b7⟩
      have b57 := Bstep b6 b7
      have B7 := Bstep B5 b57
      have ownW7 := ownW5.below b57
      have own17 := own15.below b57
      have ownG7 := ownG5.below b57
      clear b6 b7 b57 own6 own16 ownW5 own15 ownG5 B5 B6
      go_wp2_with fail
      refine (laws_markIntS v1 _ zs 1 w7 own17 (by omega) (by omega) (by omega)).mono ?_
      rintro e w8 ⟨rfl, mk8, g8⟩
      have iW8 : Ints w8 u0 xs := ownW7.ints.grown g8 fun k hk e => by have := q1 k hk; have := q0 k e; omega
      have oG8 : Own w8 w3.heap.size u1 xs := ownG7.grown g8 (by
        cases e : u1.ownBlock with
        | none => exact .inl rfl
        | some q => exact .inr fun e2 => by have h1 := q2 q e; have h2 := q1' q e2.symm; omega)
      have B8 : Below w.heap.size w w8 := B7.grown g8 B7.size fun k hk => by have := q1 k hk; omega
      clear g8 mk8 ownW7 own17 ownG7 B7
      go_wp2_with fail
      refine (C5.out w8 u1 u0 oG8.ints iW8).mono ?_
      rintro e w9 ⟨rfl, b9⟩
      have B9 := Bstep B8 b9
      have iW9 := iW8.below b9
      have oG9 := oG8.below b9
      clear b9 iW8 oG8 B8
      go_wp2_with fail
      refine (laws_markIntS u1 _ xs 1 w9 oG9 (by omega) (by omega) (by omega)).mono ?_
      rintro e w10 ⟨rfl, mk10, g10⟩
      have iW10 : Ints w10 u0 xs := iW9.grown g10 fun k hk e => by have := q2 k hk; have := q0 k e; omega
      have B10 : Below w.heap.size w w10 := B9.grown g10 B9.size fun k hk => by have := q2 k hk; omega
      clear g10 iW9 oG9 B9
      go_wp2_with fail
      refine (laws_heldIntS u1 1 xs.length w10 mk10.ints (by omega) (by omega) (by omega)).mono ?_
      rintro e w11 ⟨rfl, rfl⟩
      go_wp2_with fail
      refine (C3.out _ _ (HV.out w10 B10)).mono ?_
      rintro e w12 ⟨v12, rfl, own12, b12⟩
      have B12 := Bstep B10 b12
      have iW12 := iW10.below b12
      have mk12 := mk10.below b12
      clear b12 iW10 mk10 B10
      go_wp2_with fail
      refine (C2.out v12 w12 own12.ints).mono ?_
      rintro e w13 ⟨u13, rfl, own13, b13⟩
      have B13 := Bstep B12 b13
      have iW13 := iW12.below b13
      have mk13 := mk12.below b13
      clear b13 iW12 mk12 B12 own12
      go_wp2_with fail
      refine (C5.out w13 u13 u0 own13.ints iW13).mono ?_
      rintro e w14 ⟨rfl, b14⟩
      have B14 := Bstep B13 b14
      have mk14 := mk13.below b14
      clear b14 iW13 mk13 B13 own13
      go_wp2_with fail
      refine (laws_heldIntS u1 1 xs.length w14 mk14.ints (by omega) (by omega) (by omega)).mono ?_
      rintro e w15 ⟨rfl, rfl⟩
      go_wp2_with fail
      go_ret
      exact ⟨rfl, B14⟩
end Go.Proofs.Ytkdikdkeaomobaa
