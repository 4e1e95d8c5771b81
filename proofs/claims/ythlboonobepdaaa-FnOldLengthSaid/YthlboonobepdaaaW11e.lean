/- Chapter 11: the bytes of a message, by the program. -/
import Derived.Test.YthlboonobepdaaaW11b
import Derived.Test.YthlboonobepdaaaW2c
namespace Go.Proofs.Ythlboonobepdaaa
open Go.ChangeShapes Go.WideShapes Go.ChangeAt Go.RowKit
set_option linter.unusedVariables false

theorem impl_withInt (v : Value) (xs : List Int) (n : Int) (m : Nat) (base : Nat) (w : World) (h : Own w base v xs) (hb : base ≤ w.heap.size) (hl : xs.length ≤ 100000000) (m1 : 1 ≤ m) (m3 : m ≤ 3) (n0 : 0 ≤ n) (n1 : n < 256 ^ m) :
    Calls Try.prog 36 #[v, .int .i64 n, .int .i64 (m : Int)] w (AppRes w base (xs ++ sfx m n)) := by
  have p3 := pow256_le m m3
  have C1 := impl_IntBytes n (m : Int) w ⟨by omega, by omega⟩ ⟨by omega, by omega⟩
  have hok := okI_mk m1 m3 n0 n1
  rw [intB_yes hok, hok, Int.toNat_natCast] at C1
  have C1 := Lib.hid C1
  have hlen := sfx_len m n
  have hlen2 : (sfx m n).length ≤ 3 := by omega
  obtain ⟨ys, hys⟩ : ∃ ys, sfx m n = ys := ⟨_, rfl⟩
  rw [hys] at C1 hlen2 ⊢
  clear hys hok hlen p3
  go_enter Try.func36, Try.ntmps36
  go_wp2_with fail
  (with_reducible refine C1.out.mono ?_)
  rintro e w1 ⟨u, rfl, own1, b1⟩
  have own0 := h.below b1
  have bb : Below base w w1 := b1.mono hb
  have hs1 := Nat.le_trans hb b1.size
  go_wp2_with (at_builtin; refine wp_appI rfl _ _ rfl base v u xs ys rfl rfl own0 own1.ints (by omega) hs1 ?_; intro v2 w2 own2 g2)
  go_ret
  exact ⟨_, rfl, own2, bb.grown g2 hs1 own0.lt⟩
theorem own_lit1 (w : World) (base : Nat) (n : Int) (hb : base ≤ w.heap.size) : Own (w.alloc (.cells #[.int .i64 n] 3)) base (.slice (some ⟨w.heap.size, 0, none⟩) 1 1) [n] := by
  have h := World.ownsRow_made (e := 3) (size := 1) w #[.int .i64 n] 1 hb (by unfold maxLen; omega) (by simp)
  refine ⟨by simp, .inr ⟨w.heap.size, 1, #[.int .i64 n], rfl, hb, heap_alloc_new w _, by simp, by unfold maxLen; omega, by simp, by simp⟩⟩
theorem impl_withOldPart (v u : Value) (xs ys : List Int) (has : Bool) (base : Nat) (w : World) (h : Own w base v xs) (hi : Ints w u ys) (hd : ∀ w' : World, w.grownBy w' v.ownBlock → Ints w' u ys) (hb : base ≤ w.heap.size) (hl : xs.length ≤ 10000000) (hy : ys.length ≤ 1000) :
    Calls Try.prog 50 #[v, .bool has, u] w (AppRes w base (xs ++ partO has ys)) := by
  have h0 := h
  obtain ⟨av, cv, rfl, _, _, _⟩ := h.ints
  cases has with
  | false =>
    rw [show partO false ys = [255] from rfl]
    go_enter Try.func50, Try.ntmps50
    go_wp2_with (at_builtin; refine wp_app1 rfl (.tmp 9) (.tmp 10) rfl base _ xs 255 rfl rfl h0 (by omega) hb ?_; intro v1 w1 own1 g1 hv1; obtain ⟨g, cp, rfl⟩ := hv1)
    go_ret
    exact ⟨_, rfl, own1, (Below.refl base w).grown g1 hb h0.lt⟩
  | true =>
    rw [show partO true ys = [(ys.length : Int)] ++ ys from rfl, ← List.append_assoc]
    have hd' := Lib.hid hd
    obtain ⟨au, cu, rfl, _, hmu, _⟩ := id hi
    unfold maxLen at hmu
    have hl1 : (xs ++ [(ys.length : Int)]).length + ys.length < 10000000000 := by simp; omega
    clear hd
    go_enter Try.func50, Try.ntmps50
    go_wp2_with (first
      | (at_builtin; refine wp_app1 rfl (.tmp 12) (.tmp 15) rfl base _ xs (ys.length : Int) rfl rfl h0 (by omega) hb ?_; intro v1 w1 own1 g1 hv1; obtain ⟨g, cp, rfl⟩ := hv1; have i1 := hd'.out w1 g1; have b1 : Below base w w1 := (Below.refl base w).grown g1 hb h0.lt; have hb1 := Nat.le_trans hb b1.size)
      | (at_builtin; refine wp_appI rfl (.tmp 16) (.tmp 17) rfl base _ _ _ ys rfl rfl own1 i1 hl1 hb1 ?_; intro v2 w2 own2 g2))
    go_ret
    exact ⟨_, rfl, own2, b1.grown g2 hb1 own1.lt⟩
theorem AppRes.lenOf {w : World} {base : Nat} {v : Value} {xs : List Int} (h : Own w base v xs) : ∃ a c, v = .slice a xs.length c := by
  obtain ⟨a, c, rfl, _⟩ := h.ints
  exact ⟨a, c, rfl⟩
theorem Ints.keepR {w w' : World} {v : Value} {xs : List Int} {row : Option Nat} (h : Ints w v xs) (hg : w.grownBy w' row) (hne : ∀ q, v.ownBlock = some q → 0 < xs.length → row ≠ some q) : Ints w' v xs := by
  rcases Nat.eq_zero_or_pos xs.length with h0 | h0
  · obtain ⟨a, cap, rfl, hl, hm, hc⟩ := h
    exact ⟨a, cap, rfl, hl, hm, fun h1 => by omega⟩
  · exact h.keep fun b hv hlt => hg.block b hlt (fun e => hne b hv h0 e.symm)
set_option maxHeartbeats 2000000 in
theorem impl_summedBytes (v : Value) (m : Mes) (w : World) (h : MesV w v m) (hok : mOk m = true) : Calls Try.prog 35 #[v] w (NewInts1 w (restO m)) := by
  obtain ⟨⟨_, ⟨t0, t1⟩, p1, p2⟩, _⟩ := mOk_iff.1 hok
  have k12 := (partOk_iff.1 p1).2.2
  have v12 := (partOk_iff.1 p2).2.2
  have hm := h
  obtain ⟨off, timed, time, key, val, hk, miss⟩ := m
  obtain ⟨kv, vv, rfl, ik, iv⟩ := h
  simp only at ik iv t0 t1 k12 v12
  obtain ⟨ak, ck, rfl, _, _, _⟩ := id ik
  obtain ⟨av, cv, rfl, _, _, _⟩ := id iv
  have lk := ik.lt
  have lv := iv.lt
  have bA := alloc_below' w (.cells #[.int .i64 off, .bool timed, .int .i64 time, .slice ak key.length ck, .slice av val.length cv, .bool hk, .bool miss] 25)
  have xA := Blk.made w #[.int .i64 off, .bool timed, .int .i64 time, .slice ak key.length ck, .slice av val.length cv, .bool hk, .bool miss] 25
  have C2 : Hid (∀ W v xs base, Own W base v xs → Below w.heap.size w W → w.heap.size ≤ base → base ≤ W.heap.size → xs.length ≤ 10000000 → Calls Try.prog 50 #[v, .bool hk, .slice ak key.length ck] W (AppRes W base (xs ++ partO hk key))) := Lib.hid fun W v xs base ho hb hs hw hl =>
    impl_withOldPart v _ xs key hk base W ho (ik.below hb) (fun w' hg => (ik.below hb).keepR hg fun q hq h0 e => by have := lk h0 q hq; have := ho.lt q e; omega) hw hl (by omega)
  have C3 : Hid (∀ W v xs base, Own W base v xs → Below w.heap.size w W → w.heap.size ≤ base → base ≤ W.heap.size → xs.length ≤ 10000000 → Calls Try.prog 50 #[v, .bool (!miss), .slice av val.length cv] W (AppRes W base (xs ++ partO (!miss) val))) := Lib.hid fun W v xs base ho hb hs hw hl =>
    impl_withOldPart v _ xs val (!miss) base W ho (iv.below hb) (fun w' hg => (iv.below hb).keepR hg fun q hq h0 e => by have := lv h0 q hq; have := ho.lt q e; omega) hw hl (by omega)
  rw [show restO ⟨off, timed, time, key, val, hk, miss⟩ = headO ⟨off, timed, time, key, val, hk, miss⟩ ++ partO hk key ++ partO (!miss) val from rfl]
  have hlk : (partO hk key).length = 1 + key.length := partO_len p1
  have hlv : (partO (!miss) val).length = 1 + val.length := partO_len p2
  obtain ⟨P1, hP1⟩ : ∃ P1, partO hk key = P1 := ⟨_, rfl⟩
  obtain ⟨P2, hP2⟩ : ∃ P2, partO (!miss) val = P2 := ⟨_, rfl⟩
  rw [hP1] at C2 hlk ⊢
  rw [hP2] at C3 hlv ⊢
  clear hP1 hP2 p1 p2
  obtain ⟨R, hR⟩ : ∃ R, headO ⟨off, timed, time, key, val, hk, miss⟩ ++ P1 ++ P2 = R := ⟨_, rfl⟩
  rw [hR]
  have HR := Lib.hid hR
  clear hR
  go_enter Try.func35, Try.ntmps35
  go_upto_region 1 with (fail)
  generalize hwb : w.alloc (.cells #[.int .i64 off, .bool timed, .int .i64 time, .slice ak key.length ck, .slice av val.length cv, .bool hk, .bool miss] 25) = wb at bA xA ⊢
  clear hwb
  obtain ⟨A, hA⟩ : ∃ A, w.heap.size = A := ⟨_, rfl⟩
  rw [hA] at xA ⊢
  have HA := Lib.hid hA
  have hs0 : w.heap.size ≤ wb.heap.size := bA.size
  have hAb := xA.lt
  clear hA
  have b0 := alloc_below' wb (.cells #[.int .i64 0] 3)
  have o0 := own_lit1 wb wb.heap.size 0 (Nat.le_refl _)
  have x0 := xA.belowS b0
  obtain ⟨c0, c1, c2, c3, c4, c5, c6⟩ := x0.seven?
  go_upto_region 2 with (fail)
  obtain ⟨L0, hL0⟩ : ∃ L0, wb.heap.size = L0 := ⟨_, rfl⟩
  rw [hL0] at o0 hs0 ⊢
  have b0s : L0 ≤ (wb.alloc (.cells #[.int .i64 0] 3)).heap.size := by rw [← hL0]; exact b0.size
  generalize hw0 : wb.alloc (.cells #[.int .i64 0] 3) = w0 at b0 o0 x0 c0 c1 c2 c3 c4 c5 c6 b0s ⊢
  have HL := Lib.hid hL0
  clear hw0 hL0
  cases timed with
  | false =>
    have HH : Hid (headO ⟨off, false, time, key, val, hk, miss⟩ = [0]) := Lib.hid rfl
    have hh4 : ([0] : List Int).length ≤ 4 := by simp
    obtain ⟨H, hH⟩ : ∃ H, ([0] : List Int) = H := ⟨_, rfl⟩
    rw [hH] at o0 hh4 HH
    clear hH
    go_wp2_with fail
    refine (C2.out w0 _ H L0 o0 (Bstep bA b0) hs0 b0s (by omega)).mono ?_
    rintro e w1 ⟨v1, rfl, own1, b1⟩
    have b1' := b0.trans (b1.mono (by have := HL.out; omega))
    obtain ⟨Q, hQ⟩ : ∃ Q, H ++ P1 = Q := ⟨_, rfl⟩
    have hql : Q.length ≤ 100 := by rw [← hQ, List.length_append]; omega
    rw [hQ] at own1
    have HQ := Lib.hid hQ
    clear hQ
    have x1 := xA.belowS b1'
    have b1s : L0 ≤ w1.heap.size := by have := b1'.size; have := HL.out; omega
    obtain ⟨a1, k1, rfl⟩ := AppRes.lenOf own1
    clear c0 c1 c2 c3 c4 c5 c6
    obtain ⟨c0, c1, c2, c3, c4, c5, c6⟩ := x1.seven?
    go_wp2_with fail
    refine (C3.out w1 _ _ L0 own1 (Bstep bA b1') hs0 b1s (by omega)).mono ?_
    rintro e w3 ⟨v3, rfl, own3, b3⟩
    have b3' : Below wb.heap.size wb w3 := b1'.trans (b3.mono (by have := HL.out; omega))
    go_wp2_with fail
    go_ret
    have own3' : Own w3 L0 v3 R := by rw [← HR.out, HH.out, HQ.out]; exact own3
    exact ⟨_, rfl, own3'.base hs0, Bstep bA b3'⟩
  | true =>
    have hh : (headO ⟨off, true, time, key, val, hk, miss⟩).length = 4 := headO_len _
    have HH : Hid (headO ⟨off, true, time, key, val, hk, miss⟩ = [1] ++ sfx 3 time) := Lib.hid rfl
    rw [HH.out] at hh
    have b9 := Bstep b0 (alloc_below' w0 (.cells #[.int .i64 1] 3))
    have o9 := own_lit1 w0 L0 1 b0s
    have b9s : L0 ≤ (w0.alloc (.cells #[.int .i64 1] 3)).heap.size := by have := b9.size; have := HL.out; omega
    have x9 := x0.belowS (alloc_below' w0 (.cells #[.int .i64 1] 3))
    have C4 := Lib.hid (impl_withInt _ [1] time 3 L0 _ o9 b9s (by simp) (by omega) (by omega) t0 (by omega))
    obtain ⟨H, hH⟩ : ∃ H, [1] ++ sfx 3 time = H := ⟨_, rfl⟩
    rw [hH] at C4 hh HH
    obtain ⟨f0, f1, f2, f3, f4, f5, f6⟩ := x9.seven?
    have hh4 : H.length ≤ 4 := by omega
    clear hH hh
    go_wp2_with fail
    refine C4.out.mono ?_
    rintro e w2 ⟨v2, rfl, own2, b2⟩
    have B2 : Below wb.heap.size wb w2 := b9.trans (b2.mono (by have := HL.out; omega))
    have B2s : L0 ≤ w2.heap.size := by have := B2.size; have := HL.out; omega
    have x2 := xA.belowS B2
    clear c0 c1 c2 c3 c4 c5 c6 f0 f1 f2 f3 f4 f5 f6
    obtain ⟨c0, c1, c2, c3, c4, c5, c6⟩ := x2.seven?
    obtain ⟨ah, ch, rfl⟩ := AppRes.lenOf own2
    go_wp2_with fail
    refine (C2.out w2 _ H L0 own2 (Bstep bA B2) hs0 B2s (by omega)).mono ?_
    rintro e w1 ⟨v1, rfl, own1, b1⟩
    have b1' : Below wb.heap.size wb w1 := B2.trans (b1.mono (by have := HL.out; omega))
    obtain ⟨Q, hQ⟩ : ∃ Q, H ++ P1 = Q := ⟨_, rfl⟩
    have hql : Q.length ≤ 100 := by rw [← hQ, List.length_append]; omega
    rw [hQ] at own1
    have HQ := Lib.hid hQ
    clear hQ
    have x1 := xA.belowS b1'
    have b1s : L0 ≤ w1.heap.size := by have := b1'.size; have := HL.out; omega
    obtain ⟨a1, k1, rfl⟩ := AppRes.lenOf own1
    clear c0 c1 c2 c3 c4 c5 c6
    obtain ⟨c0, c1, c2, c3, c4, c5, c6⟩ := x1.seven?
    go_wp2_with fail
    refine (C3.out w1 _ _ L0 own1 (Bstep bA b1') hs0 b1s (by omega)).mono ?_
    rintro e w3 ⟨v3, rfl, own3, b3⟩
    have b3' : Below wb.heap.size wb w3 := b1'.trans (b3.mono (by have := HL.out; omega))
    go_wp2_with fail
    go_ret
    have own3' : Own w3 L0 v3 R := by rw [← HR.out, HH.out, HQ.out]; exact own3
    exact ⟨_, rfl, own3'.base hs0, Bstep bA b3'⟩
end Go.Proofs.Ythlboonobepdaaa
