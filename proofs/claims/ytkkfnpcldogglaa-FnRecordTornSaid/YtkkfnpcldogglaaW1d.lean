import Derived.Test.YtkkfnpcldogglaaW1c
import Derived.Test.YtkkfnpcldogglaaA1
namespace Go.Proofs.Ytkkfnpcldogglaa
open Go.ChangeShapes Go.WideShapes Go.ChangeAt Go.RowKit
set_option linter.unusedVariables false

/-- what VarFrom answers for all bytes and places -/
def rdV (xs : List Int) (k : Int) : Int × Int × Bool :=
  if okBs xs = true then if k < 0 then (0, 0, false) else rdR k (joinV (xs.drop k.toNat)) else (0, 0, false)
theorem rdV_bad {xs : List Int} {k : Int} (h : okBs xs = false) : rdV xs k = (0, 0, false) := by unfold rdV; rw [h]; rfl
theorem rdV_neg {xs : List Int} {k : Int} (h : k < 0) : rdV xs k = (0, 0, false) := by unfold rdV; rw [if_pos h]; split <;> rfl
theorem rdV_at {xs : List Int} (k : Nat) (h : okBs xs = true) : rdV xs (k : Int) = rdR k (joinV (xs.drop k)) := by
  unfold rdV; rw [if_pos h, if_neg (by omega), Int.toNat_natCast]

def FromRes (r : Int × Int × Bool) (w : World) (e : Ending) (w' : World) : Prop := e = .returned (.tuple #[.int .i64 r.1, .int .i64 r.2.1, .bool r.2.2]) ∧ w = w'

theorem impl_VarFrom (v : Value) (xs : List Int) (k : Int) (w : World) (h : Ints w v xs) (hk : I64 k) :
    Calls Try.prog 21 #[v, .int .i64 k] w (FromRes (rdV xs k) w) := by
  have hA := impl_areBytes v xs w h
  obtain ⟨hk0, hk1⟩ := hk
  by_cases hok : okBs xs = true
  · rw [hok] at hA
    have HA := Lib.hid hA
    clear hA
    by_cases h0 : k < 0
    · rw [rdV_neg h0]
      go_enter Try.func21, Try.ntmps21
      go_wp2_with (first | (go_at_call 47; refine HA.out.mono ?_; rintro e w' ⟨rfl, rfl⟩))
      go_ret3
      exact ⟨rfl, rfl⟩
    · obtain ⟨k, rfl⟩ := Int.eq_ofNat_of_zero_le (Int.not_lt.1 h0)
      rw [rdV_at k hok]
      have h1 := h
      obtain ⟨a, cap, rfl, hl, hm, hc⟩ := h1
      unfold maxLen at hm
      by_cases hlt : k < xs.length
      · obtain ⟨b, off, rfl, hcell⟩ := hc (by omega)
        clear hcell hc
        have hJ := impl_joinParts _ _ w (h.drop k hlt) (okBs_drop hok k)
        have hB := joinV_bound (xs.drop k) (okBs_at (okBs_drop hok k))
        obtain ⟨⟨r1, r2⟩, hr⟩ : ∃ r, joinV (xs.drop k) = r := ⟨_, rfl⟩
        rw [hr] at hJ hB ⊢
        simp only at hB
        obtain ⟨b0, b1, b2, b3, b4⟩ := hB
        have b5 : (k : Int) + r2 ≤ xs.length := by rw [List.length_drop] at b4; omega
        clear b4
        have HJ := Lib.hid hJ
        have hne : ¬ cap = k := by omega
        clear hJ hr h
        by_cases hz : r2 = 0
        · rw [rdR_no hz]
          subst hz
          go_enter Try.func21, Try.ntmps21
          go_wp2_with (first | (go_at_call 47; refine HA.out.mono ?_; rintro e w' ⟨rfl, rfl⟩) | (go_at_call 51; refine HJ.out.mono ?_; rintro e w' ⟨rfl, rfl⟩))
          go_ret3
          exact ⟨rfl, rfl⟩
        · have hz' : (r2 == 0) = false := by simp [hz]
          by_cases hbig : 2000000 < r1
          · have d : decide (2000000 < r1) = true := decide_eq_true hbig
            rw [rdR_big hz hbig]
            go_enter Try.func21, Try.ntmps21
            go_wp2_with (first | (go_at_call 47; refine HA.out.mono ?_; rintro e w' ⟨rfl, rfl⟩) | (go_at_call 51; refine HJ.out.mono ?_; rintro e w' ⟨rfl, rfl⟩))
            go_ret3
            exact ⟨rfl, rfl⟩
          · have hU := impl_UnfoldNumber r1 w ⟨by omega, by omega⟩
            rw [unfoldN_in (by omega) hbig] at hU
            have HU := Lib.hid hU
            rw [rdR_yes hz hbig]
            clear hU hz
            go_enter Try.func21, Try.ntmps21
            go_wp2_with (first | (go_at_call 47; refine HA.out.mono ?_; rintro e w' ⟨rfl, rfl⟩) | (go_at_call 51; refine HJ.out.mono ?_; rintro e w' ⟨rfl, rfl⟩) | (go_at_call 52; refine HU.out.mono ?_; rintro e w' ⟨rfl, rfl⟩))
            go_ret3
            exact ⟨rfl, rfl⟩
      · rw [List.drop_eq_nil_of_le (by omega), rdR_no rfl]
        go_enter Try.func21, Try.ntmps21
        go_wp2_with (first | (go_at_call 47; refine HA.out.mono ?_; rintro e w' ⟨rfl, rfl⟩))
        go_ret3
        exact ⟨rfl, rfl⟩
  · have hok' : okBs xs = false := by simpa using hok
    rw [rdV_bad hok']
    rw [hok'] at hA
    have HA := Lib.hid hA
    clear hA
    go_enter Try.func21, Try.ntmps21
    go_wp2_with (first | (go_at_call 47; refine HA.out.mono ?_; rintro e w' ⟨rfl, rfl⟩))
    go_ret3
    exact ⟨rfl, rfl⟩

theorem spec_l1From1 (q off n cap k : Nat) (a : Int) (w : World) (hl : n ≤ cap) (hm : cap ≤ 9223372036854775807) (hk : k < n) (hs : n ≤ 1000000000000)
    (c0 : w.cell? ⟨q, off + k, none⟩ = some (.int .i64 a)) (a0 : 0 ≤ a) (a1 : a < 128) :
    Calls Try.prog 64 #[.slice (some ⟨q, off, none⟩) n cap, .int .i64 k] w (FromRes (rdR k (a, 1)) w) := by
  rw [rdR_yes (by show ¬ (1 : Int) = 0; decide) (by show ¬ 2000000 < a; omega)]
  have HU := Lib.hid (spec_l1Unfold a w a0 (by omega))
  have e : a % 128 = a := by omega
  by_cases h0 : a = 0
  · subst h0
    go_enter Try.func64, Try.ntmps64
    go_wp2
    refine wp_loop_rounds 1 ?_
    rw [rounds_succ]
    go_wp2_with (first | (go_at_call 69; refine HU.out.mono ?_; rintro e w' ⟨rfl, rfl⟩))
    go_ret3
    exact ⟨rfl, rfl⟩
  · have h1 : (a == 0) = false := by simp [h0]
    have d : decide (2000000 < a) = false := decide_eq_false (by omega)
    go_enter Try.func64, Try.ntmps64
    go_wp2
    refine wp_loop_rounds 1 ?_
    rw [rounds_succ]
    go_wp2_with (first | (go_at_call 69; refine HU.out.mono ?_; rintro e w' ⟨rfl, rfl⟩))
    go_ret3
    exact ⟨rfl, rfl⟩

theorem spec_l1From2 (q off n cap k : Nat) (a b : Int) (w : World) (hl : n ≤ cap) (hm : cap ≤ 9223372036854775807) (hk : k + 1 < n) (hs : n ≤ 1000000000000)
    (c0 : w.cell? ⟨q, off + k, none⟩ = some (.int .i64 a)) (c1 : w.cell? ⟨q, off + (k + 1), none⟩ = some (.int .i64 b)) (a0 : 128 ≤ a) (a1 : a ≤ 255) (b0 : 0 ≤ b) (b1 : b < 128) :
    Calls Try.prog 64 #[.slice (some ⟨q, off, none⟩) n cap, .int .i64 k] w (FromRes (rdR k (joinV.joinV1 a [b])) w) := by
  have e : b % 128 = b := by omega
  have f0 : decide ((k : Int) < (k : Int) + 3) = true := decide_eq_true (by omega)
  have f1 : decide ((k : Int) + 1 < (k : Int) + 3) = true := decide_eq_true (by omega)
  have f2 : decide ((k : Int) < (k : Int) + 1) = true := decide_eq_true (by omega)
  have f3 : decide (k < n) = true := decide_eq_true (by omega)
  have f4 : decide ((k : Int) + 1 < (n : Int)) = true := decide_eq_true (by omega)
  by_cases h0 : b = 0
  · subst h0
    go_enter Try.func64, Try.ntmps64
    go_wp2
    refine wp_loop_rounds 2 ?_
    rw [rounds_succ]
    go_wp2_with fail
    rw [rounds_succ]
    go_wp2_with fail
    all_goals go_ret3
    all_goals exact ⟨rfl, rfl⟩
  · have h1 : (b == 0) = false := by simp [h0]
    rw [show joinV.joinV1 a [b] = (a % 128 + 128 * b, 2) from by simp [joinV.joinV1, b1, h0]; omega, rdR_yes (by show ¬ (2 : Int) = 0; decide) (by show ¬ 2000000 < a % 128 + 128 * b; omega)]
    have HU := Lib.hid (spec_l1Unfold (a % 128 + 128 * b) w (by omega) (by omega))
    have d : decide (2000000 < a % 128 + 128 * b) = false := decide_eq_false (by omega)
    go_enter Try.func64, Try.ntmps64
    go_wp2
    refine wp_loop_rounds 2 ?_
    rw [rounds_succ]
    go_wp2_with fail
    rw [rounds_succ]
    go_wp2_with (first | (go_at_call 69; refine HU.out.mono ?_; rintro e w' ⟨rfl, rfl⟩))
    all_goals go_ret3
    all_goals exact ⟨by simp; omega, rfl⟩

theorem spec_l1From3 (q off n cap k : Nat) (a b c : Int) (w : World) (hl : n ≤ cap) (hm : cap ≤ 9223372036854775807) (hk : k + 2 < n) (hs : n ≤ 1000000000000)
    (c0 : w.cell? ⟨q, off + k, none⟩ = some (.int .i64 a)) (c1 : w.cell? ⟨q, off + (k + 1), none⟩ = some (.int .i64 b)) (c2 : w.cell? ⟨q, off + (k + 1 + 1), none⟩ = some (.int .i64 c))
    (a0 : 128 ≤ a) (a1 : a ≤ 255) (b0 : 128 ≤ b) (b1 : b ≤ 255) (d0 : 0 ≤ c) (d1 : c ≤ 255) :
    Calls Try.prog 64 #[.slice (some ⟨q, off, none⟩) n cap, .int .i64 k] w (FromRes (rdR k (joinV.joinV2 a b [c])) w) := by
  have f0 : decide ((k : Int) < (k : Int) + 3) = true := decide_eq_true (by omega)
  have f1 : decide ((k : Int) + 1 < (k : Int) + 3) = true := decide_eq_true (by omega)
  have f2 : decide ((k : Int) + 1 + 1 < (k : Int) + 3) = true := decide_eq_true (by omega)
  have f3 : decide (k < n) = true := decide_eq_true (by omega)
  have f4 : decide ((k : Int) + 1 < (n : Int)) = true := decide_eq_true (by omega)
  have f5 : decide ((k : Int) + 1 + 1 < (n : Int)) = true := decide_eq_true (by omega)
  have f6 : decide ((k : Int) < (k : Int) + 1 + 1) = true := decide_eq_true (by omega)
  have f7 : decide ((k : Int) + 1 + 1 + 1 < (k : Int) + 3) = false := decide_eq_false (by omega)
  by_cases h : c < 128
  · by_cases h0 : c = 0
    · subst h0
      go_enter Try.func64, Try.ntmps64
      go_wp2
      refine wp_loop_rounds 3 ?_
      rw [rounds_succ]
      go_wp2_with fail
      rw [rounds_succ]
      go_wp2_with fail
      rw [rounds_succ]
      go_wp2_with fail
      all_goals go_ret3
      all_goals exact ⟨rfl, rfl⟩
    · have h1 : (c == 0) = false := by simp [h0]
      have e : c % 128 = c := by omega
      rw [show joinV.joinV2 a b [c] = (a % 128 + 128 * (b % 128) + 16384 * c, 3) from by simp [joinV.joinV2, h, h0]; omega]
      by_cases hbig : 2000000 < a % 128 + 128 * (b % 128) + 16384 * c
      · rw [rdR_big (by show ¬ (3 : Int) = 0; decide) hbig]
        have d : decide (2000000 < a % 128 + 128 * (b % 128) + 16384 * c) = true := decide_eq_true (by omega)
        go_enter Try.func64, Try.ntmps64
        go_wp2
        refine wp_loop_rounds 3 ?_
        rw [rounds_succ]
        go_wp2_with fail
        rw [rounds_succ]
        go_wp2_with fail
        rw [rounds_succ]
        go_wp2_with fail
        all_goals go_ret3
        all_goals exact ⟨rfl, rfl⟩
      · rw [rdR_yes (by show ¬ (3 : Int) = 0; decide) hbig]
        have HU := Lib.hid (spec_l1Unfold (a % 128 + 128 * (b % 128) + 16384 * c) w (by omega) (by omega))
        have d : decide (2000000 < a % 128 + 128 * (b % 128) + 16384 * c) = false := decide_eq_false (by omega)
        go_enter Try.func64, Try.ntmps64
        go_wp2
        refine wp_loop_rounds 3 ?_
        rw [rounds_succ]
        go_wp2_with fail
        rw [rounds_succ]
        go_wp2_with fail
        rw [rounds_succ]
        go_wp2_with (first | (go_at_call 69; refine HU.out.mono ?_; rintro e w' ⟨rfl, rfl⟩))
        all_goals go_ret3
        all_goals exact ⟨by simp; omega, rfl⟩
  · rw [show joinV.joinV2 a b [c] = (0, 0) from by simp [joinV.joinV2, h], rdR_no rfl]
    go_enter Try.func64, Try.ntmps64
    go_wp2
    refine wp_loop_rounds 4 ?_
    rw [rounds_succ]
    go_wp2_with fail
    rw [rounds_succ]
    go_wp2_with fail
    rw [rounds_succ]
    go_wp2_with fail
    rw [rounds_succ]
    go_wp2_with fail
    all_goals go_ret3
    all_goals exact ⟨rfl, rfl⟩

theorem spec_l1FromE1 (q off cap k : Nat) (a : Int) (w : World) (hl : k + 1 ≤ cap) (hm : cap ≤ 9223372036854775807) (hs : k ≤ 1000000000000)
    (c0 : w.cell? ⟨q, off + k, none⟩ = some (.int .i64 a)) (a0 : 128 ≤ a) (a1 : a ≤ 255) :
    Calls Try.prog 64 #[.slice (some ⟨q, off, none⟩) (k + 1) cap, .int .i64 k] w (FromRes (0, 0, false) w) := by
  have f0 : decide ((k : Int) < (k : Int) + 3) = true := decide_eq_true (by omega)
  have f4 : decide (k < k + 1) = true := decide_eq_true (by omega)
  go_enter Try.func64, Try.ntmps64
  go_wp2
  refine wp_loop_rounds 2 ?_
  rw [rounds_succ]
  go_wp2_with fail
  rw [rounds_succ]
  go_wp2_with fail
  all_goals go_ret3
  all_goals exact ⟨rfl, rfl⟩

theorem spec_l1FromE2 (q off cap k : Nat) (a b : Int) (w : World) (hl : k + 2 ≤ cap) (hm : cap ≤ 9223372036854775807) (hs : k ≤ 1000000000000)
    (c0 : w.cell? ⟨q, off + k, none⟩ = some (.int .i64 a)) (c1 : w.cell? ⟨q, off + (k + 1), none⟩ = some (.int .i64 b)) (a0 : 128 ≤ a) (a1 : a ≤ 255) (b0 : 128 ≤ b) (b1 : b ≤ 255) :
    Calls Try.prog 64 #[.slice (some ⟨q, off, none⟩) (k + 2) cap, .int .i64 k] w (FromRes (0, 0, false) w) := by
  have f0 : decide ((k : Int) < (k : Int) + 3) = true := decide_eq_true (by omega)
  have f1 : decide ((k : Int) + 1 < (k : Int) + 3) = true := decide_eq_true (by omega)
  have f3 : decide (k < k + 2) = true := decide_eq_true (by omega)
  have f4 : decide ((k : Int) + 1 < (k : Int) + 2) = true := decide_eq_true (by omega)
  go_enter Try.func64, Try.ntmps64
  go_wp2
  refine wp_loop_rounds 3 ?_
  rw [rounds_succ]
  go_wp2_with fail
  rw [rounds_succ]
  go_wp2_with fail
  rw [rounds_succ]
  go_wp2_with fail
  all_goals go_ret3
  all_goals exact ⟨rfl, rfl⟩

theorem spec_l1FromE0 (x : Option Addr) (n cap k : Nat) (w : World) (hk : n ≤ k) (hm : n ≤ 9223372036854775807) :
    Calls Try.prog 64 #[.slice x n cap, .int .i64 k] w (FromRes (0, 0, false) w) := by
  have f4 : decide (k < n) = false := decide_eq_false (by omega)
  go_enter Try.func64, Try.ntmps64
  go_wp2
  refine wp_loop_rounds 1 ?_
  rw [rounds_succ]
  go_wp2_with fail
  all_goals go_ret3
  all_goals exact ⟨rfl, rfl⟩

theorem spec_l1From (v : Value) (xs : List Int) (k : Nat) (w : World) (h : Ints w v xs) (hok : okBs xs = true) (hs : xs.length ≤ 1000000000000) :
    Calls Try.prog 64 #[v, .int .i64 k] w (FromRes (rdR k (joinV (xs.drop k))) w) := by
  obtain ⟨a, cap, rfl, hl, hm, hc⟩ := h
  unfold maxLen at hm
  by_cases hlt : k < xs.length
  · obtain ⟨q, off, rfl, hcell⟩ := hc (by omega)
    have hL : (xs.drop k).length = xs.length - k := List.length_drop
    have hg : ∀ i, (xs.drop k).getD i 0 = xs.getD (k + i) 0 := fun i => by simp [List.getD]
    obtain ⟨ys, hy⟩ : ∃ ys, xs.drop k = ys := ⟨_, rfl⟩
    have hB := okBs_at (okBs_drop hok k)
    rw [hy] at hL hg hB ⊢
    match ys, hL, hg, hB with
    | [], hL, _, _ => simp at hL; omega
    | a :: t, hL, hg, hB =>
      have c0 := hcell k hlt
      have g0 := hg 0
      have r0 := hB 0 (by simp)
      simp only [List.getD_cons_zero, Nat.add_zero] at g0 r0
      rw [← g0] at c0
      simp only [List.length_cons] at hL
      by_cases ha : a < 128
      · rw [show joinV (a :: t) = (a, 1) from by simp [joinV, ha]]
        exact spec_l1From1 q off _ cap k a w hl hm hlt hs c0 r0.1 ha
      · rw [show joinV (a :: t) = joinV.joinV1 a t from by simp [joinV, ha]]
        match t, hL, hg, hB with
        | [], hL, _, _ =>
          have e : xs.length = k + 1 := by simp at hL; omega
          rw [e] at hl ⊢
          exact spec_l1FromE1 q off cap k a w hl hm (by omega) c0 (by omega) r0.2
        | b :: t, hL, hg, hB =>
          simp only [List.length_cons] at hL
          have c1 := hcell (k + 1) (by omega)
          have g1 := hg 1
          have r1 := hB 1 (by simp)
          simp only [List.getD_cons_zero, List.getD_cons_succ] at g1 r1
          rw [← g1] at c1
          by_cases hb : b < 128
          · rw [show joinV.joinV1 a (b :: t) = joinV.joinV1 a [b] from by simp [joinV.joinV1, hb]]
            exact spec_l1From2 q off _ cap k a b w hl hm (by omega) hs c0 c1 (by omega) r0.2 r1.1 hb
          · rw [show joinV.joinV1 a (b :: t) = joinV.joinV2 a b t from by simp [joinV.joinV1, hb]]
            match t, hL, hg, hB with
            | [], hL, _, _ =>
              have e : xs.length = k + 2 := by simp at hL; omega
              rw [e] at hl ⊢
              exact spec_l1FromE2 q off cap k a b w hl hm (by omega) c0 c1 (by omega) r0.2 (by omega) r1.2
            | c :: t, hL, hg, hB =>
              simp only [List.length_cons] at hL
              have c2 := hcell (k + 1 + 1) (by omega)
              have g2 := hg 2
              have r2 := hB 2 (by simp)
              simp only [List.getD_cons_zero, List.getD_cons_succ] at g2 r2
              rw [← g2] at c2
              rw [show joinV.joinV2 a b (c :: t) = joinV.joinV2 a b [c] from by simp [joinV.joinV2]]
              exact spec_l1From3 q off _ cap k a b c w hl hm (by omega) hs c0 c1 c2 (by omega) r0.2 (by omega) r1.2 r2.1 r2.2
  · rw [List.drop_eq_nil_of_le (by omega), show joinV [] = (0, 0) from rfl, rdR_no rfl]
    exact spec_l1FromE0 a _ cap k w (by omega) (by omega)

end Go.Proofs.Ytkkfnpcldogglaa
