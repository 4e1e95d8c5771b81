/- Chapter 33: how many batches are kept, by their size. -/
import Derived.Test.YtfapeppocfodpaaWR
import Derived.Test.YtfapeppocfodpaaWXL
namespace Go.Proofs.Ytfapeppocfodpaa
open Go.ChangeShapes Go.WideShapes Go.ChangeAt Go.RowKit
set_option linter.unusedVariables false

/-- r is the first place from which on P holds, but the last one if there is none -/
def KeepIs (P : Nat → Prop) (n r : Nat) : Prop := (∀ j, j < r → ¬ P j) ∧ (r + 1 < n → P r) ∧ r ≤ n - 1
theorem KeepIs.uniq {P : Nat → Prop} {n r s : Nat} (h : KeepIs P n r) (g : KeepIs P n s) : r = s := by
  obtain ⟨h1, h2, h3⟩ := h
  obtain ⟨g1, g2, g3⟩ := g
  rcases Nat.lt_trichotomy r s with q | q | q
  · exact absurd (h2 (by omega)) (g1 r q)
  · exact q
  · exact absurd (g2 (by omega)) (h1 s q)
/-- the answer: a place, or -1 -/
def KeepAns (ok : Bool) (P : Nat → Prop) (n : Nat) (w : World) (e : Ending) (w' : World) : Prop :=
  ∃ r : Int, e = .returned (.int .i64 r) ∧ Below w.heap.size w w' ∧ ((ok = false ∧ r = -1) ∨ (ok = true ∧ ∃ k : Nat, r = (k : Int) ∧ KeepIs P n k))
theorem Bats.from' {w : World} {a : Option Addr} {n cap : Nat} {bs : List Bat} (h : Bats w (.slice a n cap) bs) (k : Nat) (hk : k ≤ n) : Bats w (.slice (if cap = k then a else a.map (·.add (k * 6))) (n - k) (cap - k)) (bs.drop k) := by
  obtain ⟨a', cap', e, h1, h2, hc⟩ := h
  simp only [Value.slice.injEq] at e
  obtain ⟨rfl, rfl, rfl⟩ := e
  refine ⟨_, _, by rw [List.length_drop], by rw [List.length_drop]; omega, by omega, fun h0 => ?_⟩
  rw [List.length_drop] at h0
  obtain ⟨b, off, rfl, hcell⟩ := hc (by omega)
  refine ⟨b, off + k * 6, by rw [if_neg (by omega), Option.map_some, Addr.add_lit], fun i hi => ?_⟩
  rw [List.length_drop] at hi
  obtain ⟨rv, hr⟩ := hcell (k + i) (by omega)
  have e1 : batN (bs.drop k) i = batN bs (k + i) := by unfold batN; simp [List.getD]
  have e2 : off + k * 6 + i * 6 = off + (k + i) * 6 := by omega
  rw [e1, e2]
  exact ⟨rv, hr⟩
theorem run_fromB {w : World} {a : Option Addr} {n cap : Nat} {bs : List Bat} (h : Bats w (.slice a n cap) bs) (k : Nat) (hk : k ≤ n) :
    ∃ u, (∀ W : World, (Instr.slice 28 (.slice a n cap) (some (.int .i64 (k : Int))) none none).run Try.prog W = .ok u W) ∧ ∀ W, Bats W (.slice a n cap) bs → Bats W u (bs.drop k) := by
  obtain ⟨a', cap', e, h1, h2, hc⟩ := h
  simp only [Value.slice.injEq] at e
  obtain ⟨rfl, rfl, rfl⟩ := e
  refine ⟨.slice (if cap = k then a else a.map (·.add (k * 6))) (bs.length - k) (cap - k), fun W => ?_, fun W hW => hW.from' k hk⟩
  simp [Instr.slice, run_underlying Try.underlying28, Instr.sliceBounds, Instr.sliceBound, asIntOf]
  omega
--@walks
theorem batN_drop (bs : List Bat) (k i : Nat) : batN (bs.drop k) i = batN bs (k + i) := by unfold batN; simp [List.getD]
theorem impl_Size (m : Int) (u : Value) (bs : List Bat) (k : Nat) (W : World) (h : Bats W u (bs.drop k)) (hk : k < bs.length) (hs : bs.length ≤ 1000000) (hb : ∀ i, i < bs.length → batOk (batN bs i) = true) : Calls Try.prog 47 #[.int .i64 m, u] W (SaysB (decide (sizeI (bs.drop k) ≤ m)) W) := by
  have C1 := Lib.hid (impl_sizeOf u (bs.drop k) W h (by rw [List.length_drop]; omega) (fun i hi => by rw [List.length_drop] at hi; rw [batN_drop]; exact hb _ (by omega)))
  obtain ⟨z, hz⟩ : ∃ z, sizeI (bs.drop k) = z := ⟨_, rfl⟩
  rw [hz] at C1 ⊢
  clear hz h hb
  go_enter Try.func47, Try.ntmps47
  go_wp2_with fail
  refine C1.out.mono ?_
  rintro e w1 ⟨rfl, b1⟩
  go_wp2_with fail
  go_ret
  exact ⟨rfl, b1⟩
set_option maxHeartbeats 2000000 in
theorem impl_firstKeptSize (m : Int) (pb : Nat → Bool) (v : Value) (bs : List Bat) (w : World) (h : Bats w v bs) (hs : bs.length ≤ 1000000) (hC : ∀ W u k, k < bs.length → Bats W u (bs.drop k) → Calls Try.prog 47 #[.int .i64 m, u] W (SaysB (pb k) W)) :
    Calls Try.prog 46 #[v, .func (.func 47) #[.int .i64 m] #[]] w (KeepAns true (fun i => pb i = true) bs.length w) := by
  have hv := h
  obtain ⟨a, cap, rfl, hl, hmx, hc⟩ := h
  unfold maxLen at hmx
  clear hc
  have C1 := Lib.hid hC
  clear hC
  go_enter Try.func46, Try.ntmps46
  go_wp2_with fail
  go_loopw [8] (fun i wr => ∃ k : Nat, k ≤ bs.length ∧ i = .int .i64 k ∧ Hid (∀ j, j < k → pb j = false) ∧ Below w.heap.size w wr) (fun i _ => bs.length - (intOf i).toNat)
  case atStart => exact ⟨0, Nat.zero_le _, rfl, Lib.hid fun j hj => by omega, Below.refl _ _⟩
  case round =>
    obtain ⟨k, hk, rfl, hno, bel⟩ := hrel
    by_cases hlt : k < bs.length
    · have hB := hv.below bel
      obtain ⟨u, hu, hu2⟩ := run_fromB hB k (by omega)
      have D1 := Lib.hid (C1.out wr u k hlt (hu2 wr hB))
      have i0 : (0 : Int) ≤ (k : Int) := by omega
      have i1 : (k : Int) < (bs.length : Int) := by omega
      obtain ⟨pv, hpb⟩ : ∃ pv, pb k = pv := ⟨_, rfl⟩
      rw [hpb] at D1
      have HPB := Lib.hid hpb
      clear hpb hu2
      go_wp2_with fail
      refine D1.out.mono ?_
      rintro e w2 ⟨rfl, b2⟩
      have B2 := Bstep bel b2
      cases pv with
      | true =>
        go_wp2_with fail
        go_ret
        exact ⟨_, rfl, B2, .inr ⟨rfl, k, rfl, fun j hj => by show ¬ pb j = true; rw [hno.out j hj]; decide, fun _ => HPB.out, by omega⟩⟩
      | false =>
        go_wp2_with fail
        go_roundw
        case rel => exact ⟨k + 1, by omega, by go_num, Lib.hid (fun j hj => if q : j < k then hno.out j q else by rw [show j = k by omega]; exact HPB.out), B2⟩
        case measure => simp [intOf]; omega
    · obtain rfl : k = bs.length := by omega
      by_cases h0 : bs.length = 0
      · have d1 : decide ((bs.length : Int) - 1 < 0) = true := decide_eq_true (by omega)
        have d2 : decide ((bs.length : Int) < 1) = true := decide_eq_true (by omega)
        go_wp2_with fail
        go_ret
        exact ⟨_, rfl, bel, .inr ⟨rfl, 0, (by first | rfl | (simp; omega)), fun j hj => by omega, fun q => by omega, by omega⟩⟩
      · have d1 : decide ((bs.length : Int) - 1 < 0) = false := decide_eq_false (by omega)
        have d2 : decide ((bs.length : Int) < 1) = false := decide_eq_false (by omega)
        go_wp2_with fail
        go_ret
        exact ⟨_, rfl, bel, .inr ⟨rfl, bs.length - 1, (by first | (simp; omega) | omega), fun j hj => by show ¬ pb j = true; rw [hno.out j (by omega)]; decide, fun q => by omega, by omega⟩⟩

/-- batches are kept by their size -/
def keepSz (bs : List Bat) (m : Int) (i : Nat) : Bool := decide (sizeI (bs.drop i) ≤ m)
theorem logOk_len {bs : List Bat} (h : logOk bs = true) : bs.length ≤ 8 := (logOk_iff.1 h).1
set_option maxHeartbeats 2000000 in
theorem impl_KeepSize (v : Value) (bs : List Bat) (m : Int) (w : World) (h : Bats w v bs) (hm : I64 m) : Calls Try.prog 26 #[v, .int .i64 m] w (KeepAns (logOk bs && (decide (0 ≤ m) && decide (m ≤ 99999))) (fun i => keepSz bs m i = true) bs.length w) := by
  have C1 := Lib.hid (impl_LogValid v bs w h)
  have C2 : Hid (logOk bs = true → ∀ W, Below w.heap.size w W → Calls Try.prog 46 #[v, .func (.func 47) #[.int .i64 m] #[]] W (KeepAns true (fun i => keepSz bs m i = true) bs.length W)) := Lib.hid fun ok W hW =>
    impl_firstKeptSize m (keepSz bs m) v bs W (h.below hW) (by have := logOk_len ok; omega) fun W u k hk hu => impl_Size m u bs k W hu hk (by have := logOk_len ok; omega) (logOk_bat ok)
  obtain ⟨a, cap, rfl, hl, hmx, hc⟩ := h
  obtain ⟨ok, hok⟩ : ∃ ok, logOk bs = ok := ⟨_, rfl⟩
  rw [hok] at C1 C2 ⊢
  clear hc hok
  by_cases h0 : 0 ≤ m
  · have d0 : decide (0 ≤ m) = true := decide_eq_true h0
    have d0' : decide (m < 0) = false := decide_eq_false (by omega)
    by_cases h1 : m ≤ 99999
    · have d1 : decide (m ≤ 99999) = true := decide_eq_true h1
      have d1' : decide (99999 < m) = false := decide_eq_false (by omega)
      rw [d0, d1]
      clear h0 h1
      go_enter Try.func26, Try.ntmps26
      go_wp2_with fail
      refine C1.out.mono ?_
      rintro e w1 ⟨rfl, b1⟩
      cases ok with
      | false =>
        go_wp2_with fail
        go_ret
        exact ⟨_, rfl, b1, .inl ⟨rfl, rfl⟩⟩
      | true =>
        have D2 := Lib.hid (C2.out (by trivial) w1 b1)
        clear C2
        go_wp2_with fail
        refine D2.out.mono ?_
        rintro e w2 ⟨r, rfl, b2, hr⟩
        have hr2 := hr
        go_wp2_with fail
        go_ret
        refine ⟨r, rfl, Bstep b1 b2, ?_⟩
        rcases hr2 with ⟨q, _⟩ | ⟨_, k, e, hk⟩
        · cases q
        · exact .inr ⟨rfl, k, e, hk⟩
    · have d1 : decide (m ≤ 99999) = false := decide_eq_false h1
      have d1' : decide (99999 < m) = true := decide_eq_true (by omega)
      rw [d0, d1]
      clear C2 h0 h1
      go_enter Try.func26, Try.ntmps26
      go_wp2_with fail
      refine C1.out.mono ?_
      rintro e w1 ⟨rfl, b1⟩
      cases ok
      all_goals
        go_wp2_with fail
        go_ret
        exact ⟨_, rfl, b1, .inl ⟨rfl, rfl⟩⟩
  · have d0 : decide (0 ≤ m) = false := decide_eq_false h0
    have d0' : decide (m < 0) = true := decide_eq_true (by omega)
    rw [d0]
    clear C2 h0
    go_enter Try.func26, Try.ntmps26
    go_wp2_with fail
    refine C1.out.mono ?_
    rintro e w1 ⟨rfl, b1⟩
    cases ok
    all_goals
      go_wp2_with fail
      go_ret
      exact ⟨_, rfl, b1, .inl ⟨rfl, rfl⟩⟩
set_option maxHeartbeats 2000000 in
theorem spec_KeepSize (v : Value) (bs : List Bat) (m : Int) (w : World) (h : Bats w v bs) (hbs : bs.length ≤ 1000000000) : Calls Try.prog 25 #[v, .int .i64 m] w (KeepAns (logOk bs && (decide (0 ≤ m) && decide (m ≤ 99999))) (fun i => keepSz bs m i = true) bs.length w) := by
  have hv := h
  have C1 := Lib.hid (spec_LogValid v bs w h hbs)
  have C2 : Hid (∀ W, Calls Try.prog 43 #[.int .i64 m, .int .i64 0, .int .i64 99999] W fun e w' => e = .returned (.bool (inR m 0 99999)) ∧ W = w') := Lib.hid fun W => spec_l6In m 0 99999 W
  have C3 : Hid (logOk bs = true → ∀ W u k, k < bs.length → Bats W u (bs.drop k) → Calls Try.prog 44 #[u] W (SaysI (sizeI (bs.drop k)) W)) := Lib.hid fun ok W u k hk hu => spec_l33Size u _ W hu (by rw [List.length_drop]; omega) (fun i hi => by rw [List.length_drop] at hi; rw [batN_drop]; exact logOk_bat ok _ (by omega))
  show Calls Try.prog 25 _ w (KeepAns (logOk bs && inR m 0 99999) (fun i => keepSz bs m i = true) bs.length w)
  obtain ⟨a, cap, rfl, hl, hmx, hc⟩ := h
  unfold maxLen at hmx
  obtain ⟨ok, hok⟩ : ∃ ok, logOk bs = ok := ⟨_, rfl⟩
  obtain ⟨ir, hir⟩ : ∃ ir, inR m 0 99999 = ir := ⟨_, rfl⟩
  have h8 := Lib.hid (fun q : ok = true => logOk_len (hok.trans q))
  rw [hok] at C1 C3 ⊢
  rw [hir] at C2 ⊢
  clear hc hok hir
  go_enter Try.func25, Try.ntmps25
  go_wp2_with fail
  refine C1.out.mono ?_
  rintro e w1 ⟨rfl, b1⟩
  cases ok with
  | false =>
    go_wp2_with fail
    go_ret
    exact ⟨_, rfl, b1, .inl ⟨rfl, rfl⟩⟩
  | true =>
  go_wp2_with fail
  refine (C2.out w1).mono ?_
  rintro e w1' ⟨rfl, rfl⟩
  cases ir with
  | false =>
    go_wp2_with fail
    go_ret
    exact ⟨_, rfl, b1, .inl ⟨rfl, rfl⟩⟩
  | true =>
  have hl8 := h8.out (by trivial)
  have D3 : Hid (∀ W u k, k < bs.length → Bats W u (bs.drop k) → Calls Try.prog 44 #[u] W (SaysI (sizeI (bs.drop k)) W)) := Lib.hid (C3.out (by trivial))
  clear C3 h8
  go_wp2_with fail
  go_loopw [5] (fun i wr => ∃ k : Nat, (k ≤ bs.length - 1) ∧ i = .int .i64 k ∧ Hid (∀ j, j < k → keepSz bs m j = false) ∧ Below w.heap.size w wr) (fun i _ => bs.length - (intOf i).toNat)
  case atStart => exact ⟨0, Nat.zero_le _, rfl, Lib.hid fun j hj => by omega, b1⟩
  case round =>
    clear b1
    obtain ⟨k, hk, rfl, hno, bel⟩ := hrel
    by_cases hlt : k + 1 < bs.length
    · have dlt : decide ((k : Int) + 1 < (bs.length : Int)) = true := decide_eq_true (by omega)
      have hB := hv.below bel
      obtain ⟨u, hu, hu2⟩ := run_fromB hB k (by omega)
      have D1 := Lib.hid (D3.out wr u k (by omega) (hu2 wr hB))
      have i0 : (0 : Int) ≤ (k : Int) := by omega
      have i1 : (k : Int) < (bs.length : Int) := by omega
      obtain ⟨z, hz⟩ : ∃ z, sizeI (bs.drop k) = z := ⟨_, rfl⟩
      have hsb : keepSz bs m k = decide (z ≤ m) := by unfold keepSz; rw [hz]
      rw [hz] at D1
      have HSB := Lib.hid hsb
      clear hz hu2 hsb
      go_wp2_with fail
      refine D1.out.mono ?_
      rintro e w2 ⟨rfl, b2⟩
      have B2 := Bstep bel b2
      by_cases hzm : m < z
      · have dz : decide (m < z) = true := decide_eq_true hzm
        have hs2 := HSB.out
        rw [decide_eq_false (by omega)] at hs2
        have HS2 := Lib.hid hs2
        clear HSB hs2 hzm
        go_wp2_with fail
        go_roundw
        case rel => exact ⟨k + 1, by omega, by go_num, Lib.hid (fun j hj => if q : j < k then hno.out j q else by rw [show j = k by omega]; exact HS2.out), B2⟩
        case measure => simp [intOf]; omega
      · have dz : decide (m < z) = false := decide_eq_false hzm
        have hs2 := HSB.out
        rw [decide_eq_true (by omega)] at hs2
        have HS2 := Lib.hid hs2
        clear HSB hs2 hzm
        go_wp2_with fail
        go_ret
        exact ⟨_, rfl, B2, .inr ⟨rfl, k, rfl, fun j hj => by show ¬ keepSz bs m j = true; rw [hno.out j hj]; decide, fun _ => HS2.out, by omega⟩⟩
    · have dlt : decide ((k : Int) + 1 < (bs.length : Int)) = false := decide_eq_false (by omega)
      go_wp2_with fail
      go_ret
      exact ⟨_, rfl, bel, .inr ⟨rfl, k, rfl, fun j hj => by show ¬ keepSz bs m j = true; rw [hno.out j hj]; decide, fun q => by omega, by omega⟩⟩
end Go.Proofs.Ytfapeppocfodpaa
