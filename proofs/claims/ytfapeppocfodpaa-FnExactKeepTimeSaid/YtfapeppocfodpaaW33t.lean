/- Chapter 33: how many batches are kept, by their time. -/
import Derived.Test.YtfapeppocfodpaaW33k
namespace Go.Proofs.Ytfapeppocfodpaa
open Go.ChangeShapes Go.WideShapes Go.ChangeAt Go.RowKit
set_option linter.unusedVariables false

/-- the latest time of the first k records, 0 ahead of all -/
def mostT (rs : List Rec) : Nat → Int
  | 0 => 0
  | k + 1 => max (mostT rs k) (recAt rs k).time
theorem mostT_zero (rs : List Rec) : mostT rs 0 = 0 := rfl
theorem mostT_next (rs : List Rec) (k : Nat) : mostT rs (k + 1) = max (mostT rs k) (recAt rs k).time := rfl
theorem mostT_ge (rs : List Rec) {k j : Nat} (h : j < k) : (recAt rs j).time ≤ mostT rs k := by
  induction k with
  | zero => omega
  | succ k ih =>
    rw [mostT_next]
    by_cases q : j < k
    · have := ih q; omega
    · rw [show j = k by omega]; omega
theorem mostT_lt (rs : List Rec) {t : Int} (h0 : 0 < t) {k : Nat} (h : ∀ j, j < k → (recAt rs j).time < t) : mostT rs k < t := by
  induction k with
  | zero => rw [mostT_zero]; exact h0
  | succ k ih =>
    rw [mostT_next]
    have := ih fun j hj => h j (by omega)
    have := h k (by omega)
    omega
/-- a batch has a record that is not earlier than a time -/
def lateX (t : Int) (x : Bat) : Bool := decide (t ≤ mostT x.recs x.recs.length)
def lateB (bs : List Bat) (t : Int) (i : Nat) : Bool := lateX t (batN bs i)
theorem batOk_time {x : Bat} (h : batOk x = true) (i : Nat) (hi : i < x.recs.length) : 0 ≤ (recAt x.recs i).time ∧ (recAt x.recs i).time ≤ 99999 := by
  have h1 := ordOk_iff.1 (batOk_iff.1 h).2.2.2 i hi
  unfold stepOk at h1
  rw [Bool.and_eq_true] at h1
  have h2 := h1.1
  unfold recOk at h2
  simp only [Bool.and_eq_true, inR_iff] at h2
  exact h2.1.1.2
/-- a place, or a number below 0 -/
def FoundI (lb : Bool) (w : World) (e : Ending) (w' : World) : Prop := ∃ r : Int, e = .returned (.int .i64 r) ∧ ((lb = true ∧ 0 ≤ r) ∨ (lb = false ∧ r < 0)) ∧ Below w.heap.size w w'
theorem impl_late1 (t : Int) (X : Nat) (rv : Value) (r : Rec) (W : World) (h : RecV W rv r) (hx : W.cell? ⟨X, 0, none⟩ = some (.int .i64 t)) : Calls Try.prog 65 #[rv, .pointer (some ⟨X, 0, none⟩)] W (SaysB (decide (t ≤ r.time)) W) := by
  obtain ⟨kv, vv, rfl, hk, hv⟩ := h
  obtain ⟨a1, k1, rfl, _, _, _⟩ := hk
  obtain ⟨a2, k2, rfl, _, _, _⟩ := hv
  have hX : X < W.heap.size := World.block_lt_of_cell? (a := ⟨X, 0, none⟩) W hx
  have bA := alloc_below' W (.cells #[.int .i64 r.off, .int .i64 r.time, .bool r.hk, .slice a1 r.key.length k1, .bool r.hv, .slice a2 r.val.length k2] 83)
  have xA := Blk.made W #[.int .i64 r.off, .int .i64 r.time, .bool r.hk, .slice a1 r.key.length k1, .bool r.hv, .slice a2 r.val.length k2] 83
  have hx2 := (World.cell?_of_block (a := ⟨X, 0, none⟩) (bA.block X hX)).trans hx
  obtain ⟨c0, c1, c2, c3, c4, c5⟩ := xA.sixC
  clear hx
  go_enter Try.func65, Try.ntmps65
  go_wp2_with fail
  go_ret
  exact ⟨rfl, bA⟩
set_option maxHeartbeats 2000000 in
theorem impl_IndexFunc (t : Int) (X : Nat) (v : Value) (rs : List Rec) (w : World) (h : Recs w v rs) (hx : w.cell? ⟨X, 0, none⟩ = some (.int .i64 t)) (h1 : 1 ≤ rs.length) (h0 : 0 ≤ (recAt rs 0).time) :
    Calls Try.prog 82 #[v, .func (.func 65) #[] #[.pointer (some ⟨X, 0, none⟩)]] w (FoundI (decide (t ≤ mostT rs rs.length)) w) := by
  have hv := h
  obtain ⟨a, cap, rfl, hl, hm, hc⟩ := h
  unfold maxLen at hm
  have hX : X < w.heap.size := World.block_lt_of_cell? (a := ⟨X, 0, none⟩) w hx
  have HC : Hid (∀ wr, Below w.heap.size w wr → wr.cell? ⟨X, 0, none⟩ = some (.int .i64 t)) := Lib.hid fun wr b => (World.cell?_of_block (a := ⟨X, 0, none⟩) (b.block X hX)).trans hx
  have H0 := Lib.hid h0
  obtain ⟨mt, hmt⟩ : ∃ mt, mostT rs rs.length = mt := ⟨_, rfl⟩
  have HG : Hid (∀ j, j < rs.length → (recAt rs j).time ≤ mt) := Lib.hid fun j hj => hmt ▸ mostT_ge rs hj
  have HL : Hid (0 < t → (∀ j, j < rs.length → (recAt rs j).time < t) → mt < t) := Lib.hid fun q hj => hmt ▸ mostT_lt rs q hj
  rw [hmt]
  clear hc hx h0 hmt
  go_enter Try.func82, Try.ntmps82
  go_wp2_with fail
  go_loopw [8] (fun i wr => ∃ k : Nat, k ≤ rs.length ∧ i = .int .i64 k ∧ Hid (∀ j, j < k → (recAt rs j).time < t) ∧ Below w.heap.size w wr) (fun i _ => rs.length - (intOf i).toNat)
  case atStart => exact ⟨0, Nat.zero_le _, rfl, Lib.hid fun j hj => by omega, Below.refl _ _⟩
  case round =>
    obtain ⟨k, hk, rfl, hno, bel⟩ := hrel
    by_cases hlt : k < rs.length
    · obtain ⟨b, off, cap', e, hm'⟩ := hv.form (by omega)
      simp only [Value.slice.injEq, true_and] at e
      obtain ⟨rfl, rfl⟩ := e
      have hvr := hv.below bel
      obtain ⟨r, a1, c1, a2, c2, Hr, hR⟩ := hvr.parts k hlt
      have D1 := impl_late1 t X _ r wr hR.recV (HC.out wr bel)
      obtain ⟨c0, c1', c2', c3, c4, c5, _, _⟩ := hR
      obtain ⟨pv, hpb⟩ : ∃ pv, decide (t ≤ r.time) = pv := ⟨_, rfl⟩
      rw [hpb] at D1
      have D1 := Lib.hid D1
      have HPB := Lib.hid hpb
      clear hpb hvr
      go_wp2_with fail
      refine D1.out.mono ?_
      rintro e w2 ⟨rfl, b2⟩
      have B2 := Bstep bel b2
      clear c0 c1' c2' c3 c4 c5
      cases pv with
      | true =>
        have hp := of_decide_eq_true HPB.out
        have hg := HG.out k hlt
        rw [Hr.out] at hg
        have Fin : Hid (decide (t ≤ mt) = true) := Lib.hid (decide_eq_true (by omega))
        clear hp hg
        go_wp2_with fail
        go_ret
        exact ⟨_, rfl, .inl ⟨Fin.out, by omega⟩, B2⟩
      | false =>
        have hp := of_decide_eq_false HPB.out
        have HN : Hid (∀ j, j < k + 1 → (recAt rs j).time < t) := Lib.hid fun j hj => if q : j < k then hno.out j q else by rw [show j = k by omega, Hr.out]; omega
        clear hp
        go_wp2_with fail
        go_roundw
        case rel => exact ⟨k + 1, by omega, by go_num, HN, B2⟩
        case measure => simp [intOf]; omega
    · obtain rfl : k = rs.length := by omega
      have Fin : Hid (decide (t ≤ mt) = false) := Lib.hid (decide_eq_false (by
        have q1 := hno.out 0 (by omega)
        have q2 := H0.out
        have q3 := HL.out (by omega) hno.out
        omega))
      go_wp2_with fail
      go_ret
      exact ⟨_, rfl, .inr ⟨Fin.out, by omega⟩, bel⟩
theorem impl_ContainsFunc (t : Int) (X : Nat) (v : Value) (rs : List Rec) (w : World) (h : Recs w v rs) (hx : w.cell? ⟨X, 0, none⟩ = some (.int .i64 t)) (h1 : 1 ≤ rs.length) (h0 : 0 ≤ (recAt rs 0).time) :
    Calls Try.prog 64 #[v, .func (.func 65) #[] #[.pointer (some ⟨X, 0, none⟩)]] w (SaysB (decide (t ≤ mostT rs rs.length)) w) := by
  have C1 := impl_IndexFunc t X v rs w h hx h1 h0
  obtain ⟨a, cap, rfl, hl, hm, hc⟩ := h
  obtain ⟨lb, hlb⟩ : ∃ lb, decide (t ≤ mostT rs rs.length) = lb := ⟨_, rfl⟩
  rw [hlb] at C1 ⊢
  have C1 := Lib.hid C1
  clear hc hx h1 h0 hlb
  go_enter Try.func64, Try.ntmps64
  go_wp2_with fail
  refine C1.out.mono ?_
  rintro e w1 ⟨r, rfl, hr, b1⟩
  rcases hr with ⟨rfl, hr⟩ | ⟨rfl, hr⟩
  · have d : decide (0 ≤ r) = true := decide_eq_true hr
    clear hr
    go_wp2_with fail
    go_ret
    exact ⟨rfl, b1⟩
  · have d : decide (0 ≤ r) = false := decide_eq_false (by omega)
    clear hr
    go_wp2_with fail
    go_ret
    exact ⟨rfl, b1⟩
set_option maxHeartbeats 2000000 in
theorem impl_Time (t : Int) (u : Value) (bs : List Bat) (k : Nat) (W : World) (h : Bats W u (bs.drop k)) (hk : k < bs.length) (hb : ∀ i, i < bs.length → batOk (batN bs i) = true) : Calls Try.prog 49 #[.int .i64 t, u] W (SaysB (lateB bs t k) W) := by
  have hlen : (bs.drop k).length = bs.length - k := List.length_drop
  have hok := hb k hk
  have he : lateB bs t k = lateX t (batN (bs.drop k) 0) := by unfold lateB; rw [batN_drop, Nat.add_zero]
  have hok2 : batOk (batN (bs.drop k) 0) = true := by rw [batN_drop, Nat.add_zero]; exact hok
  rw [he]
  obtain ⟨cs, hcs⟩ : ∃ cs, bs.drop k = cs := ⟨_, rfl⟩
  rw [hcs] at h hlen hok2 ⊢
  clear hcs he hok hb
  have hv := h
  obtain ⟨b, off, cap, rfl, hm⟩ := hv.form (by omega)
  obtain ⟨x, a1, c1, Hr, hR⟩ := h.parts 0 (by omega)
  rw [Hr.out] at hok2 ⊢
  have bA := alloc_below' W (.cells #[.int .i64 t] 76)
  have xA := Blk.made W #[.int .i64 t] 76
  have hR1 := (hR.below bA)
  have hrecs : Recs (W.alloc (.cells #[.int .i64 t] 76)) (.slice a1 x.recs.length c1) x.recs := by
    obtain ⟨_, _, e, hr, _, _⟩ := hR1.batV.parts
    simp only [Value.agg.injEq, Array.mk.injEq, List.cons.injEq, Value.slice.injEq, true_and, and_true] at e
    obtain ⟨rfl, rfl⟩ := e
    exact hr
  have C1 := Lib.hid (impl_ContainsFunc t W.heap.size _ x.recs _ hrecs (xA.cell 0) (batOk_iff.1 hok2).1.1 (batOk_time hok2 0 (by have := (batOk_iff.1 hok2).1.1; omega)).1)
  have h1 : 0 < cs.length := by omega
  obtain ⟨e0, e1, e2, e3, e4, e5, _⟩ := hR1
  rw [Nat.zero_mul, Nat.add_zero] at e0 e1 e2 e3 e4 e5
  show Calls Try.prog 49 _ W (SaysB (decide (t ≤ mostT x.recs x.recs.length)) W)
  obtain ⟨lb, hlb⟩ : ∃ lb, decide (t ≤ mostT x.recs x.recs.length) = lb := ⟨_, rfl⟩
  rw [hlb] at C1 ⊢
  clear hlb hrecs hR h hv hok2 Hr
  go_enter Try.func49, Try.ntmps49
  go_wp2_with fail
  refine C1.out.mono ?_
  rintro e w1 ⟨rfl, b1⟩
  go_wp2_with fail
  go_ret
  exact ⟨rfl, Bstep bA b1⟩
set_option maxHeartbeats 2000000 in
theorem impl_firstKeptTime (m : Int) (pb : Nat → Bool) (v : Value) (bs : List Bat) (w : World) (h : Bats w v bs) (hs : bs.length ≤ 1000000) (hC : ∀ W u k, k < bs.length → Bats W u (bs.drop k) → Calls Try.prog 49 #[.int .i64 m, u] W (SaysB (pb k) W)) :
    Calls Try.prog 46 #[v, .func (.func 49) #[.int .i64 m] #[]] w (KeepAns true (fun i => pb i = true) bs.length w) := by
  have hv := h
  obtain ⟨a, cap, rfl, hl, hmx, hc⟩ := h
  unfold maxLen at hmx
  clear hc
  have C1 := Lib.hid hC
  clear hC
  go_enter Try.func46, Try.ntmps46
  go_wp2_with fail
  go_loopw [8] (fun i wr => ∃ k : Nat, k ≤ bs.length ∧ i = .int .i64 k ∧ Hid (∀ j, j < k → pb j = false) ∧ Below w.heap.size w wr) (fun i _ => bs.length - (intOf i).toNat)
  case atStart => exact ⟨0, Nat.zero_le _, rfl, Lib.hid fun j hj => by omega, Below.refl _ _⟩
  case round =>
    obtain ⟨k, hk, rfl, hno, bel⟩ := hrel
    by_cases hlt : k < bs.length
    · have hB := hv.below bel
      obtain ⟨u, hu, hu2⟩ := run_fromB hB k (by omega)
      have D1 := Lib.hid (C1.out wr u k hlt (hu2 wr hB))
      have i0 : (0 : Int) ≤ (k : Int) := by omega
      have i1 : (k : Int) < (bs.length : Int) := by omega
      obtain ⟨pv, hpb⟩ : ∃ pv, pb k = pv := ⟨_, rfl⟩
      rw [hpb] at D1
      have HPB := Lib.hid hpb
      clear hpb hu2
      go_wp2_with fail
      refine D1.out.mono ?_
      rintro e w2 ⟨rfl, b2⟩
      have B2 := Bstep bel b2
      cases pv with
      | true =>
        go_wp2_with fail
        go_ret
        exact ⟨_, rfl, B2, .inr ⟨rfl, k, rfl, fun j hj => by show ¬ pb j = true; rw [hno.out j hj]; decide, fun _ => HPB.out, by omega⟩⟩
      | false =>
        go_wp2_with fail
        go_roundw
        case rel => exact ⟨k + 1, by omega, by go_num, Lib.hid (fun j hj => if q : j < k then hno.out j q else by rw [show j = k by omega]; exact HPB.out), B2⟩
        case measure => simp [intOf]; omega
    · obtain rfl : k = bs.length := by omega
      by_cases h0 : bs.length = 0
      · have d1 : decide ((bs.length : Int) - 1 < 0) = true := decide_eq_true (by omega)
        have d2 : decide ((bs.length : Int) < 1) = true := decide_eq_true (by omega)
        go_wp2_with fail
        go_ret
        exact ⟨_, rfl, bel, .inr ⟨rfl, 0, (by first | rfl | (simp; omega)), fun j hj => by omega, fun q => by omega, by omega⟩⟩
      · have d1 : decide ((bs.length : Int) - 1 < 0) = false := decide_eq_false (by omega)
        have d2 : decide ((bs.length : Int) < 1) = false := decide_eq_false (by omega)
        go_wp2_with fail
        go_ret
        exact ⟨_, rfl, bel, .inr ⟨rfl, bs.length - 1, (by first | (simp; omega) | omega), fun j hj => by show ¬ pb j = true; rw [hno.out j (by omega)]; decide, fun q => by omega, by omega⟩⟩
set_option maxHeartbeats 2000000 in
theorem impl_KeepTime (v : Value) (bs : List Bat) (m : Int) (w : World) (h : Bats w v bs) (hm : I64 m) : Calls Try.prog 28 #[v, .int .i64 m] w (KeepAns (logOk bs) (fun i => lateB bs m i = true) bs.length w) := by
  have C1 := Lib.hid (impl_LogValid v bs w h)
  have C2 : Hid (logOk bs = true → ∀ W, Below w.heap.size w W → Calls Try.prog 46 #[v, .func (.func 49) #[.int .i64 m] #[]] W (KeepAns true (fun i => lateB bs m i = true) bs.length W)) := Lib.hid fun ok W hW =>
    impl_firstKeptTime m (lateB bs m) v bs W (h.below hW) (by have := logOk_len ok; omega) fun W u k hk hu => impl_Time m u bs k W hu hk (logOk_bat ok)
  obtain ⟨a, cap, rfl, hl, hmx, hc⟩ := h
  obtain ⟨ok, hok⟩ : ∃ ok, logOk bs = ok := ⟨_, rfl⟩
  rw [hok] at C1 C2 ⊢
  clear hc hok
  go_enter Try.func28, Try.ntmps28
  go_wp2_with fail
  refine C1.out.mono ?_
  rintro e w1 ⟨rfl, b1⟩
  cases ok with
  | false =>
    go_wp2_with fail
    go_ret
    exact ⟨_, rfl, b1, .inl ⟨rfl, rfl⟩⟩
  | true =>
    have D2 := Lib.hid (C2.out (by trivial) w1 b1)
    clear C2
    go_wp2_with fail
    refine D2.out.mono ?_
    rintro e w2 ⟨r, rfl, b2, hr⟩
    have hr2 := hr
    go_wp2_with fail
    go_ret
    refine ⟨r, rfl, Bstep b1 b2, ?_⟩
    rcases hr2 with ⟨q, _⟩ | ⟨_, k, e, hk⟩
    · cases q
    · exact .inr ⟨rfl, k, e, hk⟩
set_option maxHeartbeats 2000000 in
theorem spec_l14Most (v : Value) (x : Bat) (w : World) (h : BatV w v x) (hn : x.recs.length ≤ 6) : Calls Try.prog 48 #[v] w (SaysI (mostT x.recs x.recs.length) w) := by
  obtain ⟨a, cap, rfl, hr, hl, hm⟩ := h.parts
  clear h
  obtain ⟨packed, mark, prod, epoch, seq, recs⟩ := x
  simp only at hr hl hn ⊢
  have bA := alloc_below' w (.cells #[.bool packed, .bool mark, .int .i64 prod, .int .i64 epoch, .int .i64 seq, .slice a recs.length cap] 43)
  have xA := Blk.made w #[.bool packed, .bool mark, .int .i64 prod, .int .i64 epoch, .int .i64 seq, .slice a recs.length cap] 43
  have hv := hr.below bA
  obtain ⟨wa, hwa⟩ : ∃ wa, w.alloc (.cells #[.bool packed, .bool mark, .int .i64 prod, .int .i64 epoch, .int .i64 seq, .slice a recs.length cap] 43) = wa := ⟨_, rfl⟩
  rw [hwa] at hv xA bA
  have hX : w.heap.size < wa.heap.size := World.block_lt_of_cell? (a := ⟨w.heap.size, 5, none⟩) wa xA.sixC.2.2.2.2.2
  have HC : Hid (∀ wr, Below wa.heap.size wa wr → wr.cell? ⟨w.heap.size, 5, none⟩ = some (.slice a recs.length cap)) := Lib.hid fun wr b => (World.cell?_of_block (a := ⟨w.heap.size, 5, none⟩) (b.block _ hX)).trans xA.sixC.2.2.2.2.2
  subst hwa
  clear hr xA hX
  go_enter Try.func48, Try.ntmps48
  go_wp2_with fail
  go_loopw [3, 4] (fun o i wr => ∃ (k : Nat) (m : Int), k ≤ recs.length ∧ i = .int .i64 k ∧ o = .int .i64 m ∧ m = mostT recs k ∧ Below (w.alloc (.cells #[.bool packed, .bool mark, .int .i64 prod, .int .i64 epoch, .int .i64 seq, .slice a recs.length cap] 43)).heap.size (w.alloc (.cells #[.bool packed, .bool mark, .int .i64 prod, .int .i64 epoch, .int .i64 seq, .slice a recs.length cap] 43)) wr) (fun _ i _ => recs.length - (intOf i).toNat)
  case atStart => exact ⟨0, 0, Nat.zero_le _, rfl, rfl, rfl, Below.refl _ _⟩
  case round =>
    obtain ⟨k, m, hk, rfl, rfl, hm1, bel⟩ := hrel
    have c5 := HC.out wr bel
    by_cases hlt : k < recs.length
    · obtain ⟨b, off, cap', e, hm'⟩ := hv.form (by omega)
      simp only [Value.slice.injEq, true_and] at e
      obtain ⟨rfl, rfl⟩ := e
      have hvr := hv.below bel
      obtain ⟨r, a1, c1, a2, c2, Hr, hR⟩ := hvr.parts k hlt
      have ct := hR.2.1
      have hn2 := mostT_next recs k
      rw [Hr.out, ← hm1] at hn2
      obtain ⟨rt, hrt⟩ : ∃ rt, r.time = rt := ⟨_, rfl⟩
      rw [hrt] at ct hn2
      obtain ⟨z, hz⟩ : ∃ z, mostT recs (k + 1) = z := ⟨_, rfl⟩
      rw [hz] at hn2
      have HZ := Lib.hid hz
      have HZ2 : Hid (max m rt = z) := Lib.hid hn2.symm
      clear hR hvr hm1 hz hn2 hrt Hr
      by_cases q : m < rt
      · have d1 : decide (m < rt) = true := decide_eq_true q
        have d2 : decide (rt ≤ m) = false := decide_eq_false (by omega)
        have d3 : decide (rt < m) = false := decide_eq_false (by omega)
        have Fin : Hid (rt = mostT recs (k + 1)) := Lib.hid (by rw [HZ.out, ← HZ2.out]; omega)
        go_wp2_with fail
        go_roundw
        case rel => exact ⟨k + 1, _, by omega, by go_num, rfl, Fin.out, bel⟩
        case measure => simp [intOf]; omega
      · have d1 : decide (m < rt) = false := decide_eq_false q
        have d2 : decide (rt ≤ m) = true := decide_eq_true (by omega)
        have Fin : Hid (m = mostT recs (k + 1)) := Lib.hid (by rw [HZ.out, ← HZ2.out]; omega)
        go_wp2_with fail
        go_roundw
        case rel => exact ⟨k + 1, _, by omega, by go_num, rfl, Fin.out, bel⟩
        case measure => simp [intOf]; omega
    · obtain rfl : k = recs.length := by omega
      have Fin : Hid (mostT recs recs.length = m) := Lib.hid hm1.symm
      clear hm1
      go_wp2_with fail
      go_ret
      exact ⟨ret_int Fin.out.symm, Bstep bA bel⟩
--KT
set_option maxHeartbeats 2000000 in
theorem spec_KeepTime (v : Value) (bs : List Bat) (m : Int) (w : World) (h : Bats w v bs) (hbs : bs.length ≤ 1000000000) : Calls Try.prog 27 #[v, .int .i64 m] w (KeepAns (logOk bs) (fun i => lateB bs m i = true) bs.length w) := by
  have hv := h
  have C1 := Lib.hid (spec_LogValid v bs w h hbs)
  have hb8 := Lib.hid fun q : logOk bs = true => logOk_len q
  have HB : Hid (logOk bs = true → ∀ i, i < bs.length → batOk (batN bs i) = true) := Lib.hid logOk_bat
  obtain ⟨a, cap, rfl, hl, hmx, hc⟩ := h
  unfold maxLen at hmx
  obtain ⟨ok, hok⟩ : ∃ ok, logOk bs = ok := ⟨_, rfl⟩
  rw [hok] at C1 HB hb8 ⊢
  clear hc hok
  go_enter Try.func27, Try.ntmps27
  go_wp2_with fail
  refine C1.out.mono ?_
  rintro e w1 ⟨rfl, b1⟩
  cases ok with
  | false =>
    go_wp2_with fail
    go_ret
    exact ⟨_, rfl, b1, .inl ⟨rfl, rfl⟩⟩
  | true =>
  have hl8 := hb8.out (by trivial)
  have HB2 : Hid (∀ i, i < bs.length → batOk (batN bs i) = true) := Lib.hid (HB.out (by trivial))
  clear HB hb8
  go_wp2_with fail
  go_loopw [5] (fun i wr => ∃ k : Nat, (k ≤ bs.length - 1) ∧ i = .int .i64 k ∧ Hid (∀ j, j < k → lateB bs m j = false) ∧ Below w.heap.size w wr) (fun i _ => bs.length - (intOf i).toNat)
  case atStart => exact ⟨0, Nat.zero_le _, rfl, Lib.hid fun j hj => by omega, b1⟩
  case round =>
    clear b1
    obtain ⟨k, hk, rfl, hno, bel⟩ := hrel
    by_cases hlt : k + 1 < bs.length
    · have dlt : decide ((k : Int) + 1 < (bs.length : Int)) = true := decide_eq_true (by omega)
      obtain ⟨b, off, cp, e, hm'⟩ := hv.form (by omega)
      simp only [Value.slice.injEq, true_and] at e
      obtain ⟨rfl, rfl⟩ := e
      obtain ⟨x, a1, c1, Hr, hR⟩ := (hv.below bel).parts k (by omega)
      have hok := HB2.out k (by omega)
      rw [Hr.out] at hok
      have D1 := spec_l14Most _ x wr hR.batV (batOk_iff.1 hok).1.2
      have n1 : k < bs.length := by omega
      obtain ⟨e0, e1, e2, e3, e4, e5, _⟩ := hR
      obtain ⟨z, hz⟩ : ∃ z, mostT x.recs x.recs.length = z := ⟨_, rfl⟩
      have hsb : lateB bs m k = decide (m ≤ z) := by unfold lateB lateX; rw [Hr.out, hz]
      rw [hz] at D1
      have D1 := Lib.hid D1
      have HSB := Lib.hid hsb
      clear hz hsb hok Hr
      go_wp2_with fail
      refine D1.out.mono ?_
      rintro e w2 ⟨rfl, b2⟩
      have B2 := Bstep bel b2
      clear e0 e1 e2 e3 e4 e5
      by_cases hzm : z < m
      · have dz : decide (z < m) = true := decide_eq_true hzm
        have hs2 := HSB.out
        rw [decide_eq_false (by omega)] at hs2
        have HS2 := Lib.hid hs2
        clear HSB hs2 hzm
        go_wp2_with fail
        go_roundw
        case rel => exact ⟨k + 1, by omega, by go_num, Lib.hid (fun j hj => if q : j < k then hno.out j q else by rw [show j = k by omega]; exact HS2.out), B2⟩
        case measure => simp [intOf]; omega
      · have dz : decide (z < m) = false := decide_eq_false hzm
        have hs2 := HSB.out
        rw [decide_eq_true (by omega)] at hs2
        have HS2 := Lib.hid hs2
        clear HSB hs2 hzm
        go_wp2_with fail
        go_ret
        exact ⟨_, rfl, B2, .inr ⟨rfl, k, rfl, fun j hj => by show ¬ lateB bs m j = true; rw [hno.out j hj]; decide, fun _ => HS2.out, by omega⟩⟩
    · have dlt : decide ((k : Int) + 1 < (bs.length : Int)) = false := decide_eq_false (by omega)
      go_wp2_with fail
      go_ret
      exact ⟨_, rfl, bel, .inr ⟨rfl, k, rfl, fun j hj => by show ¬ lateB bs m j = true; rw [hno.out j hj]; decide, fun q => by omega, by omega⟩⟩
end Go.Proofs.Ytfapeppocfodpaa
