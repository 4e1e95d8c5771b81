/- Merged: PL RL WL WL2 WL3 WL4. -/
import Derived.Test.YtfapeppocfodpaaPX3
import Derived.Test.YtfapeppocfodpaaR5
import Derived.Test.YtfapeppocfodpaaW5X
import Derived.Test.YtfapeppocfodpaaB0
import Derived.Test.YtfapeppocfodpaaWX5
namespace Go.Proofs.Ytfapeppocfodpaa
open Go.ChangeShapes Go.WideShapes Go.ChangeAt Go.RowKit
set_option linter.unusedVariables false
set_option maxRecDepth 100000

-- PL

def Bat.zero : Bat := ⟨false, false, 0, 0, 0, []⟩
/-- the batch at a place of a row -/
def batN (bs : List Bat) (i : Nat) : Bat := bs.getD i Bat.zero
theorem batN_in {bs : List Bat} {i : Nat} (h : i < bs.length) : batN bs i = bs[i] := by simp [batN, h]
theorem batN_app1 {bs cs : List Bat} {i : Nat} (h : i < bs.length) : batN (bs ++ cs) i = batN bs i := by
  rw [batN_in (by simp; omega), batN_in h, List.getElem_append_left h]
theorem batN_app2 {bs : List Bat} {b : Bat} : batN (bs ++ [b]) bs.length = b := by simp [batN]
theorem batN_take {bs : List Bat} {k i : Nat} (h : i < k) : batN (bs.take k) i = batN bs i := by
  unfold batN
  simp only [List.getD_eq_getElem?_getD, List.getElem?_take]
  rw [if_pos h]
theorem batN_ext {bs cs : List Bat} (hl : bs.length = cs.length) (h : ∀ i, i < bs.length → batN bs i = batN cs i) : bs = cs := by
  apply List.ext_getElem hl
  intro i h1 h2
  have := h i h1
  rwa [batN_in h1, batN_in h2] at this
/-- the first and the last offset, as they stand -/
def firstO (b : Bat) : Int := (recAt b.recs 0).off
def lastO (b : Bat) : Int := (recAt b.recs (b.recs.length - 1)).off
/-- the batch at a place is valid and behind the one before -/
def stepB (bs : List Bat) (i : Nat) : Bool := batOk (batN bs i) && (decide (i = 0) || decide (lastO (batN bs (i - 1)) < firstO (batN bs i)))
def rowB (bs : List Bat) : Bool := (List.range bs.length).all (stepB bs)
def logOk (bs : List Bat) : Bool := decide (bs.length ≤ 8) && rowB bs
theorem rowB_iff {bs : List Bat} : rowB bs = true ↔ ∀ i, i < bs.length → stepB bs i = true := by
  unfold rowB
  rw [List.all_eq_true]
  exact ⟨fun h i hi => h i (List.mem_range.2 hi), fun h i hi => h i (List.mem_range.1 hi)⟩
theorem rowB_no {bs : List Bat} {i : Nat} (hi : i < bs.length) (h : stepB bs i = false) : rowB bs = false := by
  cases e : rowB bs with
  | false => rfl
  | true => rw [rowB_iff.1 e i hi] at h; cases h
theorem stepB_iff {bs : List Bat} {i : Nat} : stepB bs i = true ↔ batOk (batN bs i) = true ∧ (i = 0 ∨ lastO (batN bs (i - 1)) < firstO (batN bs i)) := by
  unfold stepB
  simp only [Bool.and_eq_true, Bool.or_eq_true, decide_eq_true_eq]
theorem logOk_iff {bs : List Bat} : logOk bs = true ↔ bs.length ≤ 8 ∧ ∀ i, i < bs.length → stepB bs i = true := by
  unfold logOk
  rw [Bool.and_eq_true, decide_eq_true_eq, rowB_iff]
theorem firstO_pos {b : Bat} (h : batOk b = true) : 0 ≤ firstO b ∧ firstO b ≤ 99999 := by
  obtain ⟨⟨h1, _⟩, _, _, ho⟩ := batOk_iff.1 h
  exact (recOk_iff.1 (ordOk_rec ho (i := 0) (by omega))).1
theorem lastO_pos {b : Bat} (h : batOk b = true) : 0 ≤ lastO b ∧ lastO b ≤ 99999 := by
  obtain ⟨⟨h1, _⟩, _, _, ho⟩ := batOk_iff.1 h
  exact (recOk_iff.1 (ordOk_rec ho (i := b.recs.length - 1) (by omega))).1
theorem spanF_yes {b : Bat} (h : batOk b = true) : spanF b = firstO b := if_pos h
theorem spanL_yes {b : Bat} (h : batOk b = true) : spanL b = lastO b := if_pos h
/-- the offset behind the last one -/
def endOf (bs : List Bat) : Int := if bs.length = 0 then 0 else lastO (batN bs (bs.length - 1)) + 1
theorem stepB_end {bs : List Bat} {i : Nat} (hi : i < bs.length) : stepB bs i = (batOk (batN bs i) && decide (endOf (bs.take i) ≤ firstO (batN bs i))) := by
  unfold stepB endOf
  rw [List.length_take, Nat.min_eq_left (by omega)]
  by_cases h : i = 0
  · subst h
    cases e : batOk (batN bs 0) with
    | false => rfl
    | true =>
      have := (firstO_pos e).1
      simp [this]
  · rw [if_neg h, batN_take (by omega)]
    have : (decide (i = 0)) = false := decide_eq_false h
    rw [this, Bool.false_or]
    congr 1
-- RL

/-- six cells from a place on hold a batch -/
def BatC (w : World) (b q : Nat) (x : Bat) (rv : Value) : Prop :=
  w.cell? ⟨b, q, none⟩ = some (.bool x.packed) ∧ w.cell? ⟨b, q + 1, none⟩ = some (.bool x.mark) ∧ w.cell? ⟨b, q + 2, none⟩ = some (.int .i64 x.prod) ∧ w.cell? ⟨b, q + 3, none⟩ = some (.int .i64 x.epoch) ∧
    w.cell? ⟨b, q + 4, none⟩ = some (.int .i64 x.seq) ∧ w.cell? ⟨b, q + 5, none⟩ = some rv ∧ Recs w rv x.recs
theorem BatC.lt {w : World} {b q : Nat} {x : Bat} {rv : Value} (h : BatC w b q x rv) : b < w.heap.size := World.block_lt_of_cell? (a := ⟨b, q, none⟩) w h.1
theorem BatC.keep {w w' : World} {b q : Nat} {x : Bat} {rv : Value} (h : BatC w b q x rv) (hb : w'.heap[b]? = w.heap[b]?) (hr : Recs w' rv x.recs) : BatC w' b q x rv := by
  obtain ⟨h0, h1, h2, h3, h4, h5, _⟩ := h
  have k : ∀ i, w'.cell? ⟨b, i, none⟩ = w.cell? ⟨b, i, none⟩ := fun i => World.cell?_of_block hb
  exact ⟨(k _).trans h0, (k _).trans h1, (k _).trans h2, (k _).trans h3, (k _).trans h4, (k _).trans h5, hr⟩
theorem BatC.below {w w' : World} {b q : Nat} {x : Bat} {rv : Value} (h : BatC w b q x rv) (hb : Below w.heap.size w w') : BatC w' b q x rv :=
  h.keep (hb.block b h.lt) (h.2.2.2.2.2.2.below hb)
theorem BatC.batV {w : World} {b q : Nat} {x : Bat} {rv : Value} (h : BatC w b q x rv) : BatV w (.agg #[.bool x.packed, .bool x.mark, .int .i64 x.prod, .int .i64 x.epoch, .int .i64 x.seq, rv]) x := ⟨rv, rfl, h.2.2.2.2.2.2⟩

/-- v is a slice of the batches bs, as the world w has it -/
def Bats (w : World) (v : Value) (bs : List Bat) : Prop :=
  ∃ a cap, v = .slice a bs.length cap ∧ bs.length ≤ cap ∧ cap ≤ maxLen ∧
    (0 < bs.length → ∃ b off, a = some ⟨b, off, none⟩ ∧ ∀ i, i < bs.length → ∃ rv, BatC w b (off + i * 6) (batN bs i) rv)
theorem Bats.below {w w' : World} {v : Value} {bs : List Bat} (h : Bats w v bs) (hb : Below w.heap.size w w') : Bats w' v bs := by
  obtain ⟨a, cap, rfl, hl, hm, hc⟩ := h
  refine ⟨a, cap, rfl, hl, hm, fun h0 => ?_⟩
  obtain ⟨b, off, rfl, hcell⟩ := hc h0
  refine ⟨b, off, rfl, fun i hi => ?_⟩
  obtain ⟨rv, hr⟩ := hcell i hi
  exact ⟨rv, hr.below hb⟩
theorem Bats.none (w : World) : Bats w (.slice .none 0 0) [] := ⟨.none, 0, rfl, by simp, by simp, fun h => by simp at h⟩
theorem Bats.take {w : World} {a : Option Addr} {n cap : Nat} {bs : List Bat} (h : Bats w (.slice a n cap) bs) (k : Nat) (hk : k ≤ n) : Bats w (.slice a k cap) (bs.take k) := by
  obtain ⟨a', cap', e, hl, hm, hc⟩ := h
  simp only [Value.slice.injEq] at e
  obtain ⟨rfl, rfl, rfl⟩ := e
  refine ⟨a, cap, by rw [List.length_take, Nat.min_eq_left hk], by rw [List.length_take]; omega, hm, fun h0 => ?_⟩
  rw [List.length_take] at h0
  obtain ⟨b, off, rfl, hcell⟩ := hc (by omega)
  refine ⟨b, off, rfl, fun i hi => ?_⟩
  rw [List.length_take] at hi
  rw [batN_take (by omega)]
  exact hcell i (by omega)
theorem Bats.form {w : World} {v : Value} {bs : List Bat} (h : Bats w v bs) (h0 : 0 < bs.length) : ∃ b off cap, v = .slice (some ⟨b, off, .none⟩) bs.length cap ∧ cap ≤ maxLen := by
  obtain ⟨a, cap, rfl, hl, hm, hc⟩ := h
  obtain ⟨b, off, rfl, _⟩ := hc h0
  exact ⟨b, off, cap, rfl, hm⟩
/-- a batch of a row, taken apart -/
theorem Bats.parts {w : World} {b off n cap : Nat} {bs : List Bat} (h : Bats w (.slice (some ⟨b, off, .none⟩) n cap) bs) (i : Nat) (hi : i < bs.length) :
    ∃ (x : Bat) (a1 : Option Addr) (c1 : Nat), Hid (batN bs i = x) ∧ BatC w b (off + i * 6) x (.slice a1 x.recs.length c1) := by
  obtain ⟨a', cap', e, _, _, hc⟩ := h
  simp only [Value.slice.injEq] at e
  obtain ⟨rfl, rfl, rfl⟩ := e
  obtain ⟨b', off', e, hcell⟩ := hc (by omega)
  simp only [Option.some.injEq, Addr.mk.injEq, and_true] at e
  obtain ⟨rfl, rfl⟩ := e
  obtain ⟨rv, hR⟩ := hcell i hi
  obtain ⟨a1, c1, rfl, _⟩ := id hR.2.2.2.2.2.2
  exact ⟨_, a1, c1, Lib.hid rfl, hR⟩
-- WL

/-- a number, and new memory -/
def SaysI (n : Int) (w : World) (e : Ending) (w' : World) : Prop := e = .returned (.int .i64 n) ∧ Below w.heap.size w w'
theorem spec_l12Last (v : Value) (b : Bat) (w : World) (h : BatV w v b) (hn : 1 ≤ b.recs.length) : Calls Try.prog 59 #[v] w (SaysI (lastO b) w) := by
  obtain ⟨a, cap, rfl, hr, hl, hm⟩ := h.parts
  clear h
  obtain ⟨packed, mark, prod, epoch, seq, recs⟩ := b
  simp only at hr hl hn ⊢
  obtain ⟨b, off, cp, e, hmm⟩ := hr.form (by omega)
  simp only [Value.slice.injEq, true_and] at e
  obtain ⟨rfl, rfl⟩ := e
  have bA := alloc_below' w (.cells #[.bool packed, .bool mark, .int .i64 prod, .int .i64 epoch, .int .i64 seq, .slice (some ⟨b, off, none⟩) recs.length cap] 43)
  have xA := Blk.made w #[.bool packed, .bool mark, .int .i64 prod, .int .i64 epoch, .int .i64 seq, .slice (some ⟨b, off, none⟩) recs.length cap] 43
  have hr1 := hr.below bA
  obtain ⟨kv, vv, hR⟩ := hr1.rec (recs.length - 1) (by omega)
  have c := hR.1
  have s1 : IntKind.i64.wrap ((recs.length : Int) - 1) = ((recs.length - 1 : Nat) : Int) := by rw [IntWalk.i64_in _ ⟨by omega, by omega⟩]; omega
  obtain ⟨c0, c1, c2, c3, c4, c5⟩ := xA.sixC
  have n1 : recs.length - 1 < recs.length := by omega
  clear hR hr hr1
  go_enter Try.func59, Try.ntmps59
  go_wp2_with fail
  go_ret
  exact ⟨rfl, bA⟩
theorem impl_endOf (v : Value) (bs : List Bat) (w : World) (h : Bats w v bs) (hs : bs.length ≤ 1000000000) (hv : 0 < bs.length → batOk (batN bs (bs.length - 1)) = true) : Calls Try.prog 80 #[v] w (SaysI (endOf bs) w) := by
  have hb := h
  obtain ⟨a, cap, rfl, hl, hm, hc⟩ := h
  unfold maxLen at hm
  clear hc
  by_cases h0 : bs.length = 0
  · have q0 : ((bs.length : Int) == 0) = true := by rw [beq_iff_eq]; omega
    have fin : SaysI (endOf bs) w (.returned (.int .i64 0)) w := ⟨by unfold endOf; rw [if_pos h0], Below.refl _ _⟩
    have Fin := Lib.hid fin
    clear fin h0
    go_enter Try.func80, Try.ntmps80
    go_wp2_with fail
    go_ret
    exact Fin.out
  have q0 : ((bs.length : Int) == 0) = false := by rw [beq_eq_false_iff_ne]; omega
  have hok := hv (by omega)
  obtain ⟨b, off, cp, e, hmm⟩ := hb.form (by omega)
  simp only [Value.slice.injEq, true_and] at e
  obtain ⟨rfl, rfl⟩ := e
  obtain ⟨x, a1, c1, Hr, hR⟩ := hb.parts (bs.length - 1) (by omega)
  rw [Hr.out] at hok
  have C1 := impl_BatchSpan _ x w hR.batV
  unfold SpanRes at C1
  rw [spanF_yes hok, spanL_yes hok, hok] at C1
  have C1 := Lib.hid C1
  have hlast := lastO_pos hok
  have s1 : IntKind.i64.wrap ((bs.length : Int) - 1) = ((bs.length - 1 : Nat) : Int) := by rw [IntWalk.i64_in _ ⟨by omega, by omega⟩]; omega
  have fin : endOf bs = lastO x + 1 := by unfold endOf; rw [if_neg h0, Hr.out]
  have Fin := Lib.hid fin
  obtain ⟨q, hq⟩ : ∃ q, lastO x = q := ⟨_, rfl⟩
  rw [hq] at C1 hlast Fin
  have n1 : bs.length - 1 < bs.length := by omega
  obtain ⟨e0, e1, e2, e3, e4, e5, _⟩ := hR
  clear fin hq hok hv Hr h0
  go_enter Try.func80, Try.ntmps80
  go_wp2_with fail
  refine C1.out.mono ?_
  rintro e w1 ⟨rfl, b1⟩
  go_wp2_with fail
  go_ret
  exact ⟨ret_int Fin.out.symm, b1⟩
/-- six cells of a boxed batch, and a cell beside them -/
def BoxBat (W : World) (X : Nat) (v0 v1 v2 v3 v4 v5 : Value) (p : Addr) (u : Value) : Prop :=
  W.cell? ⟨X, 0, none⟩ = some v0 ∧ W.cell? ⟨X, 1, none⟩ = some v1 ∧ W.cell? ⟨X, 2, none⟩ = some v2 ∧ W.cell? ⟨X, 3, none⟩ = some v3 ∧ W.cell? ⟨X, 4, none⟩ = some v4 ∧ W.cell? ⟨X, 5, none⟩ = some v5 ∧ W.cell? p = some u
set_option maxHeartbeats 1000000 in
theorem impl_isBehind (v u : Value) (x : Bat) (bs : List Bat) (w : World) (h : BatV w v x) (g : Bats w u bs) (hn : 1 ≤ x.recs.length) (hs : bs.length ≤ 1000000000) (hv : 0 < bs.length → batOk (batN bs (bs.length - 1)) = true) :
    Calls Try.prog 62 #[v, u] w (SaysB (decide (endOf bs ≤ firstO x)) w) := by
  obtain ⟨a, cap, rfl, hr, hl, hm⟩ := h.parts
  clear h
  obtain ⟨packed, mark, prod, epoch, seq, recs⟩ := x
  simp only at hr hl hn ⊢
  obtain ⟨b, off, cp, e, hmm⟩ := hr.form (by omega)
  simp only [Value.slice.injEq, true_and] at e
  obtain ⟨rfl, rfl⟩ := e
  have bA := alloc_below' w (.cells #[.bool packed, .bool mark, .int .i64 prod, .int .i64 epoch, .int .i64 seq, .slice (some ⟨b, off, none⟩) recs.length cap] 43)
  have xA := Blk.made w #[.bool packed, .bool mark, .int .i64 prod, .int .i64 epoch, .int .i64 seq, .slice (some ⟨b, off, none⟩) recs.length cap] 43
  obtain ⟨kv, vv, hR⟩ := hr.rec 0 (by omega)
  have c := hR.1
  rw [show off + 0 * 6 = off by omega] at c
  have C1 : Hid (∀ W, Below w.heap.size w W → Calls Try.prog 80 #[u] W (SaysI (endOf bs) W)) := Lib.hid fun W hW => impl_endOf u bs W (g.below hW) hs hv
  obtain ⟨m, hm'⟩ : ∃ m, endOf bs = m := ⟨_, rfl⟩
  obtain ⟨f, hf⟩ : ∃ f, (recAt recs 0).off = f := ⟨_, rfl⟩
  rw [hm'] at C1
  rw [hf] at c
  have Fin : Hid (decide (endOf bs ≤ firstO ⟨packed, mark, prod, epoch, seq, recs⟩) = decide (m ≤ f)) := Lib.hid (by rw [hm']; show decide (m ≤ (recAt recs 0).off) = _; rw [hf])
  obtain ⟨ua, uc, rfl, _⟩ := id g
  have n0 : 0 < recs.length := hn
  have n1 : (0 : Int) < (recs.length : Int) := by omega
  clear hm' hf hR hr g hn
  go_enter Try.func62, Try.ntmps62
  go_wp2_with fail
  generalize hW : w.alloc (.cells #[.bool packed, .bool mark, .int .i64 prod, .int .i64 epoch, .int .i64 seq, .slice (some ⟨b, off, none⟩) recs.length cap] 43) = wb at bA xA ⊢
  clear hW
  obtain ⟨A, hA⟩ : ∃ A, w.heap.size = A := ⟨_, rfl⟩
  rw [hA] at xA ⊢
  have HA := Lib.hid hA
  clear hA
  have HS : Hid (∀ W, Below wb.heap.size wb W → BoxBat W A (.bool packed) (.bool mark) (.int .i64 prod) (.int .i64 epoch) (.int .i64 seq) (.slice (some ⟨b, off, none⟩) recs.length cap) ⟨b, off, none⟩ (.int .i64 f)) := Lib.hid fun W hW =>
    have y := (xA.belowS hW).sixC
    ⟨y.1, y.2.1, y.2.2.1, y.2.2.2.1, y.2.2.2.2.1, y.2.2.2.2.2, ((Bstep bA hW).cell (World.block_lt_of_cell? _ _ c)).trans c⟩
  have bdr : Below wb.heap.size wb wb.drew := below_drewN (Below.refl _ _) 1
  have S1 := HS.out wb.drew bdr
  have D1 := Lib.hid (C1.out wb.drew (Bstep bA bdr))
  clear c C1
  unfold BoxBat at S1
  go_region_held3 (fun W => W.cell? ⟨A, 0, none⟩ = some (.bool packed) ∧ W.cell? ⟨A, 1, none⟩ = some (.bool mark) ∧ W.cell? ⟨A, 2, none⟩ = some (.int .i64 prod) ∧ W.cell? ⟨A, 3, none⟩ = some (.int .i64 epoch) ∧ W.cell? ⟨A, 4, none⟩ = some (.int .i64 seq) ∧ W.cell? ⟨A, 5, none⟩ = some (.slice (some ⟨b, off, none⟩) recs.length cap) ∧ W.cell? ⟨b, off, none⟩ = some (.int .i64 f)) (first | with_reducible exact S1 | exact HS.out _ (Bstep bdr b8) | go_keep)
    (first | (go_at_call 80; ((with_reducible refine D1.out.mono ?_); rintro e w8 ⟨rfl, b8⟩)))
  have B8 := Bstep bA (Bstep bdr b8)
  go_wp2_with fail
  go_ret
  exact ⟨ret_bool Fin.out.symm, B8⟩
-- WL2

set_option maxHeartbeats 2000000 in
theorem impl_LogValid (v : Value) (bs : List Bat) (w : World) (h : Bats w v bs) : Calls Try.prog 45 #[v] w (SaysB (logOk bs) w) := by
  have hv := h
  obtain ⟨a, cap, rfl, hl, hm, hc⟩ := h
  unfold maxLen at hm
  clear hc
  by_cases h8 : 8 < bs.length
  · have d0 : decide ((8 : Int) < (bs.length : Int)) = true := decide_eq_true (by omega)
    have Fin : Hid (logOk bs = false) := Lib.hid (by unfold logOk; rw [decide_eq_false (by omega)]; rfl)
    clear h8
    go_enter Try.func45, Try.ntmps45
    go_wp2_with fail
    go_ret
    exact ⟨ret_bool Fin.out.symm, Below.refl _ _⟩
  have d0 : decide ((8 : Int) < (bs.length : Int)) = false := decide_eq_false (by omega)
  have e8 : logOk bs = rowB bs := by unfold logOk; rw [decide_eq_true (by omega)]; rfl
  rw [e8]
  clear e8
  go_enter Try.func45, Try.ntmps45
  go_wp2_with fail
  go_loopw [10] (fun i wr => ∃ k : Nat, k ≤ bs.length ∧ i = .int .i64 k ∧ (∀ j, j < k → stepB bs j = true) ∧ Below w.heap.size w wr) (fun i _ => bs.length - (intOf i).toNat)
  case atStart => exact ⟨0, Nat.zero_le _, rfl, fun j hj => by omega, Below.refl _ _⟩
  case round =>
    obtain ⟨k, hk, rfl, hrel, bel⟩ := hrel
    by_cases hlt : k < bs.length
    · obtain ⟨b, off, cap', e, hm'⟩ := hv.form (by omega)
      simp only [Value.slice.injEq, true_and] at e
      obtain ⟨rfl, rfl⟩ := e
      have hvr := hv.below bel
      obtain ⟨x, a1, c1, Hr, hR⟩ := hvr.parts k hlt
      have hst := stepB_end hlt
      rw [Hr.out] at hst
      have HST := Lib.hid hst
      have hxv := hR.batV
      have htk := hvr.take k (by omega)
      have hlk : (bs.take k).length = k := by rw [List.length_take]; omega
      have Hrel := Lib.hid hrel
      have C1 : Hid (∀ W, Below wr.heap.size wr W → Calls Try.prog 61 #[.agg #[.bool x.packed, .bool x.mark, .int .i64 x.prod, .int .i64 x.epoch, .int .i64 x.seq, .slice a1 x.recs.length c1]] W (SaysB (batOk x) W)) := Lib.hid fun W hW => impl_BatchValid _ x W (hxv.below hW)
      have C2 : Hid (batOk x = true → ∀ W, Below wr.heap.size wr W → Calls Try.prog 62 #[.agg #[.bool x.packed, .bool x.mark, .int .i64 x.prod, .int .i64 x.epoch, .int .i64 x.seq, .slice a1 x.recs.length c1], .slice (some ⟨b, off, none⟩) k cap] W (SaysB (decide (endOf (bs.take k) ≤ firstO x)) W)) := Lib.hid fun ho W hW => impl_isBehind _ _ x (bs.take k) W (hxv.below hW) (htk.below hW) (batOk_iff.1 ho).1.1 (by rw [hlk]; omega) (fun h0 => by
        rw [hlk] at h0 ⊢
        rw [batN_take (by omega)]
        exact (stepB_iff.1 (Hrel.out (k - 1) (by omega))).1)
      obtain ⟨packed, mark, prod, epoch, seq, recs⟩ := x
      obtain ⟨e0, e1, e2, e3, e4, e5, _⟩ := hR
      simp only at e0 e1 e2 e3 e4 e5 C1 C2
      obtain ⟨rb, hrb⟩ : ∃ rb, batOk ⟨packed, mark, prod, epoch, seq, recs⟩ = rb := ⟨_, rfl⟩
      obtain ⟨eb, heb⟩ : ∃ eb, decide (endOf (bs.take k) ≤ firstO ⟨packed, mark, prod, epoch, seq, recs⟩) = eb := ⟨_, rfl⟩
      have HS := HST.out
      rw [hrb, heb] at HS
      rw [hrb] at C1 C2
      rw [heb] at C2
      have HSH := Lib.hid HS
      clear hrb heb HS HST hst hxv htk hlk hvr Hr hrel
      have k1 : (0 : Int) ≤ (k : Int) := by omega
      have k2 : (k : Int) ≤ (bs.length : Int) := by omega
      have k3 : k ≤ bs.length := by omega
      have k4 : k ≤ cap := by omega
      go_upto_region 6 with (fail)
      have bX := alloc_below' wr (.cells #[.bool packed, .bool mark, .int .i64 prod, .int .i64 epoch, .int .i64 seq, .slice a1 recs.length c1] 43)
      have xX := Blk.made wr #[.bool packed, .bool mark, .int .i64 prod, .int .i64 epoch, .int .i64 seq, .slice a1 recs.length c1] 43
      generalize hW1 : wr.alloc (.cells #[.bool packed, .bool mark, .int .i64 prod, .int .i64 epoch, .int .i64 seq, .slice a1 recs.length c1] 43) = w1 at bX xX ⊢
      clear hW1 e0 e1 e2 e3 e4 e5
      obtain ⟨Z, hZ⟩ : ∃ Z, wr.heap.size = Z := ⟨_, rfl⟩
      rw [hZ] at xX ⊢
      have HZ := Lib.hid hZ
      clear hZ
      have HS : Hid (∀ W, Below w1.heap.size w1 W → BoxAnd W Z (.bool packed) (.bool mark) (.int .i64 prod) (.int .i64 epoch) (.int .i64 seq) (.slice a1 recs.length c1) ⟨Z, 0, none⟩ (.bool packed)) := Lib.hid fun W hW =>
        have y := xX.belowS hW
        ⟨y.cell 0, y.cell 1, y.cell 2, y.cell 3, y.cell 4, y.cell 5, y.cell 0⟩
      have bdr : Below w1.heap.size w1 w1.drew := below_drewN (Below.refl _ _) 1
      have S1 := HS.out _ bdr
      have D1 := Lib.hid (C1.out w1.drew (Bstep bX bdr))
      refine wp_region_held_drew (S := fun W => BoxAnd W Z (.bool packed) (.bool mark) (.int .i64 prod) (.int .i64 epoch) (.int .i64 seq) (.slice a1 recs.length c1) ⟨Z, 0, none⟩ (.bool packed)) (by kernel_rfl) S1 (fun hS => ?_)
      clear S1
      refine takeAt (i := 0) (v := ?_) rfl (by kernel_rfl) (by kernel_rfl) (by kernel_rfl) (fun _ _ _ h => h) (by kernel_rfl) (by assumption) (fun W hSW => ?_) ?_
      rotate_left
      · ((try unfold BoxAnd at hSW); (try unfold SixAnd at hSW); (try unfold FourT at hSW); (try unfold PutT at hSW); (try unfold TwoSix at hSW); go_simp; (try with_reducible rfl))
      simp only [Act.put, List.setIfInBounds_toArray, List.set_cons_zero, List.set_cons_succ]
      refine onlyAt (i := 1) (by kernel_rfl) rfl (by kernel_rfl) (fun K hK => ?_)
      go_simp
      refine D1.out.mono ?_
      rintro e w2 ⟨rfl, b2⟩
      have hS2 := HS.out w2 (Bstep bdr b2)
      have b12 := Bstep bdr b2
      have B2 := Bstep (Bstep bel bX) b12
      refine hK.out _ _ hS2 ?_
      clear hK K hS D1 C1
      cases rb with
      | false =>
        refine takeAt (i := 2) (v := ?_) rfl (by kernel_rfl) (by kernel_rfl) (by kernel_rfl) (fun _ _ _ h => h) (by kernel_rfl) (by assumption) (fun W hSW => ?_) ?_
        rotate_left
        · ((try unfold BoxAnd at hSW); (try unfold SixAnd at hSW); (try unfold FourT at hSW); (try unfold PutT at hSW); (try unfold TwoSix at hSW); go_simp; (try with_reducible rfl))
        simp only [Act.put, List.setIfInBounds_toArray, List.set_cons_zero, List.set_cons_succ]
        refine takeAt (i := 3) (v := ?_) rfl (by kernel_rfl) (by kernel_rfl) (by kernel_rfl) (fun _ _ _ h => h) (by kernel_rfl) (by assumption) (fun W hSW => ?_) ?_
        rotate_left
        · ((try unfold BoxAnd at hSW); (try unfold SixAnd at hSW); (try unfold FourT at hSW); (try unfold PutT at hSW); (try unfold TwoSix at hSW); go_simp; (try with_reducible rfl))
        simp only [Act.put, List.setIfInBounds_toArray, List.set_cons_zero, List.set_cons_succ]
        refine passAt (i := 4) rfl (by kernel_rfl) (by kernel_rfl) (by kernel_rfl) (fun _ _ _ h => h) (by kernel_rfl) (by assumption) ?_
        simp only [Act.put, List.setIfInBounds_toArray, List.set_cons_zero, List.set_cons_succ]
        refine passAt (i := 5) rfl (by kernel_rfl) (by kernel_rfl) (by kernel_rfl) (fun _ _ _ h => h) (by kernel_rfl) (by assumption) ?_
        simp only [Act.put, List.setIfInBounds_toArray, List.set_cons_zero, List.set_cons_succ]
        refine passAt (i := 6) rfl (by kernel_rfl) (by kernel_rfl) (by kernel_rfl) (fun _ _ _ h => h) (by kernel_rfl) (by assumption) ?_
        simp only [Act.put, List.setIfInBounds_toArray, List.set_cons_zero, List.set_cons_succ]
        refine passAt (i := 7) rfl (by kernel_rfl) (by kernel_rfl) (by kernel_rfl) (fun _ _ _ h => h) (by kernel_rfl) (by assumption) ?_
        simp only [Act.put, List.setIfInBounds_toArray, List.set_cons_zero, List.set_cons_succ]
        refine passAt (i := 8) rfl (by kernel_rfl) (by kernel_rfl) (by kernel_rfl) (fun _ _ _ h => h) (by kernel_rfl) (by assumption) ?_
        simp only [Act.put, List.setIfInBounds_toArray, List.set_cons_zero, List.set_cons_succ]
        refine passAt (i := 9) rfl (by kernel_rfl) (by kernel_rfl) (by kernel_rfl) (fun _ _ _ h => h) (by kernel_rfl) (by assumption) ?_
        simp only [Act.put, List.setIfInBounds_toArray, List.set_cons_zero, List.set_cons_succ]
        refine takeAt (i := 10) (v := ?_) rfl (by kernel_rfl) (by kernel_rfl) (by kernel_rfl) (fun _ _ _ h => h) (by kernel_rfl) (by assumption) (fun W hSW => ?_) ?_
        rotate_left
        · ((try unfold BoxAnd at hSW); (try unfold SixAnd at hSW); (try unfold FourT at hSW); (try unfold PutT at hSW); (try unfold TwoSix at hSW); go_simp; (try with_reducible rfl))
        simp only [Act.put, List.setIfInBounds_toArray, List.set_cons_zero, List.set_cons_succ]
        refine wpAnyH_done (by kernel_rfl) ?_ _
        go_wp2_with fail
        go_ret
        exact ⟨ret_bool (rowB_no hlt HSH.out).symm, B2⟩
      | true =>
        have D2 := Lib.hid (C2.out rfl w2 (Bstep bX b12))
        refine takeAt (i := 2) (v := ?_) rfl (by kernel_rfl) (by kernel_rfl) (by kernel_rfl) (fun _ _ _ h => h) (by kernel_rfl) (by assumption) (fun W hSW => ?_) ?_
        rotate_left
        · ((try unfold BoxAnd at hSW); (try unfold SixAnd at hSW); (try unfold FourT at hSW); (try unfold PutT at hSW); (try unfold TwoSix at hSW); go_simp; (try with_reducible rfl))
        simp only [Act.put, List.setIfInBounds_toArray, List.set_cons_zero, List.set_cons_succ]
        refine takeAt (i := 3) (v := ?_) rfl (by kernel_rfl) (by kernel_rfl) (by kernel_rfl) (fun _ _ _ h => h) (by kernel_rfl) (by assumption) (fun W hSW => ?_) ?_
        rotate_left
        · ((try unfold BoxAnd at hSW); (try unfold SixAnd at hSW); (try unfold FourT at hSW); (try unfold PutT at hSW); (try unfold TwoSix at hSW); go_simp; (try with_reducible rfl))
        simp only [Act.put, List.setIfInBounds_toArray, List.set_cons_zero, List.set_cons_succ]
        refine takeAt (i := 4) (v := ?_) rfl (by kernel_rfl) (by kernel_rfl) (by kernel_rfl) (fun _ _ _ h => h) (by kernel_rfl) (by assumption) (fun W hSW => ?_) ?_
        rotate_left
        · ((try unfold BoxAnd at hSW); (try unfold SixAnd at hSW); (try unfold FourT at hSW); (try unfold PutT at hSW); (try unfold TwoSix at hSW); go_simp; (try with_reducible rfl))
        simp only [Act.put, List.setIfInBounds_toArray, List.set_cons_zero, List.set_cons_succ]
        refine takeAt (i := 5) (v := ?_) rfl (by kernel_rfl) (by kernel_rfl) (by kernel_rfl) (fun _ _ _ h => h) (by kernel_rfl) (by assumption) (fun W hSW => ?_) ?_
        rotate_left
        · ((try unfold BoxAnd at hSW); (try unfold SixAnd at hSW); (try unfold FourT at hSW); (try unfold PutT at hSW); (try unfold TwoSix at hSW); go_simp; (try with_reducible rfl))
        simp only [Act.put, List.setIfInBounds_toArray, List.set_cons_zero, List.set_cons_succ]
        refine takeAt (i := 6) (v := ?_) rfl (by kernel_rfl) (by kernel_rfl) (by kernel_rfl) (fun _ _ _ h => h) (by kernel_rfl) (by assumption) (fun W hSW => ?_) ?_
        rotate_left
        · ((try unfold BoxAnd at hSW); (try unfold SixAnd at hSW); (try unfold FourT at hSW); (try unfold PutT at hSW); (try unfold TwoSix at hSW); go_simp; (try with_reducible rfl))
        simp only [Act.put, List.setIfInBounds_toArray, List.set_cons_zero, List.set_cons_succ]
        refine takeAt (i := 7) (v := ?_) rfl (by kernel_rfl) (by kernel_rfl) (by kernel_rfl) (fun _ _ _ h => h) (by kernel_rfl) (by assumption) (fun W hSW => ?_) ?_
        rotate_left
        · ((try unfold BoxAnd at hSW); (try unfold SixAnd at hSW); (try unfold FourT at hSW); (try unfold PutT at hSW); (try unfold TwoSix at hSW); go_simp; (try with_reducible rfl))
        simp only [Act.put, List.setIfInBounds_toArray, List.set_cons_zero, List.set_cons_succ]
        refine onlyAt (i := 8) (by kernel_rfl) rfl (by kernel_rfl) (fun K hK => ?_)
        go_simp
        refine D2.out.mono ?_
        rintro e w3 ⟨rfl, b3⟩
        have hS3 := HS.out w3 (Bstep b12 b3)
        have B3 := Bstep B2 b3
        refine hK.out _ _ hS3 ?_
        clear hK K hS2 D2 C2
        cases eb with
        | false =>
          refine takeAt (i := 9) (v := ?_) rfl (by kernel_rfl) (by kernel_rfl) (by kernel_rfl) (fun _ _ _ h => h) (by kernel_rfl) (by assumption) (fun W hSW => ?_) ?_
          rotate_left
          · ((try unfold BoxAnd at hSW); (try unfold SixAnd at hSW); (try unfold FourT at hSW); (try unfold PutT at hSW); (try unfold TwoSix at hSW); go_simp; (try with_reducible rfl))
          simp only [Act.put, List.setIfInBounds_toArray, List.set_cons_zero, List.set_cons_succ]
          refine takeAt (i := 10) (v := ?_) rfl (by kernel_rfl) (by kernel_rfl) (by kernel_rfl) (fun _ _ _ h => h) (by kernel_rfl) (by assumption) (fun W hSW => ?_) ?_
          rotate_left
          · ((try unfold BoxAnd at hSW); (try unfold SixAnd at hSW); (try unfold FourT at hSW); (try unfold PutT at hSW); (try unfold TwoSix at hSW); go_simp; (try with_reducible rfl))
          simp only [Act.put, List.setIfInBounds_toArray, List.set_cons_zero, List.set_cons_succ]
          refine wpAnyH_done (by kernel_rfl) ?_ _
          go_wp2_with fail
          go_ret
          exact ⟨ret_bool (rowB_no hlt HSH.out).symm, B3⟩
        | true =>
          have H1 : ∀ j, j < k + 1 → stepB bs j = true := fun j hj => by
            by_cases e : j = k
            · rw [e, HSH.out]; rfl
            · exact Hrel.out j (by omega)
          refine takeAt (i := 9) (v := ?_) rfl (by kernel_rfl) (by kernel_rfl) (by kernel_rfl) (fun _ _ _ h => h) (by kernel_rfl) (by assumption) (fun W hSW => ?_) ?_
          rotate_left
          · ((try unfold BoxAnd at hSW); (try unfold SixAnd at hSW); (try unfold FourT at hSW); (try unfold PutT at hSW); (try unfold TwoSix at hSW); go_simp; (try with_reducible rfl))
          simp only [Act.put, List.setIfInBounds_toArray, List.set_cons_zero, List.set_cons_succ]
          refine takeAt (i := 10) (v := ?_) rfl (by kernel_rfl) (by kernel_rfl) (by kernel_rfl) (fun _ _ _ h => h) (by kernel_rfl) (by assumption) (fun W hSW => ?_) ?_
          rotate_left
          · ((try unfold BoxAnd at hSW); (try unfold SixAnd at hSW); (try unfold FourT at hSW); (try unfold PutT at hSW); (try unfold TwoSix at hSW); go_simp; (try with_reducible rfl))
          simp only [Act.put, List.setIfInBounds_toArray, List.set_cons_zero, List.set_cons_succ]
          refine wpAnyH_done (by kernel_rfl) ?_ _
          go_wp2_with fail
          go_roundw
          case rel => exact ⟨k + 1, by omega, by go_num, H1, B3⟩
          case measure => simp [intOf]; omega
    · go_wp2_with fail
      go_ret
      exact ⟨ret_bool (rowB_iff.2 fun i hi => hrel i (by omega)).symm, bel⟩
-- WL3

/-- six cells of a block from a place on, six others, and a cell beside them -/
def TwoSix (W : World) (b q : Nat) (v0 v1 v2 v3 v4 v5 : Value) (q' : Nat) (u0 u1 u2 u3 u4 u5 : Value) (p : Addr) (u : Value) : Prop :=
  W.cell? ⟨b, q, none⟩ = some v0 ∧ W.cell? ⟨b, q + 1, none⟩ = some v1 ∧ W.cell? ⟨b, q + 2, none⟩ = some v2 ∧ W.cell? ⟨b, q + 3, none⟩ = some v3 ∧ W.cell? ⟨b, q + 4, none⟩ = some v4 ∧ W.cell? ⟨b, q + 5, none⟩ = some v5 ∧
  W.cell? ⟨b, q', none⟩ = some u0 ∧ W.cell? ⟨b, q' + 1, none⟩ = some u1 ∧ W.cell? ⟨b, q' + 2, none⟩ = some u2 ∧ W.cell? ⟨b, q' + 3, none⟩ = some u3 ∧ W.cell? ⟨b, q' + 4, none⟩ = some u4 ∧ W.cell? ⟨b, q' + 5, none⟩ = some u5 ∧ W.cell? p = some u
set_option maxHeartbeats 4000000 in
theorem spec_LogValid (v : Value) (bs : List Bat) (w : World) (h : Bats w v bs) (hs : bs.length ≤ 1000000000) : Calls Try.prog 42 #[v] w (SaysB (logOk bs) w) := by
  have hv := h
  obtain ⟨a, cap, rfl, hl, hm, hc⟩ := h
  unfold maxLen at hm
  clear hc
  have Hend : Hid (rowB bs = true → decide ((bs.length : Int) ≤ 8) = logOk bs) := Lib.hid fun h => by
    unfold logOk
    rw [h, Bool.and_true, decide_eq_decide]
    omega
  have Hno : Hid (rowB bs = false → logOk bs = false) := Lib.hid fun h => by unfold logOk; rw [h, Bool.and_false]
  go_enter Try.func42, Try.ntmps42
  go_wp2_with fail
  go_loopw [3] (fun i wr => ∃ k : Nat, k ≤ bs.length ∧ i = .int .i64 k ∧ (∀ j, j < k → stepB bs j = true) ∧ Below w.heap.size w wr) (fun i _ => bs.length - (intOf i).toNat)
  case atStart => exact ⟨0, Nat.zero_le _, rfl, fun j hj => by omega, Below.refl _ _⟩
  case round =>
    obtain ⟨k, hk, rfl, hrel, bel⟩ := hrel
    by_cases hlt : k < bs.length
    · obtain ⟨b, off, cap', e, hm'⟩ := hv.form (by omega)
      simp only [Value.slice.injEq, true_and] at e
      obtain ⟨rfl, rfl⟩ := e
      have hvr := hv.below bel
      obtain ⟨x, a1, c1, Hr, hR⟩ := hvr.parts k hlt
      have hst : stepB bs k = (batOk x && (decide (k = 0) || decide (lastO (batN bs (k - 1)) < firstO x))) := by unfold stepB; rw [Hr.out]
      have HST := Lib.hid hst
      have Hrel := Lib.hid hrel
      have hxv := hR.batV
      have C1 : Hid (∀ W, Below wr.heap.size wr W → Calls Try.prog 58 #[.agg #[.bool x.packed, .bool x.mark, .int .i64 x.prod, .int .i64 x.epoch, .int .i64 x.seq, .slice a1 x.recs.length c1]] W (SaysB (batOk x) W)) := Lib.hid fun W hW => spec_BatchValid _ x W (hxv.below hW)
      have hrec := hR.2.2.2.2.2.2
      obtain ⟨packed, mark, prod, epoch, seq, recs⟩ := x
      have hR0 := hR
      simp only at C1 hrec
      clear hR hst hrel
      have k1 : (0 : Int) ≤ (k : Int) := by omega
      have k2 : (k : Int) < (bs.length : Int) := by omega
      cases hrb : batOk ⟨packed, mark, prod, epoch, seq, recs⟩ with
      | false =>
        rw [hrb] at C1
        have HSH : Hid (stepB bs k = false) := Lib.hid (by rw [HST.out, hrb]; rfl)
        have HS : Hid (∀ W, Below wr.heap.size wr W → SixAnd W b (off + k * 6) (.bool packed) (.bool mark) (.int .i64 prod) (.int .i64 epoch) (.int .i64 seq) (.slice a1 recs.length c1) ⟨b, off + k * 6, none⟩ (.bool packed)) := Lib.hid fun W hW =>
          have y := hR0.below hW
          ⟨y.1, y.2.1, y.2.2.1, y.2.2.2.1, y.2.2.2.2.1, y.2.2.2.2.2.1, y.1⟩
        clear hrb HST hxv Hr hvr hrec hR0
        go_upto_region 4 with (fail)
        have bdr : Below wr.heap.size wr wr.drew := below_drewN (Below.refl _ _) 1
        have S1 := HS.out _ bdr
        have D1 := Lib.hid (C1.out wr.drew bdr)
        refine wp_region_held_drew (S := fun W => SixAnd W b (off + k * 6) (.bool packed) (.bool mark) (.int .i64 prod) (.int .i64 epoch) (.int .i64 seq) (.slice a1 recs.length c1) ⟨b, off + k * 6, none⟩ (.bool packed)) (by kernel_rfl) S1 (fun hS => ?_)
        clear S1
        refine takeAt (i := 0) (v := ?_) rfl (by kernel_rfl) (by kernel_rfl) (by kernel_rfl) (fun _ _ _ h => h) (by kernel_rfl) (by assumption) (fun W hSW => ?_) ?_
        rotate_left
        · ((try unfold BoxAnd at hSW); (try unfold SixAnd at hSW); (try unfold FourT at hSW); (try unfold PutT at hSW); (try unfold TwoSix at hSW); go_simp; (try with_reducible rfl))
        simp only [Act.put, List.setIfInBounds_toArray, List.set_cons_zero, List.set_cons_succ]
        refine takeAt (i := 1) (v := ?_) rfl (by kernel_rfl) (by kernel_rfl) (by kernel_rfl) (fun _ _ _ h => h) (by kernel_rfl) (by assumption) (fun W hSW => ?_) ?_
        rotate_left
        · ((try unfold BoxAnd at hSW); (try unfold SixAnd at hSW); (try unfold FourT at hSW); (try unfold PutT at hSW); (try unfold TwoSix at hSW); go_simp; (try with_reducible rfl))
        simp only [Act.put, List.setIfInBounds_toArray, List.set_cons_zero, List.set_cons_succ]
        refine takeAt (i := 2) (v := ?_) rfl (by kernel_rfl) (by kernel_rfl) (by kernel_rfl) (fun _ _ _ h => h) (by kernel_rfl) (by assumption) (fun W hSW => ?_) ?_
        rotate_left
        · ((try unfold BoxAnd at hSW); (try unfold SixAnd at hSW); (try unfold FourT at hSW); (try unfold PutT at hSW); (try unfold TwoSix at hSW); go_simp; (try with_reducible rfl))
        simp only [Act.put, List.setIfInBounds_toArray, List.set_cons_zero, List.set_cons_succ]
        refine takeAt (i := 3) (v := ?_) rfl (by kernel_rfl) (by kernel_rfl) (by kernel_rfl) (fun _ _ _ h => h) (by kernel_rfl) (by assumption) (fun W hSW => ?_) ?_
        rotate_left
        · ((try unfold BoxAnd at hSW); (try unfold SixAnd at hSW); (try unfold FourT at hSW); (try unfold PutT at hSW); (try unfold TwoSix at hSW); go_simp; (try with_reducible rfl))
        simp only [Act.put, List.setIfInBounds_toArray, List.set_cons_zero, List.set_cons_succ]
        refine onlyAt (i := 4) (by kernel_rfl) rfl (by kernel_rfl) (fun K hK => ?_)
        go_simp
        refine D1.out.mono ?_
        rintro e w2 ⟨rfl, b2⟩
        have hS2 := HS.out w2 (Bstep bdr b2)
        have b12 := Bstep bdr b2
        have B2 := Bstep bel b12
        refine hK.out _ _ hS2 ?_
        clear hK K hS D1 C1
        refine takeAt (i := 5) (v := ?_) rfl (by kernel_rfl) (by kernel_rfl) (by kernel_rfl) (fun _ _ _ h => h) (by kernel_rfl) (by assumption) (fun W hSW => ?_) ?_
        rotate_left
        · ((try unfold BoxAnd at hSW); (try unfold SixAnd at hSW); (try unfold FourT at hSW); (try unfold PutT at hSW); (try unfold TwoSix at hSW); go_simp; (try with_reducible rfl))
        simp only [Act.put, List.setIfInBounds_toArray, List.set_cons_zero, List.set_cons_succ]
        refine takeAt (i := 6) (v := ?_) rfl (by kernel_rfl) (by kernel_rfl) (by kernel_rfl) (fun _ _ _ h => h) (by kernel_rfl) (by assumption) (fun W hSW => ?_) ?_
        rotate_left
        · ((try unfold BoxAnd at hSW); (try unfold SixAnd at hSW); (try unfold FourT at hSW); (try unfold PutT at hSW); (try unfold TwoSix at hSW); go_simp; (try with_reducible rfl))
        simp only [Act.put, List.setIfInBounds_toArray, List.set_cons_zero, List.set_cons_succ]
        refine passAt (i := 7) rfl (by kernel_rfl) (by kernel_rfl) (by kernel_rfl) (fun _ _ _ h => h) (by kernel_rfl) (by assumption) ?_
        simp only [Act.put, List.setIfInBounds_toArray, List.set_cons_zero, List.set_cons_succ]
        refine passAt (i := 8) rfl (by kernel_rfl) (by kernel_rfl) (by kernel_rfl) (fun _ _ _ h => h) (by kernel_rfl) (by assumption) ?_
        simp only [Act.put, List.setIfInBounds_toArray, List.set_cons_zero, List.set_cons_succ]
        refine passAt (i := 9) rfl (by kernel_rfl) (by kernel_rfl) (by kernel_rfl) (fun _ _ _ h => h) (by kernel_rfl) (by assumption) ?_
        simp only [Act.put, List.setIfInBounds_toArray, List.set_cons_zero, List.set_cons_succ]
        refine passAt (i := 10) rfl (by kernel_rfl) (by kernel_rfl) (by kernel_rfl) (fun _ _ _ h => h) (by kernel_rfl) (by assumption) ?_
        simp only [Act.put, List.setIfInBounds_toArray, List.set_cons_zero, List.set_cons_succ]
        refine passAt (i := 11) rfl (by kernel_rfl) (by kernel_rfl) (by kernel_rfl) (fun _ _ _ h => h) (by kernel_rfl) (by assumption) ?_
        simp only [Act.put, List.setIfInBounds_toArray, List.set_cons_zero, List.set_cons_succ]
        refine passAt (i := 12) rfl (by kernel_rfl) (by kernel_rfl) (by kernel_rfl) (fun _ _ _ h => h) (by kernel_rfl) (by assumption) ?_
        simp only [Act.put, List.setIfInBounds_toArray, List.set_cons_zero, List.set_cons_succ]
        refine passAt (i := 13) rfl (by kernel_rfl) (by kernel_rfl) (by kernel_rfl) (fun _ _ _ h => h) (by kernel_rfl) (by assumption) ?_
        simp only [Act.put, List.setIfInBounds_toArray, List.set_cons_zero, List.set_cons_succ]
        refine passAt (i := 14) rfl (by kernel_rfl) (by kernel_rfl) (by kernel_rfl) (fun _ _ _ h => h) (by kernel_rfl) (by assumption) ?_
        simp only [Act.put, List.setIfInBounds_toArray, List.set_cons_zero, List.set_cons_succ]
        refine passAt (i := 15) rfl (by kernel_rfl) (by kernel_rfl) (by kernel_rfl) (fun _ _ _ h => h) (by kernel_rfl) (by assumption) ?_
        simp only [Act.put, List.setIfInBounds_toArray, List.set_cons_zero, List.set_cons_succ]
        refine passAt (i := 16) rfl (by kernel_rfl) (by kernel_rfl) (by kernel_rfl) (fun _ _ _ h => h) (by kernel_rfl) (by assumption) ?_
        simp only [Act.put, List.setIfInBounds_toArray, List.set_cons_zero, List.set_cons_succ]
        refine passAt (i := 17) rfl (by kernel_rfl) (by kernel_rfl) (by kernel_rfl) (fun _ _ _ h => h) (by kernel_rfl) (by assumption) ?_
        simp only [Act.put, List.setIfInBounds_toArray, List.set_cons_zero, List.set_cons_succ]
        refine passAt (i := 18) rfl (by kernel_rfl) (by kernel_rfl) (by kernel_rfl) (fun _ _ _ h => h) (by kernel_rfl) (by assumption) ?_
        simp only [Act.put, List.setIfInBounds_toArray, List.set_cons_zero, List.set_cons_succ]
        refine passAt (i := 19) rfl (by kernel_rfl) (by kernel_rfl) (by kernel_rfl) (fun _ _ _ h => h) (by kernel_rfl) (by assumption) ?_
        simp only [Act.put, List.setIfInBounds_toArray, List.set_cons_zero, List.set_cons_succ]
        refine passAt (i := 20) rfl (by kernel_rfl) (by kernel_rfl) (by kernel_rfl) (fun _ _ _ h => h) (by kernel_rfl) (by assumption) ?_
        simp only [Act.put, List.setIfInBounds_toArray, List.set_cons_zero, List.set_cons_succ]
        refine passAt (i := 21) rfl (by kernel_rfl) (by kernel_rfl) (by kernel_rfl) (fun _ _ _ h => h) (by kernel_rfl) (by assumption) ?_
        simp only [Act.put, List.setIfInBounds_toArray, List.set_cons_zero, List.set_cons_succ]
        refine passAt (i := 22) rfl (by kernel_rfl) (by kernel_rfl) (by kernel_rfl) (fun _ _ _ h => h) (by kernel_rfl) (by assumption) ?_
        simp only [Act.put, List.setIfInBounds_toArray, List.set_cons_zero, List.set_cons_succ]
        refine passAt (i := 23) rfl (by kernel_rfl) (by kernel_rfl) (by kernel_rfl) (fun _ _ _ h => h) (by kernel_rfl) (by assumption) ?_
        simp only [Act.put, List.setIfInBounds_toArray, List.set_cons_zero, List.set_cons_succ]
        refine passAt (i := 24) rfl (by kernel_rfl) (by kernel_rfl) (by kernel_rfl) (fun _ _ _ h => h) (by kernel_rfl) (by assumption) ?_
        simp only [Act.put, List.setIfInBounds_toArray, List.set_cons_zero, List.set_cons_succ]
        refine passAt (i := 25) rfl (by kernel_rfl) (by kernel_rfl) (by kernel_rfl) (fun _ _ _ h => h) (by kernel_rfl) (by assumption) ?_
        simp only [Act.put, List.setIfInBounds_toArray, List.set_cons_zero, List.set_cons_succ]
        refine takeAt (i := 26) (v := ?_) rfl (by kernel_rfl) (by kernel_rfl) (by kernel_rfl) (fun _ _ _ h => h) (by kernel_rfl) (by assumption) (fun W hSW => ?_) ?_
        rotate_left
        · ((try unfold BoxAnd at hSW); (try unfold SixAnd at hSW); (try unfold FourT at hSW); (try unfold PutT at hSW); (try unfold TwoSix at hSW); go_simp; (try with_reducible rfl))
        simp only [Act.put, List.setIfInBounds_toArray, List.set_cons_zero, List.set_cons_succ]
        refine wpAnyH_done (by kernel_rfl) ?_ _
        go_wp2_with fail
        go_ret
        exact ⟨ret_bool (Hno.out (rowB_no hlt HSH.out)).symm, B2⟩
      | true =>
        rw [hrb] at C1
        have hlen := (batOk_iff.1 hrb).1.1
        simp only at hlen
        obtain ⟨pb, po, cx, e, _⟩ := hrec.form (by omega)
        simp only [Value.slice.injEq, true_and] at e
        obtain ⟨rfl, rfl⟩ := e
        have n0 : 0 < recs.length := hlen
        have n01 : (0 : Int) < (recs.length : Int) := by omega
        by_cases k0 : k = 0
        · have HSH : Hid (stepB bs k = true) := Lib.hid (by rw [HST.out, hrb, decide_eq_true k0]; rfl)
          have d0 : decide ((0 : Int) < (k : Int)) = false := decide_eq_false (by omega)
          have d0n : decide (0 < k) = false := decide_eq_false (by omega)
          have H1 : Hid (∀ j, j < k + 1 → stepB bs j = true) := Lib.hid fun j hj => by
            by_cases e : j = k
            · rw [e, HSH.out]
            · exact Hrel.out j (by omega)
          have HS : Hid (∀ W, Below wr.heap.size wr W → SixAnd W b (off + k * 6) (.bool packed) (.bool mark) (.int .i64 prod) (.int .i64 epoch) (.int .i64 seq) (.slice (some ⟨pb, po, none⟩) recs.length c1) ⟨b, off + k * 6, none⟩ (.bool packed)) := Lib.hid fun W hW =>
            have y := hR0.below hW
            ⟨y.1, y.2.1, y.2.2.1, y.2.2.2.1, y.2.2.2.2.1, y.2.2.2.2.2.1, y.1⟩
          clear hrb HST hxv Hr hvr hrec hR0 k0 HSH
          go_upto_region 4 with (fail)
          have bdr : Below wr.heap.size wr wr.drew := below_drewN (Below.refl _ _) 1
          have S1 := HS.out _ bdr
          have D1 := Lib.hid (C1.out wr.drew bdr)
          refine wp_region_held_drew (S := fun W => SixAnd W b (off + k * 6) (.bool packed) (.bool mark) (.int .i64 prod) (.int .i64 epoch) (.int .i64 seq) (.slice (some ⟨pb, po, none⟩) recs.length c1) ⟨b, off + k * 6, none⟩ (.bool packed)) (by kernel_rfl) S1 (fun hS => ?_)
          clear S1
          refine takeAt (i := 0) (v := ?_) rfl (by kernel_rfl) (by kernel_rfl) (by kernel_rfl) (fun _ _ _ h => h) (by kernel_rfl) (by assumption) (fun W hSW => ?_) ?_
          rotate_left
          · ((try unfold BoxAnd at hSW); (try unfold SixAnd at hSW); (try unfold FourT at hSW); (try unfold PutT at hSW); (try unfold TwoSix at hSW); go_simp; (try with_reducible rfl))
          simp only [Act.put, List.setIfInBounds_toArray, List.set_cons_zero, List.set_cons_succ]
          refine takeAt (i := 1) (v := ?_) rfl (by kernel_rfl) (by kernel_rfl) (by kernel_rfl) (fun _ _ _ h => h) (by kernel_rfl) (by assumption) (fun W hSW => ?_) ?_
          rotate_left
          · ((try unfold BoxAnd at hSW); (try unfold SixAnd at hSW); (try unfold FourT at hSW); (try unfold PutT at hSW); (try unfold TwoSix at hSW); go_simp; (try with_reducible rfl))
          simp only [Act.put, List.setIfInBounds_toArray, List.set_cons_zero, List.set_cons_succ]
          refine takeAt (i := 2) (v := ?_) rfl (by kernel_rfl) (by kernel_rfl) (by kernel_rfl) (fun _ _ _ h => h) (by kernel_rfl) (by assumption) (fun W hSW => ?_) ?_
          rotate_left
          · ((try unfold BoxAnd at hSW); (try unfold SixAnd at hSW); (try unfold FourT at hSW); (try unfold PutT at hSW); (try unfold TwoSix at hSW); go_simp; (try with_reducible rfl))
          simp only [Act.put, List.setIfInBounds_toArray, List.set_cons_zero, List.set_cons_succ]
          refine takeAt (i := 3) (v := ?_) rfl (by kernel_rfl) (by kernel_rfl) (by kernel_rfl) (fun _ _ _ h => h) (by kernel_rfl) (by assumption) (fun W hSW => ?_) ?_
          rotate_left
          · ((try unfold BoxAnd at hSW); (try unfold SixAnd at hSW); (try unfold FourT at hSW); (try unfold PutT at hSW); (try unfold TwoSix at hSW); go_simp; (try with_reducible rfl))
          simp only [Act.put, List.setIfInBounds_toArray, List.set_cons_zero, List.set_cons_succ]
          refine onlyAt (i := 4) (by kernel_rfl) rfl (by kernel_rfl) (fun K hK => ?_)
          go_simp
          refine D1.out.mono ?_
          rintro e w2 ⟨rfl, b2⟩
          have hS2 := HS.out w2 (Bstep bdr b2)
          have b12 := Bstep bdr b2
          have B2 := Bstep bel b12
          refine hK.out _ _ hS2 ?_
          clear hK K hS D1 C1
          refine takeAt (i := 5) (v := ?_) rfl (by kernel_rfl) (by kernel_rfl) (by kernel_rfl) (fun _ _ _ h => h) (by kernel_rfl) (by assumption) (fun W hSW => ?_) ?_
          rotate_left
          · ((try unfold BoxAnd at hSW); (try unfold SixAnd at hSW); (try unfold FourT at hSW); (try unfold PutT at hSW); (try unfold TwoSix at hSW); go_simp; (try with_reducible rfl))
          simp only [Act.put, List.setIfInBounds_toArray, List.set_cons_zero, List.set_cons_succ]
          refine takeAt (i := 6) (v := ?_) rfl (by kernel_rfl) (by kernel_rfl) (by kernel_rfl) (fun _ _ _ h => h) (by kernel_rfl) (by assumption) (fun W hSW => ?_) ?_
          rotate_left
          · ((try unfold BoxAnd at hSW); (try unfold SixAnd at hSW); (try unfold FourT at hSW); (try unfold PutT at hSW); (try unfold TwoSix at hSW); go_simp; (try with_reducible rfl))
          simp only [Act.put, List.setIfInBounds_toArray, List.set_cons_zero, List.set_cons_succ]
          refine takeAt (i := 7) (v := ?_) rfl (by kernel_rfl) (by kernel_rfl) (by kernel_rfl) (fun _ _ _ h => h) (by kernel_rfl) (by assumption) (fun W hSW => ?_) ?_
          rotate_left
          · ((try unfold BoxAnd at hSW); (try unfold SixAnd at hSW); (try unfold FourT at hSW); (try unfold PutT at hSW); (try unfold TwoSix at hSW); go_simp; (try with_reducible rfl))
          simp only [Act.put, List.setIfInBounds_toArray, List.set_cons_zero, List.set_cons_succ]
          refine takeAt (i := 8) (v := ?_) rfl (by kernel_rfl) (by kernel_rfl) (by kernel_rfl) (fun _ _ _ h => h) (by kernel_rfl) (by assumption) (fun W hSW => ?_) ?_
          rotate_left
          · ((try unfold BoxAnd at hSW); (try unfold SixAnd at hSW); (try unfold FourT at hSW); (try unfold PutT at hSW); (try unfold TwoSix at hSW); go_simp; (try with_reducible rfl))
          simp only [Act.put, List.setIfInBounds_toArray, List.set_cons_zero, List.set_cons_succ]
          refine takeAt (i := 9) (v := ?_) rfl (by kernel_rfl) (by kernel_rfl) (by kernel_rfl) (fun _ _ _ h => h) (by kernel_rfl) (by assumption) (fun W hSW => ?_) ?_
          rotate_left
          · ((try unfold BoxAnd at hSW); (try unfold SixAnd at hSW); (try unfold FourT at hSW); (try unfold PutT at hSW); (try unfold TwoSix at hSW); go_simp; (try with_reducible rfl))
          simp only [Act.put, List.setIfInBounds_toArray, List.set_cons_zero, List.set_cons_succ]
          refine passAt (i := 10) rfl (by kernel_rfl) (by kernel_rfl) (by kernel_rfl) (fun _ _ _ h => h) (by kernel_rfl) (by assumption) ?_
          simp only [Act.put, List.setIfInBounds_toArray, List.set_cons_zero, List.set_cons_succ]
          refine passAt (i := 11) rfl (by kernel_rfl) (by kernel_rfl) (by kernel_rfl) (fun _ _ _ h => h) (by kernel_rfl) (by assumption) ?_
          simp only [Act.put, List.setIfInBounds_toArray, List.set_cons_zero, List.set_cons_succ]
          refine passAt (i := 12) rfl (by kernel_rfl) (by kernel_rfl) (by kernel_rfl) (fun _ _ _ h => h) (by kernel_rfl) (by assumption) ?_
          simp only [Act.put, List.setIfInBounds_toArray, List.set_cons_zero, List.set_cons_succ]
          refine passAt (i := 13) rfl (by kernel_rfl) (by kernel_rfl) (by kernel_rfl) (fun _ _ _ h => h) (by kernel_rfl) (by assumption) ?_
          simp only [Act.put, List.setIfInBounds_toArray, List.set_cons_zero, List.set_cons_succ]
          refine passAt (i := 14) rfl (by kernel_rfl) (by kernel_rfl) (by kernel_rfl) (fun _ _ _ h => h) (by kernel_rfl) (by assumption) ?_
          simp only [Act.put, List.setIfInBounds_toArray, List.set_cons_zero, List.set_cons_succ]
          refine passAt (i := 15) rfl (by kernel_rfl) (by kernel_rfl) (by kernel_rfl) (fun _ _ _ h => h) (by kernel_rfl) (by assumption) ?_
          simp only [Act.put, List.setIfInBounds_toArray, List.set_cons_zero, List.set_cons_succ]
          refine passAt (i := 16) rfl (by kernel_rfl) (by kernel_rfl) (by kernel_rfl) (fun _ _ _ h => h) (by kernel_rfl) (by assumption) ?_
          simp only [Act.put, List.setIfInBounds_toArray, List.set_cons_zero, List.set_cons_succ]
          refine passAt (i := 17) rfl (by kernel_rfl) (by kernel_rfl) (by kernel_rfl) (fun _ _ _ h => h) (by kernel_rfl) (by assumption) ?_
          simp only [Act.put, List.setIfInBounds_toArray, List.set_cons_zero, List.set_cons_succ]
          refine passAt (i := 18) rfl (by kernel_rfl) (by kernel_rfl) (by kernel_rfl) (fun _ _ _ h => h) (by kernel_rfl) (by assumption) ?_
          simp only [Act.put, List.setIfInBounds_toArray, List.set_cons_zero, List.set_cons_succ]
          refine passAt (i := 19) rfl (by kernel_rfl) (by kernel_rfl) (by kernel_rfl) (fun _ _ _ h => h) (by kernel_rfl) (by assumption) ?_
          simp only [Act.put, List.setIfInBounds_toArray, List.set_cons_zero, List.set_cons_succ]
          refine passAt (i := 20) rfl (by kernel_rfl) (by kernel_rfl) (by kernel_rfl) (fun _ _ _ h => h) (by kernel_rfl) (by assumption) ?_
          simp only [Act.put, List.setIfInBounds_toArray, List.set_cons_zero, List.set_cons_succ]
          refine passAt (i := 21) rfl (by kernel_rfl) (by kernel_rfl) (by kernel_rfl) (fun _ _ _ h => h) (by kernel_rfl) (by assumption) ?_
          simp only [Act.put, List.setIfInBounds_toArray, List.set_cons_zero, List.set_cons_succ]
          refine passAt (i := 22) rfl (by kernel_rfl) (by kernel_rfl) (by kernel_rfl) (fun _ _ _ h => h) (by kernel_rfl) (by assumption) ?_
          simp only [Act.put, List.setIfInBounds_toArray, List.set_cons_zero, List.set_cons_succ]
          refine passAt (i := 23) rfl (by kernel_rfl) (by kernel_rfl) (by kernel_rfl) (fun _ _ _ h => h) (by kernel_rfl) (by assumption) ?_
          simp only [Act.put, List.setIfInBounds_toArray, List.set_cons_zero, List.set_cons_succ]
          refine passAt (i := 24) rfl (by kernel_rfl) (by kernel_rfl) (by kernel_rfl) (fun _ _ _ h => h) (by kernel_rfl) (by assumption) ?_
          simp only [Act.put, List.setIfInBounds_toArray, List.set_cons_zero, List.set_cons_succ]
          refine takeAt (i := 25) (v := ?_) rfl (by kernel_rfl) (by kernel_rfl) (by kernel_rfl) (fun _ _ _ h => h) (by kernel_rfl) (by assumption) (fun W hSW => ?_) ?_
          rotate_left
          · ((try unfold BoxAnd at hSW); (try unfold SixAnd at hSW); (try unfold FourT at hSW); (try unfold PutT at hSW); (try unfold TwoSix at hSW); go_simp; (try with_reducible rfl))
          simp only [Act.put, List.setIfInBounds_toArray, List.set_cons_zero, List.set_cons_succ]
          refine takeAt (i := 26) (v := ?_) rfl (by kernel_rfl) (by kernel_rfl) (by kernel_rfl) (fun _ _ _ h => h) (by kernel_rfl) (by assumption) (fun W hSW => ?_) ?_
          rotate_left
          · ((try unfold BoxAnd at hSW); (try unfold SixAnd at hSW); (try unfold FourT at hSW); (try unfold PutT at hSW); (try unfold TwoSix at hSW); go_simp; (try with_reducible rfl))
          simp only [Act.put, List.setIfInBounds_toArray, List.set_cons_zero, List.set_cons_succ]
          refine wpAnyH_done (by kernel_rfl) ?_ _
          go_wp2_with fail
          go_roundw
          case rel => exact ⟨k + 1, by omega, by go_num, H1.out, B2⟩
          case measure => simp [intOf]; omega
        · obtain ⟨y, a2, c2, Hy, hY⟩ := hvr.parts (k - 1) (by omega)
          have hyok := (stepB_iff.1 (Hrel.out (k - 1) (by omega))).1
          rw [Hy.out] at hyok
          have hylen := (batOk_iff.1 hyok).1.1
          have hyv := hY.batV
          have C2 : Hid (∀ W, Below wr.heap.size wr W → Calls Try.prog 59 #[.agg #[.bool y.packed, .bool y.mark, .int .i64 y.prod, .int .i64 y.epoch, .int .i64 y.seq, .slice a2 y.recs.length c2]] W (SaysI (lastO y) W)) := Lib.hid fun W hW => spec_l12Last _ y W (hyv.below hW) hylen
          obtain ⟨kv, vv, hF⟩ := hrec.rec 0 hlen
          have hf := hF.1
          rw [show po + 0 * 6 = po by omega] at hf
          obtain ⟨z, hz⟩ : ∃ z, lastO y = z := ⟨_, rfl⟩
          obtain ⟨f, hff⟩ : ∃ f, (recAt recs 0).off = f := ⟨_, rfl⟩
          rw [hff] at hf
          rw [hz] at C2
          have HSH : Hid (stepB bs k = decide (z < f)) := Lib.hid (by
            rw [HST.out, hrb, decide_eq_false k0, Hy.out, hz]
            show (true && (false || decide (z < (recAt recs 0).off))) = _
            rw [hff]; simp)
          obtain ⟨yp, ym, yr, ye, yq, ys⟩ := y
          simp only at C2
          have d0 : decide ((0 : Int) < (k : Int)) = true := decide_eq_true (by omega)
          have d0n : decide (0 < k) = true := decide_eq_true (by omega)
          have s1 : IntKind.i64.wrap ((k : Int) - 1) = (k : Int) - 1 := IntWalk.i64_in _ ⟨by omega, by omega⟩
          have n1 : ((k : Int) - 1).toNat = k - 1 := by omega
          have n2 : (1 : Int) ≤ (k : Int) := by omega
          have n3 : (k : Int) - 1 < (bs.length : Int) := by omega
          have HS : Hid (∀ W, Below wr.heap.size wr W → TwoSix W b (off + k * 6) (.bool packed) (.bool mark) (.int .i64 prod) (.int .i64 epoch) (.int .i64 seq) (.slice (some ⟨pb, po, none⟩) recs.length c1) (off + (k - 1) * 6) (.bool yp) (.bool ym) (.int .i64 yr) (.int .i64 ye) (.int .i64 yq) (.slice a2 ys.length c2) ⟨pb, po, none⟩ (.int .i64 f)) := Lib.hid fun W hW =>
            have y := hR0.below hW
            have x := hY.below hW
            ⟨y.1, y.2.1, y.2.2.1, y.2.2.2.1, y.2.2.2.2.1, y.2.2.2.2.2.1, x.1, x.2.1, x.2.2.1, x.2.2.2.1, x.2.2.2.2.1, x.2.2.2.2.2.1, (hW.cell (World.block_lt_of_cell? _ _ hf)).trans hf⟩
          clear hrb HST hxv Hr hvr hrec hR0 hY hyv hyok hylen Hy hz hff hf hF k0
          go_upto_region 4 with (fail)
          have bdr : Below wr.heap.size wr wr.drew := below_drewN (Below.refl _ _) 1
          have S1 := HS.out _ bdr
          have D1 := Lib.hid (C1.out wr.drew bdr)
          refine wp_region_held_drew (S := fun W => TwoSix W b (off + k * 6) (.bool packed) (.bool mark) (.int .i64 prod) (.int .i64 epoch) (.int .i64 seq) (.slice (some ⟨pb, po, none⟩) recs.length c1) (off + (k - 1) * 6) (.bool yp) (.bool ym) (.int .i64 yr) (.int .i64 ye) (.int .i64 yq) (.slice a2 ys.length c2) ⟨pb, po, none⟩ (.int .i64 f)) (by kernel_rfl) S1 (fun hS => ?_)
          clear S1
          refine takeAt (i := 0) (v := ?_) rfl (by kernel_rfl) (by kernel_rfl) (by kernel_rfl) (fun _ _ _ h => h) (by kernel_rfl) (by assumption) (fun W hSW => ?_) ?_
          rotate_left
          · ((try unfold BoxAnd at hSW); (try unfold SixAnd at hSW); (try unfold FourT at hSW); (try unfold PutT at hSW); (try unfold TwoSix at hSW); go_simp; (try with_reducible rfl))
          simp only [Act.put, List.setIfInBounds_toArray, List.set_cons_zero, List.set_cons_succ]
          refine takeAt (i := 1) (v := ?_) rfl (by kernel_rfl) (by kernel_rfl) (by kernel_rfl) (fun _ _ _ h => h) (by kernel_rfl) (by assumption) (fun W hSW => ?_) ?_
          rotate_left
          · ((try unfold BoxAnd at hSW); (try unfold SixAnd at hSW); (try unfold FourT at hSW); (try unfold PutT at hSW); (try unfold TwoSix at hSW); go_simp; (try with_reducible rfl))
          simp only [Act.put, List.setIfInBounds_toArray, List.set_cons_zero, List.set_cons_succ]
          refine takeAt (i := 2) (v := ?_) rfl (by kernel_rfl) (by kernel_rfl) (by kernel_rfl) (fun _ _ _ h => h) (by kernel_rfl) (by assumption) (fun W hSW => ?_) ?_
          rotate_left
          · ((try unfold BoxAnd at hSW); (try unfold SixAnd at hSW); (try unfold FourT at hSW); (try unfold PutT at hSW); (try unfold TwoSix at hSW); go_simp; (try with_reducible rfl))
          simp only [Act.put, List.setIfInBounds_toArray, List.set_cons_zero, List.set_cons_succ]
          refine takeAt (i := 3) (v := ?_) rfl (by kernel_rfl) (by kernel_rfl) (by kernel_rfl) (fun _ _ _ h => h) (by kernel_rfl) (by assumption) (fun W hSW => ?_) ?_
          rotate_left
          · ((try unfold BoxAnd at hSW); (try unfold SixAnd at hSW); (try unfold FourT at hSW); (try unfold PutT at hSW); (try unfold TwoSix at hSW); go_simp; (try with_reducible rfl))
          simp only [Act.put, List.setIfInBounds_toArray, List.set_cons_zero, List.set_cons_succ]
          refine onlyAt (i := 4) (by kernel_rfl) rfl (by kernel_rfl) (fun K hK => ?_)
          go_simp
          refine D1.out.mono ?_
          rintro e w2 ⟨rfl, b2⟩
          have hS2 := HS.out w2 (Bstep bdr b2)
          have b12 := Bstep bdr b2
          have B2 := Bstep bel b12
          refine hK.out _ _ hS2 ?_
          clear hK K hS D1 C1
          have D2 := Lib.hid (C2.out w2 b12)
          clear C2
          refine takeAt (i := 5) (v := ?_) rfl (by kernel_rfl) (by kernel_rfl) (by kernel_rfl) (fun _ _ _ h => h) (by kernel_rfl) (by assumption) (fun W hSW => ?_) ?_
          rotate_left
          · ((try unfold BoxAnd at hSW); (try unfold SixAnd at hSW); (try unfold FourT at hSW); (try unfold PutT at hSW); (try unfold TwoSix at hSW); go_simp; (try with_reducible rfl))
          simp only [Act.put, List.setIfInBounds_toArray, List.set_cons_zero, List.set_cons_succ]
          refine takeAt (i := 6) (v := ?_) rfl (by kernel_rfl) (by kernel_rfl) (by kernel_rfl) (fun _ _ _ h => h) (by kernel_rfl) (by assumption) (fun W hSW => ?_) ?_
          rotate_left
          · ((try unfold BoxAnd at hSW); (try unfold SixAnd at hSW); (try unfold FourT at hSW); (try unfold PutT at hSW); (try unfold TwoSix at hSW); go_simp; (try with_reducible rfl))
          simp only [Act.put, List.setIfInBounds_toArray, List.set_cons_zero, List.set_cons_succ]
          refine takeAt (i := 7) (v := ?_) rfl (by kernel_rfl) (by kernel_rfl) (by kernel_rfl) (fun _ _ _ h => h) (by kernel_rfl) (by assumption) (fun W hSW => ?_) ?_
          rotate_left
          · ((try unfold BoxAnd at hSW); (try unfold SixAnd at hSW); (try unfold FourT at hSW); (try unfold PutT at hSW); (try unfold TwoSix at hSW); go_simp; (try with_reducible rfl))
          simp only [Act.put, List.setIfInBounds_toArray, List.set_cons_zero, List.set_cons_succ]
          refine takeAt (i := 8) (v := ?_) rfl (by kernel_rfl) (by kernel_rfl) (by kernel_rfl) (fun _ _ _ h => h) (by kernel_rfl) (by assumption) (fun W hSW => ?_) ?_
          rotate_left
          · ((try unfold BoxAnd at hSW); (try unfold SixAnd at hSW); (try unfold FourT at hSW); (try unfold PutT at hSW); (try unfold TwoSix at hSW); go_simp; (try with_reducible rfl))
          simp only [Act.put, List.setIfInBounds_toArray, List.set_cons_zero, List.set_cons_succ]
          refine takeAt (i := 9) (v := ?_) rfl (by kernel_rfl) (by kernel_rfl) (by kernel_rfl) (fun _ _ _ h => h) (by kernel_rfl) (by assumption) (fun W hSW => ?_) ?_
          rotate_left
          · ((try unfold BoxAnd at hSW); (try unfold SixAnd at hSW); (try unfold FourT at hSW); (try unfold PutT at hSW); (try unfold TwoSix at hSW); go_simp; (try with_reducible rfl))
          simp only [Act.put, List.setIfInBounds_toArray, List.set_cons_zero, List.set_cons_succ]
          refine takeAt (i := 10) (v := ?_) rfl (by kernel_rfl) (by kernel_rfl) (by kernel_rfl) (fun _ _ _ h => h) (by kernel_rfl) (by assumption) (fun W hSW => ?_) ?_
          rotate_left
          · ((try unfold BoxAnd at hSW); (try unfold SixAnd at hSW); (try unfold FourT at hSW); (try unfold PutT at hSW); (try unfold TwoSix at hSW); go_simp; (try with_reducible rfl))
          simp only [Act.put, List.setIfInBounds_toArray, List.set_cons_zero, List.set_cons_succ]
          refine takeAt (i := 11) (v := ?_) rfl (by kernel_rfl) (by kernel_rfl) (by kernel_rfl) (fun _ _ _ h => h) (by kernel_rfl) (by assumption) (fun W hSW => ?_) ?_
          rotate_left
          · ((try unfold BoxAnd at hSW); (try unfold SixAnd at hSW); (try unfold FourT at hSW); (try unfold PutT at hSW); (try unfold TwoSix at hSW); go_simp; (try with_reducible rfl))
          simp only [Act.put, List.setIfInBounds_toArray, List.set_cons_zero, List.set_cons_succ]
          refine takeAt (i := 12) (v := ?_) rfl (by kernel_rfl) (by kernel_rfl) (by kernel_rfl) (fun _ _ _ h => h) (by kernel_rfl) (by assumption) (fun W hSW => ?_) ?_
          rotate_left
          · ((try unfold BoxAnd at hSW); (try unfold SixAnd at hSW); (try unfold FourT at hSW); (try unfold PutT at hSW); (try unfold TwoSix at hSW); go_simp; (try with_reducible rfl))
          simp only [Act.put, List.setIfInBounds_toArray, List.set_cons_zero, List.set_cons_succ]
          refine takeAt (i := 13) (v := ?_) rfl (by kernel_rfl) (by kernel_rfl) (by kernel_rfl) (fun _ _ _ h => h) (by kernel_rfl) (by assumption) (fun W hSW => ?_) ?_
          rotate_left
          · ((try unfold BoxAnd at hSW); (try unfold SixAnd at hSW); (try unfold FourT at hSW); (try unfold PutT at hSW); (try unfold TwoSix at hSW); go_simp; (try with_reducible rfl))
          simp only [Act.put, List.setIfInBounds_toArray, List.set_cons_zero, List.set_cons_succ]
          refine takeAt (i := 14) (v := ?_) rfl (by kernel_rfl) (by kernel_rfl) (by kernel_rfl) (fun _ _ _ h => h) (by kernel_rfl) (by assumption) (fun W hSW => ?_) ?_
          rotate_left
          · ((try unfold BoxAnd at hSW); (try unfold SixAnd at hSW); (try unfold FourT at hSW); (try unfold PutT at hSW); (try unfold TwoSix at hSW); go_simp; (try with_reducible rfl))
          simp only [Act.put, List.setIfInBounds_toArray, List.set_cons_zero, List.set_cons_succ]
          refine takeAt (i := 16) (v := ?_) rfl (by kernel_rfl) (by kernel_rfl) (by kernel_rfl) (fun _ _ _ h => h) (by kernel_rfl) (by assumption) (fun W hSW => ?_) ?_
          rotate_left
          · ((try unfold BoxAnd at hSW); (try unfold SixAnd at hSW); (try unfold FourT at hSW); (try unfold PutT at hSW); (try unfold TwoSix at hSW); go_simp; (try with_reducible rfl))
          simp only [Act.put, List.setIfInBounds_toArray, List.set_cons_zero, List.set_cons_succ]
          refine takeAt (i := 17) (v := ?_) rfl (by kernel_rfl) (by kernel_rfl) (by kernel_rfl) (fun _ _ _ h => h) (by kernel_rfl) (by assumption) (fun W hSW => ?_) ?_
          rotate_left
          · ((try unfold BoxAnd at hSW); (try unfold SixAnd at hSW); (try unfold FourT at hSW); (try unfold PutT at hSW); (try unfold TwoSix at hSW); go_simp; (try with_reducible rfl))
          simp only [Act.put, List.setIfInBounds_toArray, List.set_cons_zero, List.set_cons_succ]
          refine takeAt (i := 18) (v := ?_) rfl (by kernel_rfl) (by kernel_rfl) (by kernel_rfl) (fun _ _ _ h => h) (by kernel_rfl) (by assumption) (fun W hSW => ?_) ?_
          rotate_left
          · ((try unfold BoxAnd at hSW); (try unfold SixAnd at hSW); (try unfold FourT at hSW); (try unfold PutT at hSW); (try unfold TwoSix at hSW); go_simp; (try with_reducible rfl))
          simp only [Act.put, List.setIfInBounds_toArray, List.set_cons_zero, List.set_cons_succ]
          refine takeAt (i := 19) (v := ?_) rfl (by kernel_rfl) (by kernel_rfl) (by kernel_rfl) (fun _ _ _ h => h) (by kernel_rfl) (by assumption) (fun W hSW => ?_) ?_
          rotate_left
          · ((try unfold BoxAnd at hSW); (try unfold SixAnd at hSW); (try unfold FourT at hSW); (try unfold PutT at hSW); (try unfold TwoSix at hSW); go_simp; (try with_reducible rfl))
          simp only [Act.put, List.setIfInBounds_toArray, List.set_cons_zero, List.set_cons_succ]
          refine takeAt (i := 20) (v := ?_) rfl (by kernel_rfl) (by kernel_rfl) (by kernel_rfl) (fun _ _ _ h => h) (by kernel_rfl) (by assumption) (fun W hSW => ?_) ?_
          rotate_left
          · ((try unfold BoxAnd at hSW); (try unfold SixAnd at hSW); (try unfold FourT at hSW); (try unfold PutT at hSW); (try unfold TwoSix at hSW); go_simp; (try with_reducible rfl))
          simp only [Act.put, List.setIfInBounds_toArray, List.set_cons_zero, List.set_cons_succ]
          refine takeAt (i := 21) (v := ?_) rfl (by kernel_rfl) (by kernel_rfl) (by kernel_rfl) (fun _ _ _ h => h) (by kernel_rfl) (by assumption) (fun W hSW => ?_) ?_
          rotate_left
          · ((try unfold BoxAnd at hSW); (try unfold SixAnd at hSW); (try unfold FourT at hSW); (try unfold PutT at hSW); (try unfold TwoSix at hSW); go_simp; (try with_reducible rfl))
          simp only [Act.put, List.setIfInBounds_toArray, List.set_cons_zero, List.set_cons_succ]
          refine takeAt (i := 22) (v := ?_) rfl (by kernel_rfl) (by kernel_rfl) (by kernel_rfl) (fun _ _ _ h => h) (by kernel_rfl) (by assumption) (fun W hSW => ?_) ?_
          rotate_left
          · ((try unfold BoxAnd at hSW); (try unfold SixAnd at hSW); (try unfold FourT at hSW); (try unfold PutT at hSW); (try unfold TwoSix at hSW); go_simp; (try with_reducible rfl))
          simp only [Act.put, List.setIfInBounds_toArray, List.set_cons_zero, List.set_cons_succ]
          refine takeAt (i := 23) (v := ?_) rfl (by kernel_rfl) (by kernel_rfl) (by kernel_rfl) (fun _ _ _ h => h) (by kernel_rfl) (by assumption) (fun W hSW => ?_) ?_
          rotate_left
          · ((try unfold BoxAnd at hSW); (try unfold SixAnd at hSW); (try unfold FourT at hSW); (try unfold PutT at hSW); (try unfold TwoSix at hSW); go_simp; (try with_reducible rfl))
          simp only [Act.put, List.setIfInBounds_toArray, List.set_cons_zero, List.set_cons_succ]
          refine onlyAt (i := 15) (by kernel_rfl) rfl (by kernel_rfl) (fun K hK => ?_)
          go_simp
          refine D2.out.mono ?_
          rintro e w3 ⟨rfl, b3⟩
          have hS3 := HS.out w3 (Bstep b12 b3)
          have B3 := Bstep B2 b3
          refine hK.out _ _ hS3 ?_
          clear hK K hS2 D2
          by_cases hlo : f ≤ z
          · have d1 : decide (f ≤ z) = true := decide_eq_true hlo
            refine takeAt (i := 24) (v := ?_) rfl (by kernel_rfl) (by kernel_rfl) (by kernel_rfl) (fun _ _ _ h => h) (by kernel_rfl) (by assumption) (fun W hSW => ?_) ?_
            rotate_left
            · ((try unfold BoxAnd at hSW); (try unfold SixAnd at hSW); (try unfold FourT at hSW); (try unfold PutT at hSW); (try unfold TwoSix at hSW); go_simp; (try with_reducible rfl))
            simp only [Act.put, List.setIfInBounds_toArray, List.set_cons_zero, List.set_cons_succ]
            refine takeAt (i := 25) (v := ?_) rfl (by kernel_rfl) (by kernel_rfl) (by kernel_rfl) (fun _ _ _ h => h) (by kernel_rfl) (by assumption) (fun W hSW => ?_) ?_
            rotate_left
            · ((try unfold BoxAnd at hSW); (try unfold SixAnd at hSW); (try unfold FourT at hSW); (try unfold PutT at hSW); (try unfold TwoSix at hSW); go_simp; (try with_reducible rfl))
            simp only [Act.put, List.setIfInBounds_toArray, List.set_cons_zero, List.set_cons_succ]
            refine takeAt (i := 26) (v := ?_) rfl (by kernel_rfl) (by kernel_rfl) (by kernel_rfl) (fun _ _ _ h => h) (by kernel_rfl) (by assumption) (fun W hSW => ?_) ?_
            rotate_left
            · ((try unfold BoxAnd at hSW); (try unfold SixAnd at hSW); (try unfold FourT at hSW); (try unfold PutT at hSW); (try unfold TwoSix at hSW); go_simp; (try with_reducible rfl))
            simp only [Act.put, List.setIfInBounds_toArray, List.set_cons_zero, List.set_cons_succ]
            refine wpAnyH_done (by kernel_rfl) ?_ _
            go_wp2_with fail
            go_ret
            exact ⟨ret_bool (Hno.out (rowB_no hlt (by rw [HSH.out, decide_eq_false (by omega)]))).symm, B3⟩
          · have d1 : decide (f ≤ z) = false := decide_eq_false hlo
            have H1 : Hid (∀ j, j < k + 1 → stepB bs j = true) := Lib.hid fun j hj => by
              by_cases e : j = k
              · rw [e, HSH.out, decide_eq_true (by omega)]
              · exact Hrel.out j (by omega)
            refine takeAt (i := 24) (v := ?_) rfl (by kernel_rfl) (by kernel_rfl) (by kernel_rfl) (fun _ _ _ h => h) (by kernel_rfl) (by assumption) (fun W hSW => ?_) ?_
            rotate_left
            · ((try unfold BoxAnd at hSW); (try unfold SixAnd at hSW); (try unfold FourT at hSW); (try unfold PutT at hSW); (try unfold TwoSix at hSW); go_simp; (try with_reducible rfl))
            simp only [Act.put, List.setIfInBounds_toArray, List.set_cons_zero, List.set_cons_succ]
            refine takeAt (i := 25) (v := ?_) rfl (by kernel_rfl) (by kernel_rfl) (by kernel_rfl) (fun _ _ _ h => h) (by kernel_rfl) (by assumption) (fun W hSW => ?_) ?_
            rotate_left
            · ((try unfold BoxAnd at hSW); (try unfold SixAnd at hSW); (try unfold FourT at hSW); (try unfold PutT at hSW); (try unfold TwoSix at hSW); go_simp; (try with_reducible rfl))
            simp only [Act.put, List.setIfInBounds_toArray, List.set_cons_zero, List.set_cons_succ]
            refine takeAt (i := 26) (v := ?_) rfl (by kernel_rfl) (by kernel_rfl) (by kernel_rfl) (fun _ _ _ h => h) (by kernel_rfl) (by assumption) (fun W hSW => ?_) ?_
            rotate_left
            · ((try unfold BoxAnd at hSW); (try unfold SixAnd at hSW); (try unfold FourT at hSW); (try unfold PutT at hSW); (try unfold TwoSix at hSW); go_simp; (try with_reducible rfl))
            simp only [Act.put, List.setIfInBounds_toArray, List.set_cons_zero, List.set_cons_succ]
            refine wpAnyH_done (by kernel_rfl) ?_ _
            go_wp2_with fail
            go_roundw
            case rel => exact ⟨k + 1, by omega, by go_num, H1.out, B3⟩
            case measure => simp [intOf]; omega
    · have Hfin := Lib.hid (Hend.out (rowB_iff.2 fun i hi => hrel i (by omega)))
      clear hrel
      go_wp2_with fail
      go_ret
      exact ⟨ret_bool Hfin.out, bel⟩
-- WL4

/-- the bytes of batches, one after the other -/
def catB : List Bat → List Int
  | [] => []
  | b :: bs => batB b ++ catB bs
theorem catB_take (bs : List Bat) (k : Nat) (h : k < bs.length) : catB (bs.take (k + 1)) = catB (bs.take k) ++ batB (batN bs k) := by
  induction bs generalizing k with
  | nil => simp at h
  | cons b bs ih =>
    cases k with
    | zero => simp [catB]; rfl
    | succ k =>
      have := ih k (by simpa using h)
      have e : batN (b :: bs) (k + 1) = batN bs k := rfl
      simp only [List.take_succ_cons, catB, e, this, List.append_assoc]
theorem catB_len (bs : List Bat) (h : ∀ i, i < bs.length → batOk (batN bs i) = true) : ∀ k, k ≤ bs.length → (catB (bs.take k)).length ≤ 228 * k := by
  intro k
  induction k with
  | zero => intro _; simp [catB]
  | succ k ih =>
    intro hk
    have h1 := ih (by omega)
    have h2 := (batB_size (h k (by omega))).2
    rw [catB_take bs k (by omega), List.length_append]
    omega
def logB (bs : List Bat) : List Int := if logOk bs = true then catB bs else []
theorem logB_len (bs : List Bat) : (logB bs).length ≤ 1824 := by
  unfold logB
  split
  · rename_i h
    obtain ⟨h8, hs⟩ := logOk_iff.1 h
    have := catB_len bs (fun i hi => (stepB_iff.1 (hs i hi)).1) bs.length (Nat.le_refl _)
    rw [List.take_length] at this
    omega
  · simp
end Go.Proofs.Ytfapeppocfodpaa
