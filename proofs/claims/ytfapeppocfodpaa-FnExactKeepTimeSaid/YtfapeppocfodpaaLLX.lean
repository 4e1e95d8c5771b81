/- Merged: L5d LL LL2. -/
import Derived.Test.YtfapeppocfodpaaLX5
import Derived.Test.YtfapeppocfodpaaB0
import Derived.Test.YtfapeppocfodpaaDX
import Derived.Test.YtfapeppocfodpaaWXL
namespace Go.Proofs.Ytfapeppocfodpaa
open Go.ChangeShapes Go.WideShapes Go.ChangeAt Go.RowKit
set_option linter.unusedVariables false
set_option maxRecDepth 100000

-- L5d

/-- a row of records from cell number c on, the keys from number i on and the values from number j on are as they were -/
def FromC (w : World) (base : Nat) (v : Value) (rs : List Rec) (kv vv : Nat → Value) (c i j : Nat) : Prop :=
  ∃ f : Nat → Value, Row6 w base v rs.length f ∧ (∀ q, c ≤ q → q < rs.length * 6 → f q = rowF rs kv vv q) ∧ (∀ q, i ≤ q → q < rs.length → Own w base (kv q) (recAt rs q).key) ∧ ∀ q, j ≤ q → q < rs.length → Own w base (vv q) (recAt rs q).val
theorem FromC.keep {w w' : World} {base c i j i' j' : Nat} {v : Value} {rs : List Rec} {kv vv : Nat → Value} {row : Option Nat} (h : FromC w base v rs kv vv c i j) (hg : w.grownBy w' row) (hi : i ≤ i') (hj : j ≤ j')
    (h0 : ∀ k, v.ownBlock = some k → row ≠ some k) (h1 : ∀ q k, i' ≤ q → q < rs.length → (kv q).ownBlock = some k → row ≠ some k) (h2 : ∀ q k, j' ≤ q → q < rs.length → (vv q).ownBlock = some k → row ≠ some k) : FromC w' base v rs kv vv c i' j' := by
  have t : ∀ {u : Value}, (∀ k, u.ownBlock = some k → row ≠ some k) → u.ownBlock = none ∨ u.ownBlock ≠ row := fun {u} hu => by
    cases e : u.ownBlock with
    | none => exact .inl rfl
    | some q => exact .inr fun e2 => hu q e e2.symm
  obtain ⟨f, r, hf, hk, hv⟩ := h
  exact ⟨f, r.kept hg (t h0), hf, fun q a b => (hk q (by omega) b).grown hg (t fun k => h1 q k a b), fun q a b => (hv q (by omega) b).grown hg (t fun k => h2 q k a b)⟩
theorem FromC.set {w : World} {base g n cap c i j : Nat} {rs : List Rec} {kv vv : Nat → Value} (h : FromC w base (.slice (some ⟨g, 0, none⟩) n cap) rs kv vv c i j) (hn : n = rs.length) (q c' : Nat) (hq : q < n * 6) (hc : q < c') (hcc : c ≤ c') (u : Value)
    (hs : ∀ j, j < n → (kv j).ownBlock ≠ some g ∧ (vv j).ownBlock ≠ some g) : FromC (w.setCell ⟨g, q, none⟩ u) base (.slice (some ⟨g, 0, none⟩) n cap) rs kv vv c' i j := by
  subst hn
  obtain ⟨f, r, hf, hk, hv⟩ := h
  have hg := set_grown w g q u
  have t : ∀ {x : Value}, x.ownBlock ≠ some g → x.ownBlock = none ∨ x.ownBlock ≠ some g := fun h => .inr h
  refine ⟨_, r.set q hq u, fun p a b => ?_, fun p a b => (hk p a b).grown hg (t (hs p b).1), fun p a b => (hv p a b).grown hg (t (hs p b).2)⟩
  rw [if_neg (by omega)]
  exact hf p (by omega) b
theorem FromC.cells {w : World} {base g cap c i j : Nat} {rs : List Rec} {kv vv : Nat → Value} (h : FromC w base (.slice (some ⟨g, 0, none⟩) rs.length cap) rs kv vv c i j) :
    base ≤ g ∧ g < w.heap.size ∧ (∀ q, q < rs.length * 6 → ∃ u, w.cell? ⟨g, q, none⟩ = some u) ∧ (∀ q, w.frozen? ⟨g, q, none⟩ = false) ∧ (∀ q, q < rs.length → c ≤ q * 6 + 3 → w.cell? ⟨g, q * 6 + 3, none⟩ = some (kv q)) ∧ ∀ q, q < rs.length → c ≤ q * 6 + 5 → w.cell? ⟨g, q * 6 + 5, none⟩ = some (vv q) := by
  obtain ⟨f, r, hf, hk, hv⟩ := h
  have := r.lt g rfl
  refine ⟨this.1, this.2, fun q hq => ⟨_, r.cell q hq⟩, r.frozen, fun q hq hc => ?_, fun q hq hc => ?_⟩
  · rw [r.cell _ (by omega), hf _ hc (by omega), rowF_at _ _ _ _ _ (by omega)]; rfl
  · rw [r.cell _ (by omega), hf _ hc (by omega), rowF_at _ _ _ _ _ (by omega)]; rfl
theorem FromC.key {w : World} {base c i j : Nat} {v : Value} {rs : List Rec} {kv vv : Nat → Value} (h : FromC w base v rs kv vv c i j) (q : Nat) (h1 : i ≤ q) (h2 : q < rs.length) : Own w base (kv q) (recAt rs q).key := by
  obtain ⟨f, r, hf, hk, hv⟩ := h
  exact hk q h1 h2
theorem FromC.val {w : World} {base c i j : Nat} {v : Value} {rs : List Rec} {kv vv : Nat → Value} (h : FromC w base v rs kv vv c i j) (q : Nat) (h1 : j ≤ q) (h2 : q < rs.length) : Own w base (vv q) (recAt rs q).val := by
  obtain ⟨f, r, hf, hk, hv⟩ := h
  exact hv q h1 h2
/-- where the parts of a row of records lie: apart, and ahead of hi -/
def Places (g n hi : Nat) (kv vv : Nat → Value) : Prop :=
  g < hi ∧ (∀ i, i < n → (kv i).ownBlock ≠ some g ∧ (vv i).ownBlock ≠ some g) ∧ (∀ i j k, i < n → j < n → i ≠ j → (kv i).ownBlock = some k → (kv j).ownBlock ≠ some k) ∧ (∀ i j k, i < n → j < n → i ≠ j → (vv i).ownBlock = some k → (vv j).ownBlock ≠ some k) ∧
  (∀ i j k, i < n → j < n → (kv i).ownBlock = some k → (vv j).ownBlock ≠ some k) ∧ ∀ i k, i < n → ((kv i).ownBlock = some k → k < hi) ∧ ((vv i).ownBlock = some k → k < hi)
theorem partB_key (v : Value) (kv vv : Nat → Value) (i : Nat) : partB v kv vv (2 * i + 1) = (kv i).ownBlock := by
  unfold partB
  rw [if_neg (by omega), if_pos (by omega), show (2 * i + 1 - 1) / 2 = i by omega]
theorem partB_val (v : Value) (kv vv : Nat → Value) (i : Nat) : partB v kv vv (2 * i + 2) = (vv i).ownBlock := by
  unfold partB
  rw [if_neg (by omega), if_neg (by omega), show (2 * i + 2 - 2) / 2 = i by omega]
theorem places_of {g n cap hi : Nat} {kv vv : Nat → Value} (h : Sep (.slice (some ⟨g, 0, none⟩) n cap) kv vv n) (ht : ∀ p k, p ≤ 2 * n → partB (.slice (some ⟨g, 0, none⟩) n cap) kv vv p = some k → k < hi) : Places g n hi kv vv := by
  have e0 : partB (.slice (some ⟨g, 0, none⟩) n cap) kv vv 0 = some g := rfl
  refine ⟨ht 0 g (by omega) e0, fun i hi => ⟨fun e => ?_, fun e => ?_⟩, fun i j k hi hj hij e e2 => ?_, fun i j k hi hj hij e e2 => ?_, fun i j k hi hj e e2 => ?_, fun i k hi => ⟨fun e => ?_, fun e => ?_⟩⟩
  · exact h 0 (2 * i + 1) g (by omega) (by omega) (by omega) e0 (by rw [partB_key]; exact e)
  · exact h 0 (2 * i + 2) g (by omega) (by omega) (by omega) e0 (by rw [partB_val]; exact e)
  · exact h (2 * i + 1) (2 * j + 1) k (by omega) (by omega) (by omega) (by rw [partB_key]; exact e) (by rw [partB_key]; exact e2)
  · exact h (2 * i + 2) (2 * j + 2) k (by omega) (by omega) (by omega) (by rw [partB_val]; exact e) (by rw [partB_val]; exact e2)
  · exact h (2 * i + 1) (2 * j + 2) k (by omega) (by omega) (by omega) (by rw [partB_key]; exact e) (by rw [partB_val]; exact e2)
  · exact ht (2 * i + 1) k (by omega) (by rw [partB_key]; exact e)
  · exact ht (2 * i + 2) k (by omega) (by rw [partB_val]; exact e)
/-- v is a row of records of the call's own, all its memory apart and ahead of hi -/
def OwnRecsT (w : World) (base hi : Nat) (v : Value) (rs : List Rec) : Prop :=
  ∃ kv vv : Nat → Value, Row6 w base v rs.length (rowF rs kv vv) ∧ (∀ i, i < rs.length → Own w base (kv i) (recAt rs i).key ∧ Own w base (vv i) (recAt rs i).val) ∧ Sep v kv vv rs.length ∧ ∀ p k, p ≤ 2 * rs.length → partB v kv vv p = some k → k < hi
theorem OwnRecs.top {w : World} {base : Nat} {v : Value} {rs : List Rec} (h : OwnRecs w base v rs) : OwnRecsT w base w.heap.size v rs := by
  obtain ⟨kv, vv, h1, h2, h3⟩ := h
  exact ⟨kv, vv, h1, h2, h3, partB_lt h1 h2⟩
theorem OwnRecsT.below {w w' : World} {base hi : Nat} {v : Value} {rs : List Rec} (h : OwnRecsT w base hi v rs) (hb : Below w.heap.size w w') : OwnRecsT w' base hi v rs := by
  obtain ⟨kv, vv, h1, h2, h3, h4⟩ := h
  exact ⟨kv, vv, h1.below hb, fun i hi => ⟨(h2 i hi).1.below hb, (h2 i hi).2.below hb⟩, h3, h4⟩
theorem OwnRecsT.recs {w : World} {base hi : Nat} {v : Value} {rs : List Rec} (h : OwnRecsT w base hi v rs) : Recs w v rs := by
  obtain ⟨kv, vv, h1, h2, h3, _⟩ := h
  exact OwnRecs.recs ⟨kv, vv, h1, h2, h3⟩
/-- marks were put: only blocks from base up to hi are changed -/
def MarkTurn (w : World) (base hi : Nat) (top : Int) (e : Ending) (w' : World) : Prop := ∃ n : Int, e = .returned (.int .i64 n) ∧ 0 ≤ n ∧ n ≤ top ∧ Turned w w' base hi
set_option maxHeartbeats 2000000 in
theorem laws_markRecordS (v : Value) (base hi : Nat) (rs : List Rec) (k : Int) (w : World) (h : OwnRecsT w base hi v rs) (hk0 : 0 ≤ k) (hk1 : k ≤ 1000000000) (hs : rs.length + szL rs ≤ 100000000) :
    Calls Try.prog 36 #[v, .int .i64 k] w (MarkTurn w base hi (k + 4 * (rs.length : Int) + (szL rs : Int))) := by
  obtain ⟨kv, vv, h1, h2, h3, h4⟩ := h
  have fin0 : Turned w w base hi := Turned.of_below (Below.refl _ _)
  have h1' := h1
  obtain ⟨xs, hr, _⟩ := h1'
  rcases hr.2 with ⟨rfl, h0⟩ | ⟨g, cap, cur, rfl, hb, hg, hl, hm, _⟩
  · go_enter Try.func36, Try.ntmps36
    go_wp2_with fail
    refine wp_loop_rounds 1 ?_
    rw [rounds_succ]
    go_wp2_with fail
    go_ret
    exact ⟨_, rfl, hk0, by omega, fin0⟩
  have HP := Lib.hid (places_of h3 h4)
  have start : FromC w base (.slice (some ⟨g, 0, none⟩) rs.length cap) rs kv vv (0 * 6) 0 0 := ⟨_, h1, fun _ _ _ => rfl, fun q _ hq => (h2 q hq).1, fun q _ hq => (h2 q hq).2⟩
  have HSZ := Lib.hid hs
  have hs1 : rs.length ≤ 100000000 := by omega
  have hgr : base ≤ g ∧ g < w.heap.size := h1.lt g rfl
  obtain ⟨hb1, hb2⟩ := hgr
  unfold maxLen at hm
  clear h1 h2 h3 h4 hr hb hg hs
  go_enter Try.func36, Try.ntmps36
  go_wp2_with fail
  go_loopw [1, 5] (fun q i wr => ∃ (j : Nat) (m : Int), j ≤ rs.length ∧ i = .int .i64 j ∧ q = .int .i64 m ∧ 0 ≤ m ∧ m = k + 4 * (j : Int) + (szL (rs.take j) : Int) ∧ FromC wr base (.slice (some ⟨g, 0, none⟩) rs.length cap) rs kv vv (j * 6) j j ∧ Turned w wr base hi) (fun _ i _ => rs.length - (intOf i).toNat)
  case atStart => exact ⟨0, k, Nat.zero_le _, rfl, rfl, hk0, by simp [szL], start, fin0⟩
  case round =>
    clear start fin0
    obtain ⟨j, m, hj, rfl, rfl, m0, hm1, hF, hT⟩ := hrel
    by_cases hlt : j < rs.length
    · have Hst := Lib.hid (szL_take rs j hlt)
      have hle := szL_le rs (j + 1)
      have hz := Hst.out
      have hm2 : m + 4 + ((recAt rs j).key.length : Int) + ((recAt rs j).val.length : Int) ≤ 1600000000 := by have := HSZ.out; omega
      have HM := Lib.hid hm1
      clear hm1 hz hle
      obtain ⟨ks, hks⟩ : ∃ ks, (recAt rs j).key = ks := ⟨_, rfl⟩
      obtain ⟨us, hus⟩ : ∃ us, (recAt rs j).val = us := ⟨_, rfl⟩
      rw [hks, hus] at hm2 Hst
      have HKS := Lib.hid hks
      have HUS := Lib.hid hus
      clear hks hus
      have hP := HP.out
      unfold Places at hP
      obtain ⟨p0, p1, p2, p3, p4, p5⟩ := hP
      have P1 := Lib.hid p1
      have P2 := Lib.hid p2
      have P3 := Lib.hid p3
      have P4 := Lib.hid p4
      have P5 := Lib.hid p5
      clear p1 p2 p3 p4 p5
      obtain ⟨hg1, hg2, hcs, hfz, _, _⟩ := hF.cells
      obtain ⟨u0, d0⟩ := hcs (j * 6) (by omega)
      obtain ⟨u1, d1⟩ := hcs (j * 6 + 1) (by omega)
      obtain ⟨u2, d2⟩ := hcs (j * 6 + 2) (by omega)
      have t1 : IntKind.i64.wrap (m + 1) = m + 1 := IntWalk.i64_in _ ⟨by omega, by omega⟩
      have t2 : IntKind.i64.wrap (m + 1 + 1) = m + 1 + 1 := IntWalk.i64_in _ ⟨by omega, by omega⟩
      have t3 : IntKind.i64.wrap (m + 1 + 1 + 1) = m + 1 + 1 + 1 := IntWalk.i64_in _ ⟨by omega, by omega⟩
      clear hcs
      go_upto_region 10 with (fail)
      have F3 := ((hF.set rfl (j * 6) (j * 6 + 1) (by omega) (by omega) (by omega) (.int .i64 m) P1.out).set rfl (j * 6 + 1) (j * 6 + 2) (by omega) (by omega) (by omega) (.int .i64 (m + 1)) P1.out).set rfl (j * 6 + 2) (j * 6 + 3) (by omega) (by omega) (by omega) (.bool ((m + 1 + 1) % 3 == 0)) P1.out
      have T3 : Turned w (((wr.setCell ⟨g, j * 6, none⟩ (.int .i64 m)).setCell ⟨g, j * 6 + 1, none⟩ (.int .i64 (m + 1))).setCell ⟨g, j * 6 + 2, none⟩ (.bool ((m + 1 + 1) % 3 == 0))) base hi := hT.trans (Turned.of_grown (grown_trans (grown_trans (set_grown _ _ _ _) (set_grown _ _ _ _)) (set_grown _ _ _ _)) fun q hq => by simp only [Option.some.injEq] at hq; omega)
      generalize hW : ((wr.setCell ⟨g, j * 6, none⟩ (.int .i64 m)).setCell ⟨g, j * 6 + 1, none⟩ (.int .i64 (m + 1))).setCell ⟨g, j * 6 + 2, none⟩ (.bool ((m + 1 + 1) % 3 == 0)) = w3 at F3 T3 ⊢
      clear hW hF hT d0 d1 d2 hfz hg2
      obtain ⟨_, hg2, _, hfz, hck, _⟩ := F3.cells
      have c3 := hck j hlt (by omega)
      have o3 := F3.key j (Nat.le_refl j) hlt
      rw [HKS.out] at o3
      have lk := o3.lt
      have C1 := Lib.hid (laws_markIntS (kv j) base ks (m + 1 + 1 + 1) w3 o3 (by omega) (by omega) (by omega))
      clear hck o3
      go_wp2_with fail
      refine C1.out.mono ?_
      rintro e w4 ⟨rfl, _, g4⟩
      have F4 := F3.keep g4 (Nat.le_succ j) (Nat.le_refl j) (fun q hq e => (P1.out j hlt).1 (by rw [e, ← hq]; rfl)) (fun q x h1 h2 h3 e => P2.out j q x hlt h2 (by omega) e h3) (fun q x h1 h2 h3 e => P4.out j q x hlt h2 e h3)
      have T4 := T3.trans (Turned.of_grown g4 fun x hx => ⟨lk x hx, (P5.out j x hlt).1 hx⟩)
      clear F3 T3 c3 g4 C1 hfz hg2 lk
      obtain ⟨_, hg2, hcs, hfz, _, _⟩ := F4.cells
      obtain ⟨u4, d4⟩ := hcs (j * 6 + 4) (by omega)
      have t4 : IntKind.i64.wrap (m + 1 + 1 + 1 + (ks.length : Int) + 1) = m + 1 + 1 + 1 + (ks.length : Int) + 1 := IntWalk.i64_in _ ⟨by omega, by omega⟩
      clear hcs
      go_upto_region 13 with (fail)
      have F5 := F4.set rfl (j * 6 + 4) (j * 6 + 5) (by omega) (by omega) (by omega) (.bool ((m + 1 + 1 + 1 + (ks.length : Int)) % 3 == 0)) P1.out
      have T5 : Turned w (w4.setCell ⟨g, j * 6 + 4, none⟩ (.bool ((m + 1 + 1 + 1 + (ks.length : Int)) % 3 == 0))) base hi := T4.trans (Turned.of_grown (set_grown _ _ _ _) fun q hq => by simp only [Option.some.injEq] at hq; omega)
      generalize hW : w4.setCell ⟨g, j * 6 + 4, none⟩ (.bool ((m + 1 + 1 + 1 + (ks.length : Int)) % 3 == 0)) = w5 at F5 T5 ⊢
      clear hW F4 T4 d4 hfz hg2
      obtain ⟨_, hg2, _, hfz, _, hcv⟩ := F5.cells
      have c5 := hcv j hlt (by omega)
      have o5 := F5.val j (Nat.le_refl j) hlt
      rw [HUS.out] at o5
      have lk := o5.lt
      have C2 := Lib.hid (laws_markIntS (vv j) base us (m + 1 + 1 + 1 + (ks.length : Int) + 1) w5 o5 (by omega) (by omega) (by omega))
      clear hcv o5
      go_wp2_with fail
      refine C2.out.mono ?_
      rintro e w6 ⟨rfl, _, g6⟩
      have F6 := F5.keep g6 (Nat.le_refl (j + 1)) (Nat.le_succ j) (fun q hq e => (P1.out j hlt).2 (by rw [e, ← hq]; rfl)) (fun q x h1 h2 h3 e => P4.out q j x h2 hlt h3 e) (fun q x h1 h2 h3 e => P3.out j q x hlt h2 (by omega) e h3)
      have T6 := T5.trans (Turned.of_grown g6 fun x hx => ⟨lk x hx, (P5.out j x hlt).2 hx⟩)
      have F7 : FromC w6 base (.slice (some ⟨g, 0, none⟩) rs.length cap) rs kv vv ((j + 1) * 6) (j + 1) (j + 1) := by
        obtain ⟨f, r, hf, hk, hv⟩ := F6
        exact ⟨f, r, fun q a b => hf q (by omega) b, hk, hv⟩
      clear F5 T5 F6 c5 g6 C2 hfz hg2 lk
      go_wp2_with fail
      go_roundw
      case rel => exact ⟨j + 1, _, by omega, by go_num, rfl, by omega, by have := Hst.out; have := HM.out; omega, F7, T6⟩
      case measure => simp [intOf]; omega
    · obtain rfl : j = rs.length := by omega
      go_wp2_with fail
      go_ret
      exact ⟨m, rfl, m0, by rw [hm1, List.take_length]; omega, hT⟩
-- LL

/-- a row of n elements of six cells each, of the call's own -/
def RowB (w : World) (base : Nat) (v : Value) (n : Nat) (f : Nat → Value) : Prop := ∃ xs, w.ownsRow base 43 6 v n xs ∧ ∀ i, i < n * 6 → xs[i]? = some (f i)
theorem RowB.lt {w : World} {base n : Nat} {v : Value} {f : Nat → Value} (h : RowB w base v n f) : ∀ k, v.ownBlock = some k → base ≤ k ∧ k < w.heap.size := by
  obtain ⟨xs, h, _⟩ := h
  exact World.ownsRow.lt h
theorem RowB.kept {w w' : World} {base n : Nat} {v : Value} {f : Nat → Value} {row : Option Nat} (h : RowB w base v n f) (hg : w.grownBy w' row) (hne : v.ownBlock = none ∨ v.ownBlock ≠ row) : RowB w' base v n f := by
  obtain ⟨xs, h, hx⟩ := h
  exact ⟨xs, World.ownsRow.kept h hg hne, hx⟩
theorem RowB.below {w w' : World} {base n : Nat} {v : Value} {f : Nat → Value} (h : RowB w base v n f) (hb : Below w.heap.size w w') : RowB w' base v n f :=
  h.kept (row := none) ⟨hb.os, hb.tape, hb.output, hb.size, fun k hk _ => hb.block k hk⟩ (by cases v.ownBlock <;> simp)
theorem RowB.congr {w : World} {base n : Nat} {v : Value} {f g : Nat → Value} (h : RowB w base v n f) (e : ∀ i, i < n * 6 → f i = g i) : RowB w base v n g := by
  obtain ⟨xs, h, hx⟩ := h
  exact ⟨xs, h, fun i hi => (hx i hi).trans (by rw [e i hi])⟩
theorem RowB.cell {w : World} {base g n cap : Nat} {f : Nat → Value} (h : RowB w base (.slice (some ⟨g, 0, none⟩) n cap) n f) (i : Nat) (hi : i < n * 6) : w.cell? ⟨g, i, none⟩ = some (f i) := by
  obtain ⟨xs, h, hx⟩ := h
  exact (World.ownsRow.cellAt h i hi).trans (hx i hi)
theorem RowB.frozen {w : World} {base g n cap : Nat} {f : Nat → Value} (h : RowB w base (.slice (some ⟨g, 0, none⟩) n cap) n f) (i : Nat) : w.frozen? ⟨g, i, none⟩ = false := by
  obtain ⟨xs, h, hx⟩ := h
  exact World.ownsRow.frozenAt h i
theorem RowB.set {w : World} {base g n cap : Nat} {f : Nat → Value} (h : RowB w base (.slice (some ⟨g, 0, none⟩) n cap) n f) (i : Nat) (hi : i < n * 6) (u : Value) :
    RowB (w.setCell ⟨g, i, none⟩ u) base (.slice (some ⟨g, 0, none⟩) n cap) n (fun j => if j = i then u else f j) := by
  obtain ⟨xs, h, hx⟩ := h
  have hl := h.1
  refine ⟨xs.set i u, (World.ownsRow.stored h i u).1, fun j hj => ?_⟩
  by_cases e : j = i
  · subst e
    simp only [if_true]
    rw [List.getElem?_set_self (by omega)]
  · dsimp only
    rw [if_neg e, List.getElem?_set_ne (fun x => e x.symm)]
    exact hx j hj
theorem RowB.set6 {w : World} {base g n cap : Nat} {f : Nat → Value} (h : RowB w base (.slice (some ⟨g, 0, none⟩) n cap) n f) (j : Nat) (hj : j < n) (v0 v1 v2 v3 v4 v5 : Value) :
    RowB ((((((w.setCell ⟨g, j * 6, none⟩ v0).setCell ⟨g, j * 6 + 1, none⟩ v1).setCell ⟨g, j * 6 + 2, none⟩ v2).setCell ⟨g, j * 6 + 3, none⟩ v3).setCell ⟨g, j * 6 + 4, none⟩ v4).setCell ⟨g, j * 6 + 5, none⟩ v5)
      base (.slice (some ⟨g, 0, none⟩) n cap) n (fun i => if i / 6 = j then six v0 v1 v2 v3 v4 v5 (i % 6) else f i) := by
  refine ((((((h.set (j * 6) (by omega) v0).set (j * 6 + 1) (by omega) v1).set (j * 6 + 2) (by omega) v2).set (j * 6 + 3) (by omega) v3).set (j * 6 + 4) (by omega) v4).set (j * 6 + 5) (by omega) v5).congr fun i hi => ?_
  by_cases e : i / 6 = j
  · rw [if_pos e]
    unfold six
    rcases (show i = j * 6 ∨ i = j * 6 + 1 ∨ i = j * 6 + 2 ∨ i = j * 6 + 3 ∨ i = j * 6 + 4 ∨ i = j * 6 + 5 by omega) with h | h | h | h | h | h
    all_goals
      subst h
      simp
    all_goals omega
  · rw [if_neg e, if_neg (by omega), if_neg (by omega), if_neg (by omega), if_neg (by omega), if_neg (by omega), if_neg (by omega)]
theorem RowB.base {w : World} {base b n : Nat} {v : Value} {f : Nat → Value} (h : RowB w base v n f) (hb : b ≤ base) : RowB w b v n f := by
  obtain ⟨xs, h, hx⟩ := h
  refine ⟨xs, ⟨h.1, ?_⟩, hx⟩
  rcases h.2 with h0 | ⟨g, cap, cur, e, hg, rest⟩
  · exact .inl h0
  · exact .inr ⟨g, cap, cur, e, Nat.le_trans hb hg, rest⟩
theorem info_bat : (Try.prog.info? 43).map (fun i => (i.zero, i.size, i.bytes)) = some (some (.agg #[.bool false, .bool false, .int .i64 0, .int .i64 0, .int .i64 0, .slice none 0 0]), 6, 56) := by kernel_rfl
/-- 'make([]impl.Batch, n)' -/
theorem wp_makeBt {w : World} {ops : Array Oper} {rest : List Oper} {o : Oper} {a : Act} {Q : Exit → Act → World → Prop}
    (hg : o.guard = none) (l c : Operand) (hop : o.op = Op.makeSlice 28 l c)
    (base : Nat) (L C : Int) (n : Nat) (hl : a.eval l = .int .i64 L) (hc : a.eval c = .int .i64 C) (hL : L = (n : Int)) (hC : C = (n : Int)) (b2 : n ≤ 1000000000) (b4 : base ≤ w.heap.size)
    (hK : ∀ w' f, RowB w' base (.slice (some ⟨w.heap.size, 0, none⟩) n n) n f → w.grownBy w' none → wpList Try.prog ops Q rest (a.put o.dst (.slice (some ⟨w.heap.size, 0, none⟩) n n)) w') :
    wpList Try.prog ops Q (o :: rest) a w := by
  obtain ⟨i0, hi, hz0, hz1, hz2⟩ := info_parts info_bat
  refine wpList_make_full w hg l c 28 hop base 43 i0 _ 6 Try.underlying28 hi hz0 hz1 .i64 .i64 L C n hl hc hL hC (by rw [hz2]; omega) (by unfold maxLen; omega) b4 ?_
  intro w' hown hgrow
  refine hK w' (fun i => ((madeCells (Value.agg #[.bool false, .bool false, .int .i64 0, .int .i64 0, .int .i64 0, .slice none 0 0]).cells (n * 6)).toList)[i]?.getD undef) ⟨_, hown, fun i hi => ?_⟩ hgrow
  have hlen := hown.1
  dsimp only
  rw [List.getElem?_eq_getElem (by omega)]
  rfl
/-- the cells of a row of batches -/
def batF (bs : List Bat) (rv : Nat → Value) (i : Nat) : Value := six (.bool (batN bs (i / 6)).packed) (.bool (batN bs (i / 6)).mark) (.int .i64 (batN bs (i / 6)).prod) (.int .i64 (batN bs (i / 6)).epoch) (.int .i64 (batN bs (i / 6)).seq) (rv (i / 6)) (i % 6)
theorem batF_at (bs : List Bat) (rv : Nat → Value) (j k : Nat) (hk : k < 6) : batF bs rv (j * 6 + k) = six (.bool (batN bs j).packed) (.bool (batN bs j).mark) (.int .i64 (batN bs j).prod) (.int .i64 (batN bs j).epoch) (.int .i64 (batN bs j).seq) (rv j) k := by
  unfold batF
  rw [show (j * 6 + k) / 6 = j by omega, show (j * 6 + k) % 6 = k by omega]
theorem OwnRecsT.by {w w' : World} {base hi B : Nat} {v : Value} {rs : List Rec} (h : OwnRecsT w base hi v rs) (hB : B < base) (hg : w.grownBy w' (some B)) : OwnRecsT w' base hi v rs := by
  obtain ⟨kv, vv, h1, h2, h3, h4⟩ := h
  exact ⟨kv, vv, h1.grown' hg hB, fun i hi => ⟨(h2 i hi).1.by hB hg, (h2 i hi).2.by hB hg⟩, h3, h4⟩
theorem OwnRecsT.base {w : World} {base b hi : Nat} {v : Value} {rs : List Rec} (h : OwnRecsT w base hi v rs) (hb : b ≤ base) : OwnRecsT w b hi v rs := by
  obtain ⟨kv, vv, h1, h2, h3, h4⟩ := h
  exact ⟨kv, vv, h1.base hb, fun i hi => ⟨(h2 i hi).1.base hb, (h2 i hi).2.base hb⟩, h3, h4⟩
theorem OwnRecsT.form {w : World} {base hi : Nat} {v : Value} {rs : List Rec} (h : OwnRecsT w base hi v rs) : ∃ a cap, v = .slice a rs.length cap := by
  obtain ⟨a, cap, rfl, _⟩ := h.recs
  exact ⟨a, cap, rfl⟩
/-- the first j batches of a row are in place: the records of number i lie from lo i up to lo (i + 1), the row itself ahead of all of them -/
def BatsUpto (w : World) (base g cap n : Nat) (bs : List Bat) (j : Nat) : Prop :=
  ∃ (f rv : Nat → Value) (lo : Nat → Nat), RowB w base (.slice (some ⟨g, 0, none⟩) n cap) n f ∧ (∀ i, i < j * 6 → f i = batF bs rv i) ∧ (∀ i, i < j → OwnRecsT w (lo i) (lo (i + 1)) (rv i) (batN bs i).recs) ∧ (∀ i, i < j → lo i ≤ lo (i + 1)) ∧ g < lo 0 ∧ lo j ≤ w.heap.size
theorem lo_mono {lo : Nat → Nat} {j : Nat} (h : ∀ i, i < j → lo i ≤ lo (i + 1)) : ∀ i, i ≤ j → lo 0 ≤ lo i := by
  intro i
  induction i with
  | zero => intro _; exact Nat.le_refl _
  | succ i ih => intro hi; exact Nat.le_trans (ih (by omega)) (h i (by omega))
theorem BatsUpto.below {w w' : World} {base g cap n j : Nat} {bs : List Bat} (h : BatsUpto w base g cap n bs j) (hb : Below w.heap.size w w') : BatsUpto w' base g cap n bs j := by
  obtain ⟨f, rv, lo, h1, h2, h3, h4, h5, h6⟩ := h
  exact ⟨f, rv, lo, h1.below hb, h2, fun i hi => (h3 i hi).below hb, h4, h5, Nat.le_trans h6 hb.size⟩
theorem BatsUpto.cells {w : World} {base g cap n j : Nat} {bs : List Bat} (h : BatsUpto w base g cap n bs j) : base ≤ g ∧ g < w.heap.size ∧ (∀ i, i < n * 6 → ∃ u, w.cell? ⟨g, i, none⟩ = some u) ∧ ∀ i, w.frozen? ⟨g, i, none⟩ = false := by
  obtain ⟨f, rv, lo, h1, h2, h3, h4, h5, h6⟩ := h
  have := h1.lt g rfl
  exact ⟨this.1, this.2, fun i hi => ⟨_, h1.cell i hi⟩, h1.frozen⟩
/-- one batch more is put into its place -/
theorem BatsUpto.put {w0 w : World} {base g cap n j : Nat} {bs : List Bat} {x : Bat} {u : Value} (h : BatsUpto w0 base g cap n bs j) (hb : Below w0.heap.size w0 w) (hj : j < n) (hr : batN bs j = x) (o : OwnRecs w w0.heap.size u x.recs) :
    BatsUpto ((((((w.setCell ⟨g, j * 6, none⟩ (.bool x.packed)).setCell ⟨g, j * 6 + 1, none⟩ (.bool x.mark)).setCell ⟨g, j * 6 + 2, none⟩ (.int .i64 x.prod)).setCell ⟨g, j * 6 + 3, none⟩ (.int .i64 x.epoch)).setCell ⟨g, j * 6 + 4, none⟩ (.int .i64 x.seq)).setCell ⟨g, j * 6 + 5, none⟩ u)
      base g cap n bs (j + 1) := by
  subst hr
  obtain ⟨f, rv, lo, h1, h2, h3, h4, h5, h6⟩ := h
  have G := set6_grown w g (j * 6) (.bool (batN bs j).packed) (.bool (batN bs j).mark) (.int .i64 (batN bs j).prod) (.int .i64 (batN bs j).epoch) (.int .i64 (batN bs j).seq) u
  have hm := lo_mono h4
  refine ⟨_, (fun i => if i = j then u else rv i), (fun i => if i = j + 1 then w.heap.size else lo i), (h1.below hb).set6 j hj _ _ _ _ _ _, fun i hi => ?_, fun i hi => ?_, fun i hi => ?_, ?_, ?_⟩
  · by_cases e : i / 6 = j
    · rw [if_pos e]
      unfold batF
      rw [e]
      simp
    · rw [if_neg e, h2 i (by omega)]
      unfold batF
      dsimp only
      rw [if_neg e]
  · dsimp only
    rw [if_neg (show ¬ i = j + 1 by omega)]
    by_cases e : i = j
    · subst e
      rw [if_pos rfl, if_pos rfl]
      exact (o.top.by (show g < w0.heap.size from (h1.lt g rfl).2) G).base h6
    · rw [if_neg e, if_neg (by omega)]
      exact ((h3 i (by omega)).below hb).by (Nat.lt_of_lt_of_le h5 (hm i (by omega))) G
  · dsimp only
    rw [if_neg (show ¬ i = j + 1 by omega)]
    by_cases e : i = j
    · subst e
      rw [if_pos rfl]
      exact Nat.le_trans h6 hb.size
    · rw [if_neg (by omega)]
      exact h4 i (by omega)
  · dsimp only
    rw [if_neg (by omega)]
    exact h5
  · dsimp only
    rw [if_pos rfl]
    exact G.size
/-- v is a row of the batches bs, of the call's own -/
def OwnBats (w : World) (base : Nat) (v : Value) (bs : List Bat) : Prop := ∃ g cap, v = .slice (some ⟨g, 0, none⟩) bs.length cap ∧ BatsUpto w base g cap bs.length bs bs.length
theorem OwnBats.below {w w' : World} {base : Nat} {v : Value} {bs : List Bat} (h : OwnBats w base v bs) (hb : Below w.heap.size w w') : OwnBats w' base v bs := by
  obtain ⟨g, cap, rfl, h⟩ := h
  exact ⟨g, cap, rfl, h.below hb⟩
theorem OwnBats.bats {w : World} {base : Nat} {v : Value} {bs : List Bat} (h : OwnBats w base v bs) : Bats w v bs := by
  obtain ⟨g, cap, rfl, f, rv, lo, h1, h2, h3, h4, h5, h6⟩ := h
  obtain ⟨xs, hr, hx⟩ := id h1
  obtain ⟨hl, hm⟩ : bs.length ≤ cap ∧ cap ≤ maxLen := by
    rcases hr.2 with ⟨e, h0⟩ | ⟨_, _, _, e, _, _, hl, hm, _⟩
    · cases e
    · simp only [Value.slice.injEq] at e
      obtain ⟨_, _, rfl⟩ := e
      exact ⟨hl, hm⟩
  refine ⟨_, cap, rfl, hl, hm, fun _ => ⟨g, 0, rfl, fun i hi => ⟨rv i, ?_⟩⟩⟩
  have c : ∀ k, k < 6 → w.cell? ⟨g, 0 + i * 6 + k, none⟩ = some (six (.bool (batN bs i).packed) (.bool (batN bs i).mark) (.int .i64 (batN bs i).prod) (.int .i64 (batN bs i).epoch) (.int .i64 (batN bs i).seq) (rv i) k) := fun k hk => by
    rw [Nat.zero_add, h1.cell (i * 6 + k) (by omega), h2 _ (by omega), batF_at _ _ _ _ hk]
  exact ⟨c 0 (by omega), c 1 (by omega), c 2 (by omega), c 3 (by omega), c 4 (by omega), c 5 (by omega), (h3 i hi).recs⟩
/-- how many elements batches have together -/
def szB : List Bat → Nat
  | [] => 0
  | b :: bs => b.recs.length + szL b.recs + szB bs
theorem szB_at (bs : List Bat) : ∀ i, i < bs.length → (batN bs i).recs.length + szL (batN bs i).recs ≤ szB bs := by
  induction bs with
  | nil => intro i h; simp at h
  | cons r rs ih =>
    intro i h
    cases i with
    | zero => simp only [szB]; have : batN (r :: rs) 0 = r := rfl; rw [this]; omega
    | succ i =>
      have := ih i (by simpa using h)
      have e : batN (r :: rs) (i + 1) = batN rs i := rfl
      rw [e]; simp only [szB]; omega
theorem szB_take (bs : List Bat) (k : Nat) (h : k < bs.length) : szB (bs.take (k + 1)) = szB (bs.take k) + ((batN bs k).recs.length + szL (batN bs k).recs) := by
  induction bs generalizing k with
  | nil => simp at h
  | cons r rs ih =>
    cases k with
    | zero => simp [szB]; rfl
    | succ k =>
      have := ih k (by simpa using h)
      have e : batN (r :: rs) (k + 1) = batN rs k := rfl
      simp only [List.take_succ_cons, szB, e]
      omega
theorem szB_le (bs : List Bat) : ∀ k, szB (bs.take k) ≤ szB bs := by
  induction bs with
  | nil => intro k; simp
  | cons r rs ih =>
    intro k
    cases k with
    | zero => simp [szB]
    | succ k => simp only [List.take_succ_cons, szB]; have := ih k; omega
set_option maxHeartbeats 1000000 in
theorem laws_szBatchS (v : Value) (rs : List Bat) (left : Int) (w : World) (h : Bats w v rs) (h0 : 0 ≤ left) (h1 : left ≤ 1000000000) :
    Calls Try.prog 8 #[v, .int .i64 left] w (SzN (rs.length + szB rs) left w) := by
  have hv := h
  obtain ⟨a, cap, rfl, hl, hm, hc⟩ := h
  unfold maxLen at hm
  clear hc
  by_cases hn : left - (rs.length : Int) < 0
  · have d0 : decide (left - (rs.length : Int) < 0) = true := decide_eq_true hn
    have d1 : decide (left < (rs.length : Int)) = true := decide_eq_true (by omega)
    have fin : SzN (rs.length + szB rs) left w (.returned (.int .i64 (-1))) w := ⟨⟨_, rfl, .inl ⟨rfl, by omega⟩⟩, Below.refl _ _⟩
    have Fin := Lib.hid fin
    clear fin
    go_enter Try.func8, Try.ntmps8
    go_wp2_with fail
    go_ret
    exact Fin.out
  · have d0 : decide (left - (rs.length : Int) < 0) = false := decide_eq_false hn
    have d1 : decide (left < (rs.length : Int)) = false := decide_eq_false (by omega)
    have b0 : 0 ≤ left - (rs.length : Int) := by omega
    go_enter Try.func8, Try.ntmps8
    go_wp2_with fail
    go_loopw [1, 5] (fun l i wr => ∃ (k : Nat) (m : Int), k ≤ rs.length ∧ i = .int .i64 k ∧ l = .int .i64 m ∧ 0 ≤ m ∧ m + (rs.length : Int) + (szB (rs.take k) : Int) = left ∧ Below w.heap.size w wr) (fun _ i _ => rs.length - (intOf i).toNat)
    case atStart => exact ⟨0, left - (rs.length : Int), Nat.zero_le _, rfl, rfl, b0, by simp [szB], Below.refl _ _⟩
    case round =>
      obtain ⟨k, m, hk, rfl, rfl, m0, hsum, bel⟩ := hrel
      have m1 : m ≤ 1000000000 := by omega
      have HSum := Lib.hid hsum
      clear hsum
      by_cases hlt : k < rs.length
      · obtain ⟨b, off, cap', e, hm'⟩ := hv.form (by omega)
        simp only [Value.slice.injEq, true_and] at e
        obtain ⟨rfl, rfl⟩ := e
        have hvr := hv.below bel
        obtain ⟨r, a1, c1, Hr, hR⟩ := hvr.parts k hlt
        have C1 := Lib.hid (laws_szBatch _ r m wr hR.batV m0 m1)
        have Hst := Lib.hid (szB_take rs k hlt)
        obtain ⟨e0, e1, e2, e3, e4, e5, _⟩ := hR
        go_wp2_with fail
        (with_reducible refine C1.out.mono ?_)
        rintro e w2 ⟨⟨q, rfl, hq⟩, b2⟩
        have B2 := Bstep bel b2
        rcases hq with ⟨rfl, hq⟩ | ⟨q0, hq⟩
        · have fin : SzN (rs.length + szB rs) left w (.returned (.int .i64 (-1))) w2 := ⟨⟨_, rfl, .inl ⟨rfl, by have := szB_at rs k hlt; have h3 := Hst.out; rw [Hr.out] at h3 this; have h4 := HSum.out; have h5 : szB (rs.take (k + 1)) ≤ szB rs := szB_le rs (k + 1); omega⟩⟩, B2⟩
          have Fin := Lib.hid fin
          clear fin hq
          go_wp2_with fail
          go_ret
          exact Fin.out
        · have d2 : decide (q < 0) = false := decide_eq_false (by omega)
          have hn2 : q + (rs.length : Int) + (szB (rs.take (k + 1)) : Int) = left := by have h3 := Hst.out; rw [Hr.out] at h3; have h4 := HSum.out; omega
          have Hn2 := Lib.hid hn2
          clear hn2 hq
          go_wp2_with fail
          go_roundw
          case rel => exact ⟨k + 1, q, by omega, by go_num, rfl, q0, Hn2.out, B2⟩
          case measure => simp [intOf]; omega
      · have fin : SzN (rs.length + szB rs) left w (.returned (.int .i64 m)) wr := ⟨⟨_, rfl, .inr ⟨m0, by have h4 := HSum.out; rw [List.take_of_length_le (by omega)] at h4; omega⟩⟩, bel⟩
        have Fin := Lib.hid fin
        clear fin
        go_wp2_with fail
        go_ret
        exact Fin.out
/-- a copy of batches, in memory of its own -/
def BatsCopy (w : World) (bs : List Bat) (e : Ending) (w' : World) : Prop := ∃ v, e = .returned v ∧ OwnBats w' w.heap.size v bs ∧ Below w.heap.size w w'
set_option maxHeartbeats 1000000 in
theorem laws_toBatchS (v : Value) (bs : List Bat) (w : World) (h : Bats w v bs) (hs : bs.length + szB bs ≤ 100000000) : Calls Try.prog 10 #[v] w (BatsCopy w bs) := by
  have hv := h
  obtain ⟨a, cap, rfl, hl, hm, hc⟩ := h
  unfold maxLen at hm
  clear hc
  have hs1 : bs.length ≤ 1000000000 := by omega
  have Hsz : Hid (∀ k, k < bs.length → (batN bs k).recs.length + szL (batN bs k).recs ≤ 100000000) := Lib.hid fun k hk => by have := szB_at bs k hk; omega
  go_enter Try.func10, Try.ntmps10
  go_wp2_with (at_make; refine wp_makeBt rfl _ _ rfl w.heap.size _ _ bs.length rfl rfl rfl rfl hs1 (Nat.le_refl _) ?_; intro w0 f0 hrow0 hgrow0)
  have hb0 : Below w.heap.size w w0 := (Below.refl _ _).grown hgrow0 (Nat.le_refl _) (fun k hk => by cases hk)
  have hlt0 := (hrow0.lt w.heap.size rfl).2
  have start : BatsUpto w0 w.heap.size w.heap.size bs.length bs.length bs 0 := ⟨f0, fun _ => undef, fun _ => w0.heap.size, hrow0, fun i hi => by omega, fun i hi => by omega, fun i hi => by omega, hlt0, Nat.le_refl _⟩
  clear hrow0 hgrow0 hlt0
  go_loopw [4] (fun i wr => ∃ j : Nat, j ≤ bs.length ∧ i = .int .i64 j ∧ BatsUpto wr w.heap.size w.heap.size bs.length bs.length bs j ∧ Below w.heap.size w wr) (fun i _ => bs.length - (intOf i).toNat)
  case atStart => exact ⟨0, Nat.zero_le _, rfl, start, hb0⟩
  case round =>
    clear start hb0
    obtain ⟨j, hj, rfl, hrow, bel⟩ := hrel
    by_cases hlt : j < bs.length
    · obtain ⟨b, off, cap', e, hm'⟩ := hv.form (by omega)
      simp only [Value.slice.injEq, true_and] at e
      obtain ⟨rfl, rfl⟩ := e
      have hvr := hv.below bel
      obtain ⟨x, a1, c1, Hr, hR⟩ := hvr.parts j hlt
      have hsz := Hsz.out j hlt
      rw [Hr.out] at hsz
      have C1 := Lib.hid (laws_toBatch _ x wr hR.batV hsz)
      obtain ⟨e0, e1, e2, e3, e4, e5, _⟩ := hR
      clear hsz
      go_wp2_with fail
      (with_reducible refine C1.out.mono ?_)
      rintro e w2 ⟨u, rfl, ⟨rv, rfl, o1⟩, b2⟩
      obtain ⟨x1, y1, rfl⟩ := o1.form
      have B2 := Bstep bel b2
      have hrow2 := hrow.below b2
      obtain ⟨hg1, hg2, hcs, hfz⟩ := hrow2.cells
      obtain ⟨u0, d0⟩ := hcs (j * 6) (by omega)
      obtain ⟨u1, d1⟩ := hcs (j * 6 + 1) (by omega)
      obtain ⟨u2, d2⟩ := hcs (j * 6 + 2) (by omega)
      obtain ⟨u3, d3⟩ := hcs (j * 6 + 3) (by omega)
      obtain ⟨u4, d4⟩ := hcs (j * 6 + 4) (by omega)
      obtain ⟨u5, d5⟩ := hcs (j * 6 + 5) (by omega)
      have new := hrow.put b2 hlt Hr.out o1
      have B3 : Below w.heap.size w _ := B2.grown (set6_grown w2 w.heap.size (j * 6) (.bool x.packed) (.bool x.mark) (.int .i64 x.prod) (.int .i64 x.epoch) (.int .i64 x.seq) (.slice x1 x.recs.length y1)) B2.size (fun k hk => by simp only [Option.some.injEq] at hk; omega)
      clear hcs hrow hrow2 o1 e0 e1 e2 e3 e4 e5
      go_wp2_with fail
      go_roundw
      case rel => exact ⟨j + 1, by omega, by go_num, new, B3⟩
      case measure => simp [intOf]; omega
    · obtain rfl : j = bs.length := by omega
      go_wp2_with fail
      go_ret
      exact ⟨_, rfl, ⟨_, _, rfl, hrow⟩, bel⟩
/-- twelve cells: two batches that are the same -/
def SixSixB (W : World) (b q b' q' : Nat) (v0 v1 v2 v3 v4 r1 r2 : Value) : Prop :=
  W.cell? ⟨b, q, none⟩ = some v0 ∧ W.cell? ⟨b, q + 1, none⟩ = some v1 ∧ W.cell? ⟨b, q + 2, none⟩ = some v2 ∧ W.cell? ⟨b, q + 3, none⟩ = some v3 ∧ W.cell? ⟨b, q + 4, none⟩ = some v4 ∧ W.cell? ⟨b, q + 5, none⟩ = some r1 ∧
  W.cell? ⟨b', q', none⟩ = some v0 ∧ W.cell? ⟨b', q' + 1, none⟩ = some v1 ∧ W.cell? ⟨b', q' + 2, none⟩ = some v2 ∧ W.cell? ⟨b', q' + 3, none⟩ = some v3 ∧ W.cell? ⟨b', q' + 4, none⟩ = some v4 ∧ W.cell? ⟨b', q' + 5, none⟩ = some r2
set_option maxHeartbeats 1000000 in
theorem laws_eqBatchS (v u : Value) (rs : List Bat) (w : World) (h : Bats w v rs) (g : Bats w u rs) : Calls Try.prog 14 #[v, u] w (Same w true) := by
  have hv := h
  have hu := g
  obtain ⟨a, cap, rfl, hl, hm, hc⟩ := h
  obtain ⟨a', cap', rfl, hl', hm', hc'⟩ := g
  unfold maxLen at hm hm'
  clear hc hc'
  have q0 : ((rs.length : Int) != (rs.length : Int)) = false := by simp
  go_enter Try.func14, Try.ntmps14
  go_wp2_with fail
  go_loopw [5] (fun i wr => ∃ k : Nat, k ≤ rs.length ∧ i = .int .i64 k ∧ Below w.heap.size w wr) (fun i _ => rs.length - (intOf i).toNat)
  case atStart => exact ⟨0, Nat.zero_le _, rfl, Below.refl _ _⟩
  case round =>
    obtain ⟨k, hk, rfl, bel⟩ := hrel
    by_cases hlt : k < rs.length
    · obtain ⟨b, off, cp, e, hmm⟩ := hv.form (by omega)
      simp only [Value.slice.injEq, true_and] at e
      obtain ⟨rfl, rfl⟩ := e
      obtain ⟨b', off', cp', e, hmm'⟩ := hu.form (by omega)
      simp only [Value.slice.injEq, true_and] at e
      obtain ⟨rfl, rfl⟩ := e
      have hvr := hv.below bel
      have hur := hu.below bel
      obtain ⟨r, a1, c1, Hr, hR⟩ := hvr.parts k hlt
      obtain ⟨r', a3, c3, Hr', hR'⟩ := hur.parts k hlt
      obtain rfl : r' = r := Hr'.out.symm.trans Hr.out
      have C1 : Hid (∀ W, Below wr.heap.size wr W → Calls Try.prog 35 #[.agg #[.bool r'.packed, .bool r'.mark, .int .i64 r'.prod, .int .i64 r'.epoch, .int .i64 r'.seq, .slice a1 r'.recs.length c1], .agg #[.bool r'.packed, .bool r'.mark, .int .i64 r'.prod, .int .i64 r'.epoch, .int .i64 r'.seq, .slice a3 r'.recs.length c3]] W (Same W true)) := Lib.hid fun W hW => laws_eqBatch _ _ r' W (hR.batV.below hW) (hR'.batV.below hW)
      have HS : Hid (∀ W, Below wr.heap.size wr W → SixSixB W b (off + k * 6) b' (off' + k * 6) (.bool r'.packed) (.bool r'.mark) (.int .i64 r'.prod) (.int .i64 r'.epoch) (.int .i64 r'.seq) (.slice a1 r'.recs.length c1) (.slice a3 r'.recs.length c3)) := Lib.hid fun W hW => by
        obtain ⟨x0, x1, x2, x3, x4, x5, _⟩ := hR.below hW
        obtain ⟨y0, y1, y2, y3, y4, y5, _⟩ := hR'.below hW
        exact ⟨x0, x1, x2, x3, x4, x5, y0, y1, y2, y3, y4, y5⟩
      have bdr : Below wr.heap.size wr wr.drew := below_drewN (Below.refl _ _) 1
      have S1 := HS.out wr.drew bdr
      have D1 := Lib.hid (C1.out wr.drew bdr)
      clear hR hR' Hr Hr' C1
      go_upto_region 6 with (fail)
      unfold SixSixB at S1
      go_region_held3 (fun W => W.cell? ⟨b, off + k * 6, none⟩ = some (.bool r'.packed) ∧ W.cell? ⟨b, off + k * 6 + 1, none⟩ = some (.bool r'.mark) ∧ W.cell? ⟨b, off + k * 6 + 2, none⟩ = some (.int .i64 r'.prod) ∧ W.cell? ⟨b, off + k * 6 + 3, none⟩ = some (.int .i64 r'.epoch) ∧ W.cell? ⟨b, off + k * 6 + 4, none⟩ = some (.int .i64 r'.seq) ∧ W.cell? ⟨b, off + k * 6 + 5, none⟩ = some (.slice a1 r'.recs.length c1) ∧ W.cell? ⟨b', off' + k * 6, none⟩ = some (.bool r'.packed) ∧ W.cell? ⟨b', off' + k * 6 + 1, none⟩ = some (.bool r'.mark) ∧ W.cell? ⟨b', off' + k * 6 + 2, none⟩ = some (.int .i64 r'.prod) ∧ W.cell? ⟨b', off' + k * 6 + 3, none⟩ = some (.int .i64 r'.epoch) ∧ W.cell? ⟨b', off' + k * 6 + 4, none⟩ = some (.int .i64 r'.seq) ∧ W.cell? ⟨b', off' + k * 6 + 5, none⟩ = some (.slice a3 r'.recs.length c3)) (first | with_reducible exact S1 | exact HS.out _ (Bstep bdr b8) | go_keep)
        (first | (go_at_call 35; ((with_reducible refine D1.out.mono ?_); rintro e w8 ⟨rfl, b8⟩)))
      have B8 := Bstep bel (Bstep bdr b8)
      go_wp2_with fail
      go_roundw
      case rel => exact ⟨k + 1, by omega, by go_num, B8⟩
      case measure => simp [intOf]; omega
    · go_wp2_with fail
      go_ret
      exact ⟨rfl, bel⟩

-- LL2

theorem RowB.turned {w w' : World} {base n lo hi : Nat} {v : Value} {f : Nat → Value} (h : RowB w base v n f) (ht : Turned w w' lo hi) (ho : ∀ b, v.ownBlock = some b → b < lo ∨ hi ≤ b) : RowB w' base v n f := by
  obtain ⟨xs, h, hx⟩ := h
  refine ⟨xs, ⟨h.1, ?_⟩, hx⟩
  rcases h.2 with h0 | ⟨g, cap, cur, e, hg, hh, r⟩
  · exact .inl h0
  · have hlt := World.ownsRow.lt h g (by rw [e]; rfl)
    exact .inr ⟨g, cap, cur, e, hg, (ht.2.2.2.2 g hlt.2 (ho g (by rw [e]; rfl))).trans hh, r⟩
theorem Row6.turned {w w' : World} {base n lo hi : Nat} {v : Value} {f : Nat → Value} (h : Row6 w base v n f) (ht : Turned w w' lo hi) (ho : ∀ b, v.ownBlock = some b → b < lo ∨ hi ≤ b) : Row6 w' base v n f := by
  obtain ⟨xs, h, hx⟩ := h
  refine ⟨xs, ⟨h.1, ?_⟩, hx⟩
  rcases h.2 with h0 | ⟨g, cap, cur, e, hg, hh, r⟩
  · exact .inl h0
  · have hlt := World.ownsRow.lt h g (by rw [e]; rfl)
    exact .inr ⟨g, cap, cur, e, hg, (ht.2.2.2.2 g hlt.2 (ho g (by rw [e]; rfl))).trans hh, r⟩
theorem OwnRecsT.turnedHi {w w' : World} {base top lo hi : Nat} {v : Value} {rs : List Rec} (h : OwnRecsT w base top v rs) (ht : Turned w w' lo hi) (hb : hi ≤ base) : OwnRecsT w' base top v rs := by
  obtain ⟨kv, vv, h1, h2, h3, h4⟩ := h
  exact ⟨kv, vv, h1.turned ht (fun b hk => .inr (Nat.le_trans hb (h1.lt b hk).1)), fun i hi => ⟨(h2 i hi).1.turned ht (fun b hk => .inr (Nat.le_trans hb ((h2 i hi).1.lt b hk))), (h2 i hi).2.turned ht (fun b hk => .inr (Nat.le_trans hb ((h2 i hi).2.lt b hk)))⟩, h3, h4⟩
/-- a row of batches from cell number c on, and the records from batch number i on, are as they were -/
def FromB (w : World) (base g cap n : Nat) (bs : List Bat) (rv : Nat → Value) (lo : Nat → Nat) (c i : Nat) : Prop :=
  ∃ f : Nat → Value, RowB w base (.slice (some ⟨g, 0, none⟩) n cap) n f ∧ (∀ q, c ≤ q → q < n * 6 → f q = batF bs rv q) ∧ ∀ q, i ≤ q → q < n → OwnRecsT w (lo q) (lo (q + 1)) (rv q) (batN bs q).recs
theorem FromB.set {w : World} {base g cap n c i : Nat} {bs : List Bat} {rv : Nat → Value} {lo : Nat → Nat} (h : FromB w base g cap n bs rv lo c i) (hn : n = bs.length) (q c' : Nat) (hq : q < n * 6) (hc : q < c') (hcc : c ≤ c') (u : Value)
    (hs : ∀ q, q < n → g < lo q) : FromB (w.setCell ⟨g, q, none⟩ u) base g cap n bs rv lo c' i := by
  obtain ⟨f, r, hf, hk⟩ := h
  have hg := set_grown w g q u
  refine ⟨_, r.set q hq u, fun p a b => ?_, fun p a b => (hk p a b).by (hs p b) hg⟩
  rw [if_neg (by omega)]
  exact hf p (by omega) b
theorem FromB.turned {w w' : World} {base g cap n c i : Nat} {bs : List Bat} {rv : Nat → Value} {lo : Nat → Nat} (h : FromB w base g cap n bs rv lo c i) (ht : Turned w w' (lo i) (lo (i + 1))) (hg : g < lo i) (hm : ∀ q, i + 1 ≤ q → q < n → lo (i + 1) ≤ lo q) : FromB w' base g cap n bs rv lo c (i + 1) := by
  obtain ⟨f, r, hf, hk⟩ := h
  exact ⟨f, r.turned ht (fun b hb => .inl (by simp only [Value.ownBlock, Option.some.injEq] at hb; omega)), hf, fun q a b => (hk q (by omega) b).turnedHi ht (hm q a b)⟩
theorem FromB.cells {w : World} {base g cap n c i : Nat} {bs : List Bat} {rv : Nat → Value} {lo : Nat → Nat} (h : FromB w base g cap n bs rv lo c i) :
    base ≤ g ∧ g < w.heap.size ∧ (∀ q, q < n * 6 → ∃ u, w.cell? ⟨g, q, none⟩ = some u) ∧ (∀ q, w.frozen? ⟨g, q, none⟩ = false) ∧ ∀ q, q < n → c ≤ q * 6 + 5 → w.cell? ⟨g, q * 6 + 5, none⟩ = some (rv q) := by
  obtain ⟨f, r, hf, hk⟩ := h
  have := r.lt g rfl
  refine ⟨this.1, this.2, fun q hq => ⟨_, r.cell q hq⟩, r.frozen, fun q hq hc => ?_⟩
  rw [r.cell _ (by omega), hf _ hc (by omega), batF_at _ _ _ _ (by omega)]; rfl
theorem FromB.recs {w : World} {base g cap n c i : Nat} {bs : List Bat} {rv : Nat → Value} {lo : Nat → Nat} (h : FromB w base g cap n bs rv lo c i) (q : Nat) (h1 : i ≤ q) (h2 : q < n) : OwnRecsT w (lo q) (lo (q + 1)) (rv q) (batN bs q).recs := by
  obtain ⟨f, r, hf, hk⟩ := h
  exact hk q h1 h2
theorem Turned.wide {w w' : World} {lo hi l h : Nat} (t : Turned w w' lo hi) (h1 : l ≤ lo) (h2 : hi ≤ h) : Turned w w' l h :=
  ⟨t.1, t.2.1, t.2.2.1, t.2.2.2.1, fun b hb ho => t.2.2.2.2 b hb (by omega)⟩
theorem lo_le {lo : Nat → Nat} {n : Nat} (h : ∀ i, i < n → lo i ≤ lo (i + 1)) : ∀ j i, i ≤ j → j ≤ n → lo i ≤ lo j := by
  intro j
  induction j with
  | zero => intro i h1 h2; rw [show i = 0 by omega]; exact Nat.le_refl _
  | succ j ih =>
    intro i h1 h2
    by_cases e : i = j + 1
    · rw [e]; exact Nat.le_refl _
    · exact Nat.le_trans (ih i (by omega) (by omega)) (h j (by omega))
/-- v is a row of the batches bs of the call's own, all its memory ahead of hi -/
def OwnBatsT (w : World) (base hi : Nat) (v : Value) (bs : List Bat) : Prop :=
  ∃ (g cap : Nat) (rv : Nat → Value) (lo : Nat → Nat), v = .slice (some ⟨g, 0, none⟩) bs.length cap ∧ RowB w base (.slice (some ⟨g, 0, none⟩) bs.length cap) bs.length (batF bs rv) ∧ (∀ i, i < bs.length → OwnRecsT w (lo i) (lo (i + 1)) (rv i) (batN bs i).recs) ∧ (∀ i, i < bs.length → lo i ≤ lo (i + 1)) ∧ g < lo 0 ∧ lo bs.length ≤ hi
theorem OwnBats.top {w : World} {base : Nat} {v : Value} {bs : List Bat} (h : OwnBats w base v bs) : OwnBatsT w base w.heap.size v bs := by
  obtain ⟨g, cap, rfl, f, rv, lo, h1, h2, h3, h4, h5, h6⟩ := h
  exact ⟨g, cap, rv, lo, rfl, h1.congr h2, h3, h4, h5, h6⟩
theorem OwnBatsT.below {w w' : World} {base hi : Nat} {v : Value} {bs : List Bat} (h : OwnBatsT w base hi v bs) (hb : Below w.heap.size w w') : OwnBatsT w' base hi v bs := by
  obtain ⟨g, cap, rv, lo, rfl, h1, h3, h4, h5, h6⟩ := h
  exact ⟨g, cap, rv, lo, rfl, h1.below hb, fun i hi => (h3 i hi).below hb, h4, h5, h6⟩
set_option maxHeartbeats 2000000 in
theorem laws_markBatchS (v : Value) (base hi : Nat) (bs : List Bat) (k : Int) (w : World) (h : OwnBatsT w base hi v bs) (hk0 : 0 ≤ k) (hk1 : k ≤ 1000000) (hs : bs.length + szB bs ≤ 100000000) :
    Calls Try.prog 15 #[v, .int .i64 k] w (MarkTurn w base hi (k + 5 * (bs.length : Int) + 4 * (szB bs : Int))) := by
  obtain ⟨g, cap, rv, lo, rfl, h1, h3, h4, h5, h6⟩ := h
  have fin0 : Turned w w base hi := Turned.of_below (Below.refl _ _)
  have hgr : base ≤ g ∧ g < w.heap.size := h1.lt g rfl
  obtain ⟨hb1, hb2⟩ := hgr
  have hm : bs.length ≤ cap ∧ cap ≤ 9223372036854775807 := by
    obtain ⟨xs, hr, _⟩ := h1
    rcases hr.2 with ⟨e, _⟩ | ⟨_, _, _, e, _, _, hl, hm, _⟩
    · cases e
    · simp only [Value.slice.injEq] at e
      obtain ⟨_, _, rfl⟩ := e
      exact ⟨hl, by simpa [maxLen] using hm⟩
  obtain ⟨hm1, hm2⟩ := hm
  have start : FromB w base g cap bs.length bs rv lo (0 * 6) 0 := ⟨_, h1, fun _ _ _ => rfl, fun q _ hq => h3 q hq⟩
  have HSZ := Lib.hid hs
  have hs1 : bs.length ≤ 100000000 := by omega
  have HLe := Lib.hid (lo_le h4)
  have HLo : Hid (∀ q, q < bs.length → g < lo q) := Lib.hid fun q hq => Nat.lt_of_lt_of_le h5 (lo_mono h4 q (by omega))
  have HTop : Hid (∀ q, q ≤ bs.length → lo q ≤ hi) := Lib.hid fun q hq => Nat.le_trans (lo_le h4 bs.length q hq (Nat.le_refl _)) h6
  have hgh : 0 < bs.length → g < hi := fun h0 => Nat.lt_of_lt_of_le (HLo.out 0 h0) (HTop.out 0 (by omega))
  have HGH := Lib.hid hgh
  clear h1 h3 h4 h5 h6 hs hgh
  go_enter Try.func15, Try.ntmps15
  go_wp2_with fail
  go_loopw [1, 5] (fun q i wr => ∃ (j : Nat) (m : Int), j ≤ bs.length ∧ i = .int .i64 j ∧ q = .int .i64 m ∧ 0 ≤ m ∧ m ≤ k + 5 * (j : Int) + 4 * (szB (bs.take j) : Int) ∧ FromB wr base g cap bs.length bs rv lo (j * 6) j ∧ Turned w wr base hi) (fun _ i _ => bs.length - (intOf i).toNat)
  case atStart => exact ⟨0, k, Nat.zero_le _, rfl, rfl, hk0, by simp [szB], start, fin0⟩
  case round =>
    clear start fin0
    obtain ⟨j, m, hj, rfl, rfl, m0, hm, hF, hT⟩ := hrel
    by_cases hlt : j < bs.length
    · have Hst := Lib.hid (szB_take bs j hlt)
      have hle := szB_le bs (j + 1)
      have hz := Hst.out
      have hat := szB_at bs j hlt
      have hm3 : m + 5 ≤ 700000000 := by have := HSZ.out; omega
      have hrs : (batN bs j).recs.length + szL (batN bs j).recs ≤ 100000000 := by have := HSZ.out; omega
      have HM := Lib.hid hm
      clear hm hz hle hat
      obtain ⟨hg1, hg2, hcs, hfz, _⟩ := hF.cells
      obtain ⟨u0, d0⟩ := hcs (j * 6) (by omega)
      obtain ⟨u1, d1⟩ := hcs (j * 6 + 1) (by omega)
      obtain ⟨u2, d2⟩ := hcs (j * 6 + 2) (by omega)
      obtain ⟨u3, d3⟩ := hcs (j * 6 + 3) (by omega)
      obtain ⟨u4, d4⟩ := hcs (j * 6 + 4) (by omega)
      have t1 : IntKind.i64.wrap (m + 1) = m + 1 := IntWalk.i64_in _ ⟨by omega, by omega⟩
      have t2 : IntKind.i64.wrap (m + 1 + 1) = m + 1 + 1 := IntWalk.i64_in _ ⟨by omega, by omega⟩
      have t3 : IntKind.i64.wrap (m + 1 + 1 + 1) = m + 1 + 1 + 1 := IntWalk.i64_in _ ⟨by omega, by omega⟩
      have t4 : IntKind.i64.wrap (m + 1 + 1 + 1 + 1) = m + 1 + 1 + 1 + 1 := IntWalk.i64_in _ ⟨by omega, by omega⟩
      have t5 : IntKind.i64.wrap (m + 1 + 1 + 1 + 1 + 1) = m + 1 + 1 + 1 + 1 + 1 := IntWalk.i64_in _ ⟨by omega, by omega⟩
      have hgh := HGH.out (by omega)
      clear hcs
      go_upto_region 14 with (fail)
      have F5 := (((((hF.set rfl (j * 6) (j * 6 + 1) (by omega) (by omega) (by omega) (.bool (m % 3 == 0)) HLo.out).set rfl (j * 6 + 1) (j * 6 + 2) (by omega) (by omega) (by omega) (.bool ((m + 1) % 3 == 0)) HLo.out).set rfl (j * 6 + 2) (j * 6 + 3) (by omega) (by omega) (by omega) (.int .i64 (m + 1 + 1)) HLo.out).set rfl (j * 6 + 3) (j * 6 + 4) (by omega) (by omega) (by omega) (.int .i64 (m + 1 + 1 + 1)) HLo.out).set rfl (j * 6 + 4) (j * 6 + 5) (by omega) (by omega) (by omega) (.int .i64 (m + 1 + 1 + 1 + 1)) HLo.out)
      have T5 : Turned w (((((wr.setCell ⟨g, j * 6, none⟩ (.bool (m % 3 == 0))).setCell ⟨g, j * 6 + 1, none⟩ (.bool ((m + 1) % 3 == 0))).setCell ⟨g, j * 6 + 2, none⟩ (.int .i64 (m + 1 + 1))).setCell ⟨g, j * 6 + 3, none⟩ (.int .i64 (m + 1 + 1 + 1))).setCell ⟨g, j * 6 + 4, none⟩ (.int .i64 (m + 1 + 1 + 1 + 1))) base hi := hT.trans (Turned.of_grown (grown_trans (grown_trans (grown_trans (grown_trans (set_grown _ _ _ _) (set_grown _ _ _ _)) (set_grown _ _ _ _)) (set_grown _ _ _ _)) (set_grown _ _ _ _)) fun q hq => by simp only [Option.some.injEq] at hq; omega)
      generalize hW : ((((wr.setCell ⟨g, j * 6, none⟩ (.bool (m % 3 == 0))).setCell ⟨g, j * 6 + 1, none⟩ (.bool ((m + 1) % 3 == 0))).setCell ⟨g, j * 6 + 2, none⟩ (.int .i64 (m + 1 + 1))).setCell ⟨g, j * 6 + 3, none⟩ (.int .i64 (m + 1 + 1 + 1))).setCell ⟨g, j * 6 + 4, none⟩ (.int .i64 (m + 1 + 1 + 1 + 1)) = w5 at F5 T5 ⊢
      clear hW hF hT d0 d1 d2 d3 d4 hfz hg2
      obtain ⟨_, hg2, _, hfz, hcv⟩ := F5.cells
      have c5 := hcv j hlt (by omega)
      have o5 := F5.recs j (Nat.le_refl j) hlt
      have hlo := HLo.out j hlt
      have hlb : base ≤ lo j := by omega
      have C1 := Lib.hid (laws_markRecordS (rv j) (lo j) (lo (j + 1)) (batN bs j).recs (m + 1 + 1 + 1 + 1 + 1) w5 o5 (by omega) (by omega) hrs)
      clear hcv o5
      go_wp2_with fail
      refine C1.out.mono ?_
      rintro e w6 ⟨q, rfl, q0, q1, T6⟩
      have F6 := F5.turned T6 hlo (fun p a b => HLe.out p (j + 1) a (by omega))
      have T7 := T5.trans (T6.wide hlb (HTop.out (j + 1) (by omega)))
      have F7 : FromB w6 base g cap bs.length bs rv lo ((j + 1) * 6) (j + 1) := by
        obtain ⟨f, r, hf, hk⟩ := F6
        exact ⟨f, r, fun q a b => hf q (by omega) b, hk⟩
      have q2 : q ≤ k + 5 * ((j + 1 : Nat) : Int) + 4 * (szB (bs.take (j + 1)) : Int) := by have := Hst.out; have := HM.out; omega
      have Q2 := Lib.hid q2
      clear F5 T5 F6 T6 c5 C1 hfz hg2 q1 q2
      go_wp2_with fail
      go_roundw
      case rel => exact ⟨j + 1, q, by omega, by go_num, rfl, q0, Q2.out, F7, T7⟩
      case measure => simp [intOf]; omega
    · obtain rfl : j = bs.length := by omega
      go_wp2_with fail
      go_ret
      exact ⟨m, rfl, m0, by rw [List.take_length] at hm; exact hm, hT⟩
end Go.Proofs.Ytfapeppocfodpaa
