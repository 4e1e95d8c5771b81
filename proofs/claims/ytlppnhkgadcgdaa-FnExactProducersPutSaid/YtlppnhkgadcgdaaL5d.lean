/- The helpers of the exact laws: the records of a batch are marked. -/
import Derived.Test.YtlppnhkgadcgdaaLX5
import Derived.Test.YtlppnhkgadcgdaaB0
import Derived.Test.YtlppnhkgadcgdaaDX
namespace Go.Proofs.Ytlppnhkgadcgdaa
open Go.ChangeShapes Go.WideShapes Go.ChangeAt Go.RowKit
set_option linter.unusedVariables false

/-- a row of records from cell number c on, the keys from number i on and the values from number j on are as they were -/
def FromC (w : World) (base : Nat) (v : Value) (rs : List Rec) (kv vv : Nat → Value) (c i j : Nat) : Prop :=
  ∃ f : Nat → Value, Row6 w base v rs.length f ∧ (∀ q, c ≤ q → q < rs.length * 6 → f q = rowF rs kv vv q) ∧ (∀ q, i ≤ q → q < rs.length → Own w base (kv q) (recAt rs q).key) ∧ ∀ q, j ≤ q → q < rs.length → Own w base (vv q) (recAt rs q).val
theorem FromC.keep {w w' : World} {base c i j i' j' : Nat} {v : Value} {rs : List Rec} {kv vv : Nat → Value} {row : Option Nat} (h : FromC w base v rs kv vv c i j) (hg : w.grownBy w' row) (hi : i ≤ i') (hj : j ≤ j')
    (h0 : ∀ k, v.ownBlock = some k → row ≠ some k) (h1 : ∀ q k, i' ≤ q → q < rs.length → (kv q).ownBlock = some k → row ≠ some k) (h2 : ∀ q k, j' ≤ q → q < rs.length → (vv q).ownBlock = some k → row ≠ some k) : FromC w' base v rs kv vv c i' j' := by
  have t : ∀ {u : Value}, (∀ k, u.ownBlock = some k → row ≠ some k) → u.ownBlock = none ∨ u.ownBlock ≠ row := fun {u} hu => by
    cases e : u.ownBlock with
    | none => exact .inl rfl
    | some q => exact .inr fun e2 => hu q e e2.symm
  obtain ⟨f, r, hf, hk, hv⟩ := h
  exact ⟨f, r.kept hg (t h0), hf, fun q a b => (hk q (by omega) b).grown hg (t fun k => h1 q k a b), fun q a b => (hv q (by omega) b).grown hg (t fun k => h2 q k a b)⟩
theorem FromC.set {w : World} {base g n cap c i j : Nat} {rs : List Rec} {kv vv : Nat → Value} (h : FromC w base (.slice (some ⟨g, 0, none⟩) n cap) rs kv vv c i j) (hn : n = rs.length) (q c' : Nat) (hq : q < n * 6) (hc : q < c') (hcc : c ≤ c') (u : Value)
    (hs : ∀ j, j < n → (kv j).ownBlock ≠ some g ∧ (vv j).ownBlock ≠ some g) : FromC (w.setCell ⟨g, q, none⟩ u) base (.slice (some ⟨g, 0, none⟩) n cap) rs kv vv c' i j := by
  subst hn
  obtain ⟨f, r, hf, hk, hv⟩ := h
  have hg := set_grown w g q u
  have t : ∀ {x : Value}, x.ownBlock ≠ some g → x.ownBlock = none ∨ x.ownBlock ≠ some g := fun h => .inr h
  refine ⟨_, r.set q hq u, fun p a b => ?_, fun p a b => (hk p a b).grown hg (t (hs p b).1), fun p a b => (hv p a b).grown hg (t (hs p b).2)⟩
  rw [if_neg (by omega)]
  exact hf p (by omega) b
theorem FromC.cells {w : World} {base g cap c i j : Nat} {rs : List Rec} {kv vv : Nat → Value} (h : FromC w base (.slice (some ⟨g, 0, none⟩) rs.length cap) rs kv vv c i j) :
    base ≤ g ∧ g < w.heap.size ∧ (∀ q, q < rs.length * 6 → ∃ u, w.cell? ⟨g, q, none⟩ = some u) ∧ (∀ q, w.frozen? ⟨g, q, none⟩ = false) ∧ (∀ q, q < rs.length → c ≤ q * 6 + 3 → w.cell? ⟨g, q * 6 + 3, none⟩ = some (kv q)) ∧ ∀ q, q < rs.length → c ≤ q * 6 + 5 → w.cell? ⟨g, q * 6 + 5, none⟩ = some (vv q) := by
  obtain ⟨f, r, hf, hk, hv⟩ := h
  have := r.lt g rfl
  refine ⟨this.1, this.2, fun q hq => ⟨_, r.cell q hq⟩, r.frozen, fun q hq hc => ?_, fun q hq hc => ?_⟩
  · rw [r.cell _ (by omega), hf _ hc (by omega), rowF_at _ _ _ _ _ (by omega)]; rfl
  · rw [r.cell _ (by omega), hf _ hc (by omega), rowF_at _ _ _ _ _ (by omega)]; rfl
theorem FromC.key {w : World} {base c i j : Nat} {v : Value} {rs : List Rec} {kv vv : Nat → Value} (h : FromC w base v rs kv vv c i j) (q : Nat) (h1 : i ≤ q) (h2 : q < rs.length) : Own w base (kv q) (recAt rs q).key := by
  obtain ⟨f, r, hf, hk, hv⟩ := h
  exact hk q h1 h2
theorem FromC.val {w : World} {base c i j : Nat} {v : Value} {rs : List Rec} {kv vv : Nat → Value} (h : FromC w base v rs kv vv c i j) (q : Nat) (h1 : j ≤ q) (h2 : q < rs.length) : Own w base (vv q) (recAt rs q).val := by
  obtain ⟨f, r, hf, hk, hv⟩ := h
  exact hv q h1 h2
/-- where the parts of a row of records lie: apart, and ahead of hi -/
def Places (g n hi : Nat) (kv vv : Nat → Value) : Prop :=
  g < hi ∧ (∀ i, i < n → (kv i).ownBlock ≠ some g ∧ (vv i).ownBlock ≠ some g) ∧ (∀ i j k, i < n → j < n → i ≠ j → (kv i).ownBlock = some k → (kv j).ownBlock ≠ some k) ∧ (∀ i j k, i < n → j < n → i ≠ j → (vv i).ownBlock = some k → (vv j).ownBlock ≠ some k) ∧
  (∀ i j k, i < n → j < n → (kv i).ownBlock = some k → (vv j).ownBlock ≠ some k) ∧ ∀ i k, i < n → ((kv i).ownBlock = some k → k < hi) ∧ ((vv i).ownBlock = some k → k < hi)
theorem partB_key (v : Value) (kv vv : Nat → Value) (i : Nat) : partB v kv vv (2 * i + 1) = (kv i).ownBlock := by
  unfold partB
  rw [if_neg (by omega), if_pos (by omega), show (2 * i + 1 - 1) / 2 = i by omega]
theorem partB_val (v : Value) (kv vv : Nat → Value) (i : Nat) : partB v kv vv (2 * i + 2) = (vv i).ownBlock := by
  unfold partB
  rw [if_neg (by omega), if_neg (by omega), show (2 * i + 2 - 2) / 2 = i by omega]
theorem places_of {g n cap hi : Nat} {kv vv : Nat → Value} (h : Sep (.slice (some ⟨g, 0, none⟩) n cap) kv vv n) (ht : ∀ p k, p ≤ 2 * n → partB (.slice (some ⟨g, 0, none⟩) n cap) kv vv p = some k → k < hi) : Places g n hi kv vv := by
  have e0 : partB (.slice (some ⟨g, 0, none⟩) n cap) kv vv 0 = some g := rfl
  refine ⟨ht 0 g (by omega) e0, fun i hi => ⟨fun e => ?_, fun e => ?_⟩, fun i j k hi hj hij e e2 => ?_, fun i j k hi hj hij e e2 => ?_, fun i j k hi hj e e2 => ?_, fun i k hi => ⟨fun e => ?_, fun e => ?_⟩⟩
  · exact h 0 (2 * i + 1) g (by omega) (by omega) (by omega) e0 (by rw [partB_key]; exact e)
  · exact h 0 (2 * i + 2) g (by omega) (by omega) (by omega) e0 (by rw [partB_val]; exact e)
  · exact h (2 * i + 1) (2 * j + 1) k (by omega) (by omega) (by omega) (by rw [partB_key]; exact e) (by rw [partB_key]; exact e2)
  · exact h (2 * i + 2) (2 * j + 2) k (by omega) (by omega) (by omega) (by rw [partB_val]; exact e) (by rw [partB_val]; exact e2)
  · exact h (2 * i + 1) (2 * j + 2) k (by omega) (by omega) (by omega) (by rw [partB_key]; exact e) (by rw [partB_val]; exact e2)
  · exact ht (2 * i + 1) k (by omega) (by rw [partB_key]; exact e)
  · exact ht (2 * i + 2) k (by omega) (by rw [partB_val]; exact e)
/-- v is a row of records of the call's own, all its memory apart and ahead of hi -/
def OwnRecsT (w : World) (base hi : Nat) (v : Value) (rs : List Rec) : Prop :=
  ∃ kv vv : Nat → Value, Row6 w base v rs.length (rowF rs kv vv) ∧ (∀ i, i < rs.length → Own w base (kv i) (recAt rs i).key ∧ Own w base (vv i) (recAt rs i).val) ∧ Sep v kv vv rs.length ∧ ∀ p k, p ≤ 2 * rs.length → partB v kv vv p = some k → k < hi
theorem OwnRecs.top {w : World} {base : Nat} {v : Value} {rs : List Rec} (h : OwnRecs w base v rs) : OwnRecsT w base w.heap.size v rs := by
  obtain ⟨kv, vv, h1, h2, h3⟩ := h
  exact ⟨kv, vv, h1, h2, h3, partB_lt h1 h2⟩
theorem OwnRecsT.below {w w' : World} {base hi : Nat} {v : Value} {rs : List Rec} (h : OwnRecsT w base hi v rs) (hb : Below w.heap.size w w') : OwnRecsT w' base hi v rs := by
  obtain ⟨kv, vv, h1, h2, h3, h4⟩ := h
  exact ⟨kv, vv, h1.below hb, fun i hi => ⟨(h2 i hi).1.below hb, (h2 i hi).2.below hb⟩, h3, h4⟩
theorem OwnRecsT.recs {w : World} {base hi : Nat} {v : Value} {rs : List Rec} (h : OwnRecsT w base hi v rs) : Recs w v rs := by
  obtain ⟨kv, vv, h1, h2, h3, _⟩ := h
  exact OwnRecs.recs ⟨kv, vv, h1, h2, h3⟩
/-- marks were put: only blocks from base up to hi are changed -/
def MarkTurn (w : World) (base hi : Nat) (top : Int) (e : Ending) (w' : World) : Prop := ∃ n : Int, e = .returned (.int .i64 n) ∧ 0 ≤ n ∧ n ≤ top ∧ Turned w w' base hi
set_option maxHeartbeats 2000000 in
theorem laws_markRecordS (v : Value) (base hi : Nat) (rs : List Rec) (k : Int) (w : World) (h : OwnRecsT w base hi v rs) (hk0 : 0 ≤ k) (hk1 : k ≤ 1000000000) (hs : rs.length + szL rs ≤ 100000000) :
    Calls Try.prog 56 #[v, .int .i64 k] w (MarkTurn w base hi (k + 4 * (rs.length : Int) + (szL rs : Int))) := by
  obtain ⟨kv, vv, h1, h2, h3, h4⟩ := h
  have fin0 : Turned w w base hi := Turned.of_below (Below.refl _ _)
  have h1' := h1
  obtain ⟨xs, hr, _⟩ := h1'
  rcases hr.2 with ⟨rfl, h0⟩ | ⟨g, cap, cur, rfl, hb, hg, hl, hm, _⟩
  · go_enter Try.func56, Try.ntmps56
    go_wp2_with fail
    refine wp_loop_rounds 1 ?_
    rw [rounds_succ]
    go_wp2_with fail
    go_ret
    exact ⟨_, rfl, hk0, by omega, fin0⟩
  have HP := Lib.hid (places_of h3 h4)
  have start : FromC w base (.slice (some ⟨g, 0, none⟩) rs.length cap) rs kv vv (0 * 6) 0 0 := ⟨_, h1, fun _ _ _ => rfl, fun q _ hq => (h2 q hq).1, fun q _ hq => (h2 q hq).2⟩
  have HSZ := Lib.hid hs
  have hs1 : rs.length ≤ 100000000 := by omega
  have hgr : base ≤ g ∧ g < w.heap.size := h1.lt g rfl
  obtain ⟨hb1, hb2⟩ := hgr
  unfold maxLen at hm
  clear h1 h2 h3 h4 hr hb hg hs
  go_enter Try.func56, Try.ntmps56
  go_wp2_with fail
  go_loopw [1, 5] (fun q i wr => ∃ (j : Nat) (m : Int), j ≤ rs.length ∧ i = .int .i64 j ∧ q = .int .i64 m ∧ 0 ≤ m ∧ m = k + 4 * (j : Int) + (szL (rs.take j) : Int) ∧ FromC wr base (.slice (some ⟨g, 0, none⟩) rs.length cap) rs kv vv (j * 6) j j ∧ Turned w wr base hi) (fun _ i _ => rs.length - (intOf i).toNat)
  case atStart => exact ⟨0, k, Nat.zero_le _, rfl, rfl, hk0, by simp [szL], start, fin0⟩
  case round =>
    clear start fin0
    obtain ⟨j, m, hj, rfl, rfl, m0, hm1, hF, hT⟩ := hrel
    by_cases hlt : j < rs.length
    · have Hst := Lib.hid (szL_take rs j hlt)
      have hle := szL_le rs (j + 1)
      have hz := Hst.out
      have hm2 : m + 4 + ((recAt rs j).key.length : Int) + ((recAt rs j).val.length : Int) ≤ 1600000000 := by have := HSZ.out; omega
      have HM := Lib.hid hm1
      clear hm1 hz hle
      obtain ⟨ks, hks⟩ : ∃ ks, (recAt rs j).key = ks := ⟨_, rfl⟩
      obtain ⟨us, hus⟩ : ∃ us, (recAt rs j).val = us := ⟨_, rfl⟩
      rw [hks, hus] at hm2 Hst
      have HKS := Lib.hid hks
      have HUS := Lib.hid hus
      clear hks hus
      have hP := HP.out
      unfold Places at hP
      obtain ⟨p0, p1, p2, p3, p4, p5⟩ := hP
      have P1 := Lib.hid p1
      have P2 := Lib.hid p2
      have P3 := Lib.hid p3
      have P4 := Lib.hid p4
      have P5 := Lib.hid p5
      clear p1 p2 p3 p4 p5
      obtain ⟨hg1, hg2, hcs, hfz, _, _⟩ := hF.cells
      obtain ⟨u0, d0⟩ := hcs (j * 6) (by omega)
      obtain ⟨u1, d1⟩ := hcs (j * 6 + 1) (by omega)
      obtain ⟨u2, d2⟩ := hcs (j * 6 + 2) (by omega)
      have t1 : IntKind.i64.wrap (m + 1) = m + 1 := IntWalk.i64_in _ ⟨by omega, by omega⟩
      have t2 : IntKind.i64.wrap (m + 1 + 1) = m + 1 + 1 := IntWalk.i64_in _ ⟨by omega, by omega⟩
      have t3 : IntKind.i64.wrap (m + 1 + 1 + 1) = m + 1 + 1 + 1 := IntWalk.i64_in _ ⟨by omega, by omega⟩
      clear hcs
      go_upto_region 10 with (fail)
      have F3 := ((hF.set rfl (j * 6) (j * 6 + 1) (by omega) (by omega) (by omega) (.int .i64 m) P1.out).set rfl (j * 6 + 1) (j * 6 + 2) (by omega) (by omega) (by omega) (.int .i64 (m + 1)) P1.out).set rfl (j * 6 + 2) (j * 6 + 3) (by omega) (by omega) (by omega) (.bool ((m + 1 + 1) % 3 == 0)) P1.out
      have T3 : Turned w (((wr.setCell ⟨g, j * 6, none⟩ (.int .i64 m)).setCell ⟨g, j * 6 + 1, none⟩ (.int .i64 (m + 1))).setCell ⟨g, j * 6 + 2, none⟩ (.bool ((m + 1 + 1) % 3 == 0))) base hi := hT.trans (Turned.of_grown (grown_trans (grown_trans (set_grown _ _ _ _) (set_grown _ _ _ _)) (set_grown _ _ _ _)) fun q hq => by simp only [Option.some.injEq] at hq; omega)
      generalize hW : ((wr.setCell ⟨g, j * 6, none⟩ (.int .i64 m)).setCell ⟨g, j * 6 + 1, none⟩ (.int .i64 (m + 1))).setCell ⟨g, j * 6 + 2, none⟩ (.bool ((m + 1 + 1) % 3 == 0)) = w3 at F3 T3 ⊢
      clear hW hF hT d0 d1 d2 hfz hg2
      obtain ⟨_, hg2, _, hfz, hck, _⟩ := F3.cells
      have c3 := hck j hlt (by omega)
      have o3 := F3.key j (Nat.le_refl j) hlt
      rw [HKS.out] at o3
      have lk := o3.lt
      have C1 := Lib.hid (laws_markIntS (kv j) base ks (m + 1 + 1 + 1) w3 o3 (by omega) (by omega) (by omega))
      clear hck o3
      go_wp2_with fail
      refine C1.out.mono ?_
      rintro e w4 ⟨rfl, _, g4⟩
      have F4 := F3.keep g4 (Nat.le_succ j) (Nat.le_refl j) (fun q hq e => (P1.out j hlt).1 (by rw [e, ← hq]; rfl)) (fun q x h1 h2 h3 e => P2.out j q x hlt h2 (by omega) e h3) (fun q x h1 h2 h3 e => P4.out j q x hlt h2 e h3)
      have T4 := T3.trans (Turned.of_grown g4 fun x hx => ⟨lk x hx, (P5.out j x hlt).1 hx⟩)
      clear F3 T3 c3 g4 C1 hfz hg2 lk
      obtain ⟨_, hg2, hcs, hfz, _, _⟩ := F4.cells
      obtain ⟨u4, d4⟩ := hcs (j * 6 + 4) (by omega)
      have t4 : IntKind.i64.wrap (m + 1 + 1 + 1 + (ks.length : Int) + 1) = m + 1 + 1 + 1 + (ks.length : Int) + 1 := IntWalk.i64_in _ ⟨by omega, by omega⟩
      clear hcs
      go_upto_region 13 with (fail)
      have F5 := F4.set rfl (j * 6 + 4) (j * 6 + 5) (by omega) (by omega) (by omega) (.bool ((m + 1 + 1 + 1 + (ks.length : Int)) % 3 == 0)) P1.out
      have T5 : Turned w (w4.setCell ⟨g, j * 6 + 4, none⟩ (.bool ((m + 1 + 1 + 1 + (ks.length : Int)) % 3 == 0))) base hi := T4.trans (Turned.of_grown (set_grown _ _ _ _) fun q hq => by simp only [Option.some.injEq] at hq; omega)
      generalize hW : w4.setCell ⟨g, j * 6 + 4, none⟩ (.bool ((m + 1 + 1 + 1 + (ks.length : Int)) % 3 == 0)) = w5 at F5 T5 ⊢
      clear hW F4 T4 d4 hfz hg2
      obtain ⟨_, hg2, _, hfz, _, hcv⟩ := F5.cells
      have c5 := hcv j hlt (by omega)
      have o5 := F5.val j (Nat.le_refl j) hlt
      rw [HUS.out] at o5
      have lk := o5.lt
      have C2 := Lib.hid (laws_markIntS (vv j) base us (m + 1 + 1 + 1 + (ks.length : Int) + 1) w5 o5 (by omega) (by omega) (by omega))
      clear hcv o5
      go_wp2_with fail
      refine C2.out.mono ?_
      rintro e w6 ⟨rfl, _, g6⟩
      have F6 := F5.keep g6 (Nat.le_refl (j + 1)) (Nat.le_succ j) (fun q hq e => (P1.out j hlt).2 (by rw [e, ← hq]; rfl)) (fun q x h1 h2 h3 e => P4.out q j x h2 hlt h3 e) (fun q x h1 h2 h3 e => P3.out j q x hlt h2 (by omega) e h3)
      have T6 := T5.trans (Turned.of_grown g6 fun x hx => ⟨lk x hx, (P5.out j x hlt).2 hx⟩)
      have F7 : FromC w6 base (.slice (some ⟨g, 0, none⟩) rs.length cap) rs kv vv ((j + 1) * 6) (j + 1) (j + 1) := by
        obtain ⟨f, r, hf, hk, hv⟩ := F6
        exact ⟨f, r, fun q a b => hf q (by omega) b, hk, hv⟩
      clear F5 T5 F6 c5 g6 C2 hfz hg2 lk
      go_wp2_with fail
      go_roundw
      case rel => exact ⟨j + 1, _, by omega, by go_num, rfl, by omega, by have := Hst.out; have := HM.out; omega, F7, T6⟩
      case measure => simp [intOf]; omega
    · obtain rfl : j = rs.length := by omega
      go_wp2_with fail
      go_ret
      exact ⟨m, rfl, m0, by rw [hm1, List.take_length]; omega, hT⟩
theorem laws_markBatch (p q : Bool) (x y z : Int) (v : Value) (base hi : Nat) (rs : List Rec) (k : Int) (w : World) (h : OwnRecsT w base hi v rs) (hk0 : 0 ≤ k) (hk1 : k ≤ 1000000000) (hs : rs.length + szL rs ≤ 100000000) :
    Calls Try.prog 29 #[.agg #[.bool p, .bool q, .int .i64 x, .int .i64 y, .int .i64 z, v], .int .i64 k] w (MarkTurn w base hi (k + 4 * (rs.length : Int) + (szL rs : Int))) := by
  obtain ⟨a, cap, rfl⟩ : ∃ a cap, v = .slice a rs.length cap := by
    obtain ⟨a, cap, e, _⟩ := h.recs
    exact ⟨a, cap, e⟩
  have bw := alloc_below' w (.cells #[.bool p, .bool q, .int .i64 x, .int .i64 y, .int .i64 z, .slice a rs.length cap] 33)
  have xA := Blk.made w #[.bool p, .bool q, .int .i64 x, .int .i64 y, .int .i64 z, .slice a rs.length cap] 33
  have C1 := Lib.hid (laws_markRecordS _ base hi rs k _ (h.below bw) hk0 hk1 hs)
  have T0 : Turned w (w.alloc (.cells #[.bool p, .bool q, .int .i64 x, .int .i64 y, .int .i64 z, .slice a rs.length cap] 33)) base hi := Turned.of_below bw
  obtain ⟨c0, c1, c2, c3, c4, c5⟩ := xA.sixC
  clear h
  go_enter Try.func29, Try.ntmps29
  go_wp2_with fail
  refine C1.out.mono ?_
  rintro e w1 ⟨n, rfl, hn, hn2, T1⟩
  go_wp2_with fail
  go_ret
  exact ⟨n, rfl, hn, hn2, T0.trans T1⟩
end Go.Proofs.Ytlppnhkgadcgdaa
