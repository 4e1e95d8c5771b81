/- Chapter 3: a record, an offset and a time are drawn. -/
import Derived.Test.YtkkfnpcldogglaaD3c
import Derived.Test.YtkkfnpcldogglaaI1
import Derived.Test.YtkkfnpcldogglaaB0
import Derived.Test.YtkkfnpcldogglaaL1
namespace Go.Proofs.Ytkkfnpcldogglaa
open Go.ChangeShapes Go.WideShapes Go.ChangeAt Go.RowKit
set_option linter.unusedVariables false

/-- a record, an offset and a time that a law draws -/
def DrawnRec3 (w : World) (e : Ending) (w' : World) : Prop :=
  ∃ (r : Rec) (v : Value) (o t : Int), e = .returned (.tuple #[v, .int .i64 o, .int .i64 t]) ∧ RecP w' w.heap.size v r ∧ -1 ≤ r.off ∧ r.off ≤ 100000 ∧ 0 ≤ r.time ∧ r.time ≤ 100000 ∧ r.key.length ≤ 13 ∧ r.val.length ≤ 13 ∧ -1 ≤ o ∧ o ≤ 100000 ∧ -1 ≤ t ∧ t ≤ 100000 ∧ Below w.heap.size w w'


theorem Blk.cells6 {w : World} {B : Nat} {v0 v1 v2 v3 v4 v5 : Value} (h : Blk w B #[v0, v1, v2, v3, v4, v5]) :
    w.cell? ⟨B, 0, none⟩ = some v0 ∧ w.cell? ⟨B, 1, none⟩ = some v1 ∧ w.cell? ⟨B, 2, none⟩ = some v2 ∧ w.cell? ⟨B, 3, none⟩ = some v3 ∧ w.cell? ⟨B, 4, none⟩ = some v4 ∧ w.cell? ⟨B, 5, none⟩ = some v5 :=
  ⟨h.cell 0, h.cell 1, h.cell 2, h.cell 3, h.cell 4, h.cell 5⟩
/-- behind block B nothing that was there has turned -/
def Kept (B : Nat) (w w' : World) : Prop := w.heap.size ≤ w'.heap.size ∧ ∀ b, B < b → b < w.heap.size → w'.heap[b]? = w.heap[b]?
theorem Kept.refl (B : Nat) (w : World) : Kept B w w := ⟨Nat.le_refl _, fun _ _ _ => rfl⟩
theorem Kept.of_below {B : Nat} {w w' : World} (h : Below w.heap.size w w') : Kept B w w' := ⟨h.size, fun b _ hb => h.block b hb⟩
theorem Kept.of_grown {B X : Nat} {w w' : World} (h : w.grownBy w' (some X)) (hX : X ≤ B) : Kept B w w' := ⟨h.size, fun b hb hlt => h.block b hlt fun e => by simp only [Option.some.injEq] at e; omega⟩
theorem LitAt.kept {B b : Nat} {w w' : World} (h : LitAt w B b) (k : Kept B w w') : LitAt w' B b := ⟨h.1.keep (k.2 b h.2.2 h.2.1), Nat.lt_of_lt_of_le h.2.1 k.1, h.2.2⟩

/-- the list of three numbers, built -/
theorem wp_lit {w : World} {o : Oper} {a : Act} {K : Act → World → Prop} {Q : Exit → Act → World → Prop}
    (hop : o.op = Op.buildSlice 23 3 #[(0, .const (.int .i64 (-1))), (1, .const (.int .i64 99999)), (2, .const (.int .i64 100000))])
    (hK : ∀ b w', Lit3 w' b → Below w.heap.size w w' → b < w'.heap.size → w.heap.size ≤ b → K (a.put o.dst (.slice (some ⟨b, 0, none⟩) 3 3)) w') : Oper.wp Try.prog o a w K Q := by
  obtain ⟨i0, hi, hz0, hz1, hz2⟩ := info_parts info_int
  refine wp_buildSlice 23 3 3 _ hop #[.int .i64 (-1), .int .i64 99999, .int .i64 100000] i0 (.int .i64 0) Try.underlying23 hi hz0 (by rw [hz1]; decide) (by rw [hz1]; decide) (by
    rw [hz1]
    rw [parts_eval a _ .i64 [-1, 99999, 100000] (by rfl)]
    kernel_rfl) ?_
  have hb := heap_alloc_new w (.cells #[.int .i64 (-1), .int .i64 99999, .int .i64 100000] 3)
  exact hK _ _ ⟨cell_of_block hb 0, cell_of_block hb 1, cell_of_block hb 2⟩ (alloc_below' _ _) (by simp) (Nat.le_refl _)

def IsPtr (B : Nat) (v : Value) : Prop := v = .pointer (some ⟨B, 0, none⟩)
def IsLit (B : Nat) (w : World) (v : Value) : Prop := ∃ b, v = .slice (some ⟨b, 0, none⟩) 3 3 ∧ LitAt w B b
def IsPick (n : Int) (v : Value) : Prop := ∃ k : Nat, v = .int .i64 (k : Int) ∧ (k : Int) < n
def IsPlace (B : Nat) (w : World) (v : Value) : Prop := ∃ b k : Nat, v = .pointer (some ⟨b, k, none⟩) ∧ LitAt w B b ∧ (k : Int) < 3
def IsDrawn (v : Value) : Prop := ∃ x : Int, v = .int .i64 x ∧ -1 ≤ x ∧ x ≤ 100000
/-- what the operations of the first region yield -/
def prB (B : Nat) (rv : Value) : Nat → World → Value → Prop
  | 0, _, v => v = rv
  | 1, w, v => IsLit B w v
  | 2, _, v => IsPtr B v
  | 3, _, v => IsPick 3 v
  | 4, w, v => IsPlace B w v
  | 5, _, v => IsDrawn v
  | 6, w, v => IsLit B w v
  | 7, _, v => IsPtr B v
  | 8, _, v => IsPick 3 v
  | 9, w, v => IsPlace B w v
  | 10, _, v => IsDrawn v
  | 12, _, v => IsDrawn v
  | 13, _, v => IsDrawn v
  | _, _, _ => True
theorem prB_kept {B : Nat} {rv : Value} (i : Nat) (w w' : World) (v : Value) (hk : Kept B w w') (h : prB B rv i w v) : prB B rv i w' v := by
  have hl : IsLit B w v → IsLit B w' v := fun ⟨b, e, q⟩ => ⟨b, e, q.kept hk⟩
  have hp : IsPlace B w v → IsPlace B w' v := fun ⟨b, k, e, q, r⟩ => ⟨b, k, e, q.kept hk, r⟩
  match i with
  | 0 => exact h
  | 1 => exact hl h
  | 2 => exact h
  | 3 => exact h
  | 4 => exact hp h
  | 5 => exact h
  | 6 => exact hl h
  | 7 => exact h
  | 8 => exact h
  | 9 => exact hp h
  | 10 => exact h
  | 11 => trivial
  | 12 => exact h
  | 13 => exact h
  | n + 14 => trivial
/-- what the operations of the second region yield -/
def prC (B : Nat) (rv : Value) : Nat → World → Value → Prop
  | 0, _, v => v = rv
  | 1, _, v => IsPtr B v
  | 2, _, v => IsPick 60 v
  | 3, _, v => IsPtr B v
  | 4, _, v => IsPick 250 v
  | 6, _, v => IsPick 60 v
  | 7, _, v => IsPick 250 v
  | _, _, _ => True
theorem prC_kept {B : Nat} {rv : Value} (i : Nat) (w w' : World) (v : Value) (hk : Kept B w w') (h : prC B rv i w v) : prC B rv i w' v := by
  match i with
  | 0 => exact h
  | 1 => exact h
  | 2 => exact h
  | 3 => exact h
  | 4 => exact h
  | 5 => trivial
  | 6 => exact h
  | 7 => exact h
  | n + 8 => trivial
/-- the worlds of a region that asks the reader and stores a record: ps are the operations that ask and the one that stores, st, in the order in which they come up -/
def frB (w : World) (N B X Z : Nat) (kv vv : Value) (r : Rec) (st : Nat) (ps : List Nat) (l : Array Bool) (W : World) : Prop :=
  (l.getD st false = false → ∃ c, c + openOps l ≤ 1000 ∧ Rd W B c) ∧ (∀ j ∈ ps, l.getD j false = true → ∀ i ∈ ps, i ≤ j → l.getD i false = true) ∧ Blk W X #[.int .i64 r.off, .int .i64 r.time, .bool r.hk, kv, .bool r.hv, vv] ∧
    (l.getD st false = false → Blk W Z #[.int .i64 0, .int .i64 0, .bool false, .slice none 0 0, .bool false, .slice none 0 0]) ∧
    (l.getD st false = true → Blk W Z #[.int .i64 r.off, .int .i64 r.time, .bool r.hk, kv, .bool r.hv, vv]) ∧ Below w.heap.size w W ∧ Own W N kv r.key ∧ Own W N vv r.val
theorem done_more {l : Array Bool} {i j : Nat} (hi : i < l.size) (h : l.getD j false = true) : (l.setIfInBounds i true).getD j false = true := by
  by_cases e : i = j
  · subst e; exact getD_set_same l i hi
  · rw [getD_set_other _ _ _ _ e]; exact h
theorem not_done {l : Array Bool} {i : Nat} (hi : i < l.size) (h : l.getD i true = false) : l.getD i false = false := by simpa [Array.getD, hi] using h
theorem chain_other {l : Array Bool} {i : Nat} {ps : List Nat} (h : ∀ j ∈ ps, l.getD j false = true → ∀ k ∈ ps, k ≤ j → l.getD k false = true) (hs : i < l.size) (hi : i ∉ ps) : ∀ j ∈ ps, (l.setIfInBounds i true).getD j false = true → ∀ k ∈ ps, k ≤ j → (l.setIfInBounds i true).getD k false = true := by
  intro j hj hd k hk hkj
  rw [getD_set_other _ _ _ _ (fun e => hi (by rw [e]; exact hj))] at hd
  exact done_more hs (h j hj hd k hk hkj)
theorem chain_next {l : Array Bool} {i : Nat} {ps : List Nat} (h : ∀ j ∈ ps, l.getD j false = true → ∀ k ∈ ps, k ≤ j → l.getD k false = true) (hs : i < l.size) (hp : ∀ k ∈ ps, k < i → l.getD k false = true) : ∀ j ∈ ps, (l.setIfInBounds i true).getD j false = true → ∀ k ∈ ps, k ≤ j → (l.setIfInBounds i true).getD k false = true := by
  intro j hj hd k hk hkj
  by_cases e : i = j
  · subst e
    by_cases e2 : k = i
    · subst e2; exact hd
    · exact done_more hs (hp k hk (by omega))
  · rw [getD_set_other _ _ _ _ e] at hd
    exact done_more hs (h j hj hd k hk hkj)
/-- an operation that makes memory, or nothing -/
theorem frB.below {w W W' : World} {N B X Z : Nat} {kv vv : Value} {r : Rec} {st i : Nat} {ps : List Nat} {l : Array Bool} (h : frB w N B X Z kv vv r st ps l W) (hb : Below W.heap.size W W') (hi : i ≠ st) (hps : i ∉ ps) (hs : i < l.size) (ho : openOps (l.setIfInBounds i true) + 1 = openOps l) :
    frB w N B X Z kv vv r st ps (l.setIfInBounds i true) W' := by
  obtain ⟨hR, hD, hX, hZ0, hZ1, hB, o1, o2⟩ := h
  refine ⟨?_, chain_other hD hs hps, hX.belowS hb, ?_, ?_, Bstep hB hb, o1.below hb, o2.below hb⟩
  · rw [getD_set_other _ _ _ _ hi]; exact fun q => by obtain ⟨c, hc, hR⟩ := hR q; exact ⟨c, by omega, hR.below hb⟩
  · rw [getD_set_other _ _ _ _ hi]; exact fun q => (hZ0 q).belowS hb
  · rw [getD_set_other _ _ _ _ hi]; exact fun q => (hZ1 q).belowS hb
/-- the record has not been stored yet when the reader is asked -/
theorem frB.early {w W : World} {N B X Z : Nat} {kv vv : Value} {r : Rec} {st i : Nat} {ps : List Nat} {l : Array Bool} (h : frB w N B X Z kv vv r st ps l W) (hp : i ∈ ps) (hst : st ∈ ps) (hle : i ≤ st) (hs : i < l.size) (hl : l.getD i true = false) : l.getD st false = false := by
  cases e : l.getD st false with
  | false => rfl
  | true => exact absurd (h.2.1 st hst e i hp hle) (by rw [not_done hs hl]; simp)
/-- the reader is asked -/
theorem frB.pick {w W W' : World} {N B X Z : Nat} {kv vv : Value} {r : Rec} {st i c : Nat} {ps : List Nat} {l : Array Bool} (h : frB w N B X Z kv vv r st ps l W) (hst : l.getD st false = false) (hc : c + openOps l ≤ 1000) (hR : Rd W' B (c + 1)) (hg : W.grownBy W' (some B)) (hi : i ≠ st) (hs : i < l.size) (hp : ∀ k ∈ ps, k < i → l.getD k false = true) (ho : openOps (l.setIfInBounds i true) + 1 = openOps l)
    (hBX : X ≠ B) (hBZ : Z ≠ B) (hwB : w.heap.size ≤ B) (hBN : B < N) : frB w N B X Z kv vv r st ps (l.setIfInBounds i true) W' := by
  obtain ⟨_, hD, hX, hZ0, hZ1, hB, o1, o2⟩ := h
  refine ⟨?_, chain_next hD hs hp, hX.by hBX hg, ?_, ?_, below_of_grown hB hwB hg, o1.by hBN hg, o2.by hBN hg⟩
  · exact fun _ => ⟨c + 1, by omega, hR⟩
  · exact fun _ => (hZ0 hst).by hBZ hg
  · rw [getD_set_other _ _ _ _ hi, hst]; exact fun q => by cases q
/-- the record is stored -/
theorem frB.store {w W : World} {N B X Z : Nat} {kv vv : Value} {r : Rec} {st : Nat} {ps : List Nat} {l : Array Bool} (h : frB w N B X Z kv vv r st ps l W) (hst : l.getD st false = false) (hs : st < l.size) (hp : ∀ k ∈ ps, k < st → l.getD k false = true) (hXZ : X ≠ Z) (hwZ : w.heap.size ≤ Z) (hZN : Z < N) :
    frB w N B X Z kv vv r st ps (l.setIfInBounds st true) ((((((W.setCell ⟨Z, 0, none⟩ (.int .i64 r.off)).setCell ⟨Z, 1, none⟩ (.int .i64 r.time)).setCell ⟨Z, 2, none⟩ (.bool r.hk)).setCell ⟨Z, 3, none⟩ kv).setCell ⟨Z, 4, none⟩ (.bool r.hv)).setCell ⟨Z, 5, none⟩ vv) := by
  obtain ⟨_, hD, hX, hZ0, hZ1, hB, o1, o2⟩ := h
  have hg := six_grown W Z (.int .i64 r.off) (.int .i64 r.time) (.bool r.hk) kv (.bool r.hv) vv
  refine ⟨?_, chain_next hD hs hp, hX.by hXZ hg, ?_, ?_, below_of_grown hB hwZ hg, o1.by hZN hg, o2.by hZN hg⟩
  · rw [getD_set_same l st hs]; exact fun q => by cases q
  · rw [getD_set_same l st hs]; exact fun q => by cases q
  · exact fun _ => (hZ0 hst).six _ _ _ _ _ _

set_option maxHeartbeats 4000000 in
theorem spec_DrawRecordBytes (v : Value) (zs : List Int) (w : World) (h : U8s w v zs) (hs : zs.length ≤ 1048576) :
    Calls Try.prog 15 #[v] w (DrawnRec3 w) := by
  have zf : Hid (∀ wn, Below (w.alloc (.cells #[.int .i64 0, .int .i64 0, .bool false, .slice none 0 0, .bool false, .slice none 0 0] 25)).heap.size (w.alloc (.cells #[.int .i64 0, .int .i64 0, .bool false, .slice none 0 0, .bool false, .slice none 0 0] 25)) wn → Blk wn w.heap.size #[.int .i64 0, .int .i64 0, .bool false, .slice none 0 0, .bool false, .slice none 0 0]) := Lib.hid fun wn hw => (Blk.made w _ _).belowS hw
  have C1 := Lib.hid (spec_l6Open v zs _ (h.keep fun h0 b e hb => (alloc_below' w (.cells #[.int .i64 0, .int .i64 0, .bool false, .slice none 0 0, .bool false, .slice none 0 0] 25)).block b hb) hs)
  go_enter Try.func15, Try.ntmps15
  go_wp2_with fail
  refine C1.out.mono ?_
  rintro e w1 ⟨B, rfl, hB, hR, b1⟩
  go_wp2_with fail
  refine (spec_l91Record B 0 w1 hR (by omega)).mono ?_
  rintro e w2 ⟨⟨off, time, hk, key, hv, val⟩, u, rfl, ⟨kv, vv, rfl, ok, ov⟩, f1, f2, f3, f4, f5, f6, hR2, g2⟩
  simp only at ok ov f1 f2 f3 f4 f5 f6
  obtain ⟨a1, cap1, rfl, _, _, _⟩ := ok.ints
  obtain ⟨a2, cap2, rfl, _, _, _⟩ := ov.ints
  have hZ1 : w.heap.size < w1.heap.size := Nat.lt_of_lt_of_le (by simp) b1.size
  have b2 := below_of_grown b1 hB g2
  have xX := Blk.made w2 #[.int .i64 off, .int .i64 time, .bool hk, .slice a1 key.length cap1, .bool hv, .slice a2 val.length cap2] 25
  have bx := alloc_below' w2 (.cells #[.int .i64 off, .int .i64 time, .bool hk, .slice a1 key.length cap1, .bool hv, .slice a2 val.length cap2] 25)
  have hB1 : B < w1.heap.size := hR.lt
  have hBX : B < w2.heap.size := hR2.lt
  go_wp2_with fail
  generalize hW3 : w2.alloc (.cells #[.int .i64 off, .int .i64 time, .bool hk, .slice a1 key.length cap1, .bool hv, .slice a2 val.length cap2] 25) = w3 at xX bx ⊢
  have hR3 := hR2.below bx
  have b3 := b2.trans (bx.mono b2.size)
  have ok3 := ok.below bx
  have ov3 := ov.below bx
  obtain ⟨X, hX⟩ : ∃ X, w2.heap.size = X := ⟨_, rfl⟩
  rw [hX] at xX hBX ⊢
  clear hW3 ok ov b2 g2 hR2 bx hX
  refine (spec_pick B _ 16 w3 hR3 (by omega) (by omega) (by omega)).mono ?_
  rintro e w4 ⟨q, rfl, hq, hR4, g4⟩
  have hXB : X ≠ B := by omega
  have x4 := xX.by hXB g4
  have b4 := below_of_grown b3 hB g4
  have ok4 := ok3.by hB1 g4
  have ov4 := ov3.by hB1 g4
  have z4 := zf.out w4 b4
  have b4' := Bstep (alloc_below' _ _) b4
  have hZB : w.heap.size < B := Nat.lt_of_lt_of_le (by simp) hB
  obtain ⟨Z, hZ⟩ : ∃ Z, w.heap.size = Z := ⟨_, rfl⟩
  have hwZ : w.heap.size ≤ Z := Nat.le_of_eq hZ
  have hwB : w.heap.size ≤ B := by omega
  have hXZ : X ≠ Z := by omega
  have hZB2 : Z ≠ B := by omega
  have hZB3 : Z ≤ B := by omega
  have hZN : Z < w1.heap.size := by omega
  rw [hZ] at z4 ⊢
  have HZ := Lib.hid hZ
  clear xX b3 ok3 ov3 hR3 g4 hq zf C1 b1 b4 hZ
  have F0 : ∀ (st n : Nat) (ps : List Nat), n ≤ 20 → frB w w1.heap.size B X Z (.slice a1 key.length cap1) (.slice a2 val.length cap2) ⟨off, time, hk, key, hv, val⟩ st ps (Array.replicate n false) w4.drew := fun st n ps hn => by
    have hno : ∀ st, (Array.replicate n false).getD st false = false := fun st => by
      simp only [Array.getD_eq_getD_getElem?, Array.getElem?_replicate]
      split <;> rfl
    have bd : Below w4.heap.size w4 w4.drew := below_drewN (Below.refl _ _) 1
    refine ⟨fun _ => ⟨_, ?_, hR4.below bd⟩, fun j _ e => ?_, x4.belowS bd, fun _ => z4.belowS bd, fun e => ?_, Bstep b4' bd, ok4.below bd, ov4.below bd⟩
    · unfold openOps; simp; omega
    · rw [hno] at e; cases e
    · rw [hno] at e; cases e
  by_cases q0 : q = 0
  · have e0 : ((q : Int) == 0) = true := by rw [beq_iff_eq]; omega
    clear q0
    go_wp2_with fail
    refine region_inv (prB B (.agg #[.int .i64 off, .int .i64 time, .bool hk, .slice a1 key.length cap1, .bool hv, .slice a2 val.length cap2])) (frB w w1.heap.size B X Z (.slice a1 key.length cap1) (.slice a2 val.length cap2) ⟨off, time, hk, key, hv, val⟩ 11 [3, 8, 11]) (Kept B) (by kernel_rfl) (by decide +kernel) ?_ (by decide +kernel) (by decide +kernel) prB_kept (F0 _ _ _ (by decide)) ?_ ?_
    · intro s hs
      show s < 30
      revert s
      decide +kernel
    · intro i o ho l a W hls hl hop hdeps hI K hK
      obtain ⟨i1, i2, i3, i4, hF⟩ := hI
      have e5 : a.tmps.getD 5 undef = .pointer (some ⟨B, 0, none⟩) := i3 5 (by decide +kernel)
      have e6 : a.tmps.getD 6 undef = .pointer (some ⟨X, 0, none⟩) := i3 6 (by decide +kernel)
      have e2 : a.tmps.getD 2 undef = .pointer (some ⟨Z, 0, none⟩) := i3 2 (by decide +kernel)
      have hls' : l.size = 14 := hls
      match i, ho with
      | 0, ho =>
        obtain rfl := Option.some.inj ho
        obtain ⟨c0, c1, c2, c3, c4, c5⟩ := hF.2.2.1.cells6
        clear i1 i2 i3 i4 hdeps
        go_simp
        exact hK _ _ (Kept.refl _ _) (hF.below (Below.refl _ _) (by decide) (by decide) (by omega) hop) (fun _ => rfl)
      | 1, ho =>
        obtain rfl := Option.some.inj ho
        have hBW : B < W.heap.size := Nat.lt_of_lt_of_le hBX (Nat.le_of_lt hF.2.2.1.lt)
        clear i1 i2 i3 i4 hdeps e5 e6 e2
        refine wp_lit rfl fun b w' hL hb hb1 hb2 => ?_
        exact hK _ _ (Kept.of_below hb) (hF.below hb (by decide) (by decide) (by omega) hop) (fun _ => ⟨b, rfl, hL, hb1, by omega⟩)
      | 2, ho =>
        obtain rfl := Option.some.inj ho
        clear i1 i2 i3 i4 hdeps
        go_simp
        exact hK _ _ (Kept.refl _ _) (hF.below (Below.refl _ _) (by decide) (by decide) (by omega) hop) (fun _ => rfl)
      | 3, ho =>
        obtain rfl := Option.some.inj ho
        have d2 : l.getD 2 false = true := by
          simp [Region.binds] at hdeps ⊢
          simp [hdeps]
        have p : IsPtr B (a.tmps.getD 16 undef) := i4 2 _ 16 rfl rfl d2
        have hst := hF.early (i := 3) (by decide) (by decide) (by decide) (by omega) hl
        have hprev : ∀ k ∈ [3, 8, 11], k < 3 → l.getD k false = true := by
          intro k hk hlt
          simp only [List.mem_cons, List.not_mem_nil, or_false] at hk
          rcases hk with rfl | rfl | rfl <;> first | assumption | (exfalso; omega)
        have HP := Lib.hid hprev
        clear hprev
        obtain ⟨c, hc, hRc⟩ := hF.1 hst
        have C := Lib.hid (spec_pick B c 3 W hRc (by omega) (by omega) (by omega))
        unfold IsPtr at p
        clear i1 i2 i3 i4 hdeps e5 e6 e2 d2 
        go_simp
        refine C.out.mono ?_
        rintro e w' ⟨k, rfl, hk, hRk, gk⟩
        exact hK _ _ (Kept.of_grown gk (Nat.le_refl _)) (hF.pick hst hc hRk gk (by decide) (by omega) HP.out hop hXB hZB2 hwB hB1) (fun _ => ⟨k, rfl, by omega⟩)
      | 4, ho =>
        obtain rfl := Option.some.inj ho
        have d1 : l.getD 1 false = true := by
          simp [Region.binds] at hdeps ⊢
          simp [hdeps]
        have d3 : l.getD 3 false = true := by
          simp [Region.binds] at hdeps ⊢
          simp [hdeps]
        obtain ⟨b, p1, hb⟩ : IsLit B W (a.tmps.getD 15 undef) := i4 1 _ 15 rfl rfl d1
        obtain ⟨k, p2, hk⟩ : IsPick 3 (a.tmps.getD 17 undef) := i4 3 _ 17 rfl rfl d3
        have hk0 : (0 : Int) ≤ (k : Int) := by omega
        clear i1 i2 i3 i4 hdeps e5 e6 e2 d1 d3
        go_simp
        exact hK _ _ (Kept.refl _ _) (hF.below (Below.refl _ _) (by decide) (by decide) (by omega) hop) (fun _ => ⟨b, k, by simp, hb, hk⟩)
      | 5, ho =>
        obtain rfl := Option.some.inj ho
        have d4 : l.getD 4 false = true := by
          simp [Region.binds] at hdeps ⊢
          simp [hdeps]
        obtain ⟨b, k, p, hb, hk⟩ : IsPlace B W (a.tmps.getD 18 undef) := i4 4 _ 18 rfl rfl d4
        have hc := hb.1.at hk
        have hv := litv_in k
        clear i1 i2 i3 i4 hdeps e5 e6 e2 d4
        go_simp
        exact hK _ _ (Kept.refl _ _) (hF.below (Below.refl _ _) (by decide) (by decide) (by omega) hop) (fun _ => ⟨litv k, rfl, hv.1, hv.2⟩)
      | 6, ho =>
        obtain rfl := Option.some.inj ho
        have hBW : B < W.heap.size := Nat.lt_of_lt_of_le hBX (Nat.le_of_lt hF.2.2.1.lt)
        clear i1 i2 i3 i4 hdeps e5 e6 e2
        refine wp_lit rfl fun b w' hL hb hb1 hb2 => ?_
        exact hK _ _ (Kept.of_below hb) (hF.below hb (by decide) (by decide) (by omega) hop) (fun _ => ⟨b, rfl, hL, hb1, by omega⟩)
      | 7, ho =>
        obtain rfl := Option.some.inj ho
        clear i1 i2 i3 i4 hdeps
        go_simp
        exact hK _ _ (Kept.refl _ _) (hF.below (Below.refl _ _) (by decide) (by decide) (by omega) hop) (fun _ => rfl)
      | 8, ho =>
        obtain rfl := Option.some.inj ho
        have d7 : l.getD 7 false = true := by
          simp [Region.binds] at hdeps ⊢
          simp [hdeps]
        have d3 : l.getD 3 false = true := by
          simp [Region.binds] at hdeps ⊢
          simp [hdeps]
        have p : IsPtr B (a.tmps.getD 21 undef) := i4 7 _ 21 rfl rfl d7
        have hst := hF.early (i := 8) (by decide) (by decide) (by decide) (by omega) hl
        have hprev : ∀ k ∈ [3, 8, 11], k < 8 → l.getD k false = true := by
          intro k hk hlt
          simp only [List.mem_cons, List.not_mem_nil, or_false] at hk
          rcases hk with rfl | rfl | rfl <;> first | assumption | (exfalso; omega)
        have HP := Lib.hid hprev
        clear hprev
        obtain ⟨c, hc, hRc⟩ := hF.1 hst
        have C := Lib.hid (spec_pick B c 3 W hRc (by omega) (by omega) (by omega))
        unfold IsPtr at p
        clear i1 i2 i3 i4 hdeps e5 e6 e2 d7 d3
        go_simp
        refine C.out.mono ?_
        rintro e w' ⟨k, rfl, hk, hRk, gk⟩
        exact hK _ _ (Kept.of_grown gk (Nat.le_refl _)) (hF.pick hst hc hRk gk (by decide) (by omega) HP.out hop hXB hZB2 hwB hB1) (fun _ => ⟨k, rfl, by omega⟩)
      | 9, ho =>
        obtain rfl := Option.some.inj ho
        have d6 : l.getD 6 false = true := by
          simp [Region.binds] at hdeps ⊢
          simp [hdeps]
        have d8 : l.getD 8 false = true := by
          simp [Region.binds] at hdeps ⊢
          simp [hdeps]
        obtain ⟨b, p1, hb⟩ : IsLit B W (a.tmps.getD 20 undef) := i4 6 _ 20 rfl rfl d6
        obtain ⟨k, p2, hk⟩ : IsPick 3 (a.tmps.getD 22 undef) := i4 8 _ 22 rfl rfl d8
        have hk0 : (0 : Int) ≤ (k : Int) := by omega
        clear i1 i2 i3 i4 hdeps e5 e6 e2 d6 d8
        go_simp
        exact hK _ _ (Kept.refl _ _) (hF.below (Below.refl _ _) (by decide) (by decide) (by omega) hop) (fun _ => ⟨b, k, by simp, hb, hk⟩)
      | 10, ho =>
        obtain rfl := Option.some.inj ho
        have d9 : l.getD 9 false = true := by
          simp [Region.binds] at hdeps ⊢
          simp [hdeps]
        obtain ⟨b, k, p, hb, hk⟩ : IsPlace B W (a.tmps.getD 23 undef) := i4 9 _ 23 rfl rfl d9
        have hc := hb.1.at hk
        have hv := litv_in k
        clear i1 i2 i3 i4 hdeps e5 e6 e2 d9
        go_simp
        exact hK _ _ (Kept.refl _ _) (hF.below (Below.refl _ _) (by decide) (by decide) (by omega) hop) (fun _ => ⟨litv k, rfl, hv.1, hv.2⟩)
      | 11, ho =>
        obtain rfl := Option.some.inj ho
        have d0 : l.getD 0 false = true := by
          simp [Region.binds] at hdeps ⊢
          simp [hdeps]
        have d8 : l.getD 8 false = true := by
          simp [Region.binds] at hdeps ⊢
          simp [hdeps]
        have d3 : l.getD 3 false = true := hF.2.1 8 (by decide) d8 3 (by decide) (by decide)
        have p : a.tmps.getD 14 undef = .agg #[.int .i64 off, .int .i64 time, .bool hk, .slice a1 key.length cap1, .bool hv, .slice a2 val.length cap2] := i4 0 _ 14 rfl rfl d0
        have hst := not_done (show 11 < l.size by omega) hl
        have hZb := hF.2.2.2.1 hst
        obtain ⟨c0, c1, c2, c3, c4, c5⟩ := hZb.cells6
        have fz := hZb.free
        have lz := hZb.lt
        have hF' := hF.store hst (by omega) (by
          intro k hk hlt
          simp only [List.mem_cons, List.not_mem_nil, or_false] at hk
          rcases hk with rfl | rfl | rfl <;> first | assumption | (exfalso; omega)) hXZ hwZ hZN
        have hg := six_grown W Z (.int .i64 off) (.int .i64 time) (.bool hk) (.slice a1 key.length cap1) (.bool hv) (.slice a2 val.length cap2)
        have HF := Lib.hid hF'
        have HG := Lib.hid hg
        clear i1 i2 i3 i4 hdeps hF hF' hg hZb hop d0 d3 d8 hst
        go_simp
        exact hK undef _ (Kept.of_grown HG.out hZB3) HF.out (fun q => (q rfl).elim)
      | 12, ho =>
        obtain rfl := Option.some.inj ho
        have d5 : l.getD 5 false = true := by
          simp [Region.binds] at hdeps ⊢
          simp [hdeps]
        obtain ⟨x, p, hx⟩ : IsDrawn (a.tmps.getD 19 undef) := i4 5 _ 19 rfl rfl d5
        clear i1 i2 i3 i4 hdeps e5 e6 e2 d5
        go_simp
        exact hK _ _ (Kept.refl _ _) (hF.below (Below.refl _ _) (by decide) (by decide) (by omega) hop) (fun _ => ⟨x, rfl, hx⟩)
      | 13, ho =>
        obtain rfl := Option.some.inj ho
        have d10 : l.getD 10 false = true := by
          simp [Region.binds] at hdeps ⊢
          simp [hdeps]
        obtain ⟨x, p, hx⟩ : IsDrawn (a.tmps.getD 24 undef) := i4 10 _ 24 rfl rfl d10
        clear i1 i2 i3 i4 hdeps e5 e6 e2 d10
        go_simp
        exact hK _ _ (Kept.refl _ _) (hF.below (Below.refl _ _) (by decide) (by decide) (by omega) hop) (fun _ => ⟨x, rfl, hx⟩)
      | n + 14, ho =>
        have hx := (Array.getElem?_eq_some_iff.1 ho).1
        have hx2 : n + 14 < 14 := hx
        omega
    · intro l a W hI hall
      obtain ⟨i1, i2, i3, i4, hF⟩ := hI
      have e2 : a.tmps.getD 2 undef = .pointer (some ⟨Z, 0, none⟩) := i3 2 (by decide +kernel)
      obtain ⟨x, p3, hx⟩ : IsDrawn (a.tmps.getD 3 undef) := i4 12 _ 3 rfl rfl (hall 12 (by decide))
      obtain ⟨y, p4, hy⟩ : IsDrawn (a.tmps.getD 4 undef) := i4 13 _ 4 rfl rfl (hall 13 (by decide))
      have hZf := hF.2.2.2.2.1 (hall _ (by decide))
      have hBf := hF.2.2.2.2.2.1
      have o1 := hF.2.2.2.2.2.2.1
      have o2 := hF.2.2.2.2.2.2.2
      obtain ⟨c0, c1, c2, c3, c4, c5⟩ := hZf.cells6
      rw [Array.getD_eq_getD_getElem?] at e2 p3 p4
      clear i2 i3 i4 hF hall
      go_wp2_with fail
      refine bodyPost_ret (v := .tuple #[.agg #[.int .i64 off, .int .i64 time, .bool hk, .slice a1 key.length cap1, .bool hv, .slice a2 val.length cap2], .int .i64 x, .int .i64 y]) (by simp [results, Try.results15, go_sem, e2, p3, p4, c0, c1, c2, c3, c4, c5]) i1 ?_
      exact ⟨⟨off, time, hk, key, hv, val⟩, _, _, _, rfl, ⟨_, _, rfl, o1.base (Nat.le_of_lt hZ1), o2.base (Nat.le_of_lt hZ1)⟩, f1, f2, f3, f4, f5, f6, by omega, by omega, by omega, by omega, hBf⟩

  · have e0 : ((q : Int) == 0) = false := by rw [beq_eq_false_iff_ne]; omega
    clear q0
    go_wp2_with fail
    refine region_inv (prC B (.agg #[.int .i64 off, .int .i64 time, .bool hk, .slice a1 key.length cap1, .bool hv, .slice a2 val.length cap2])) (frB w w1.heap.size B X Z (.slice a1 key.length cap1) (.slice a2 val.length cap2) ⟨off, time, hk, key, hv, val⟩ 5 [2, 4, 5]) (Kept B) (by kernel_rfl) (by decide +kernel) ?_ (by decide +kernel) (by decide +kernel) prC_kept (F0 _ _ _ (by decide)) ?_ ?_
    · intro s hs
      show s < 30
      revert s
      decide +kernel
    · intro i o ho l a W hls hl hop hdeps hI K hK
      obtain ⟨i1, i2, i3, i4, hF⟩ := hI
      have e5 : a.tmps.getD 5 undef = .pointer (some ⟨B, 0, none⟩) := i3 5 (by decide +kernel)
      have e6 : a.tmps.getD 6 undef = .pointer (some ⟨X, 0, none⟩) := i3 6 (by decide +kernel)
      have e2 : a.tmps.getD 2 undef = .pointer (some ⟨Z, 0, none⟩) := i3 2 (by decide +kernel)
      have hls' : l.size = 8 := hls
      match i, ho with
      | 0, ho =>
        obtain rfl := Option.some.inj ho
        obtain ⟨c0, c1, c2, c3, c4, c5⟩ := hF.2.2.1.cells6
        clear i1 i2 i3 i4 hdeps
        go_simp
        exact hK _ _ (Kept.refl _ _) (hF.below (Below.refl _ _) (by decide) (by decide) (by omega) hop) (fun _ => rfl)
      | 1, ho =>
        obtain rfl := Option.some.inj ho
        clear i1 i2 i3 i4 hdeps
        go_simp
        exact hK _ _ (Kept.refl _ _) (hF.below (Below.refl _ _) (by decide) (by decide) (by omega) hop) (fun _ => rfl)
      | 2, ho =>
        obtain rfl := Option.some.inj ho
        have d1 : l.getD 1 false = true := by
          simp [Region.binds] at hdeps ⊢
          simp [hdeps]
        have p : IsPtr B (a.tmps.getD 26 undef) := i4 1 _ 26 rfl rfl d1
        have hst := hF.early (i := 2) (by decide) (by decide) (by decide) (by omega) hl
        have hprev : ∀ k ∈ [2, 4, 5], k < 2 → l.getD k false = true := by
          intro k hk hlt
          simp only [List.mem_cons, List.not_mem_nil, or_false] at hk
          rcases hk with rfl | rfl | rfl <;> first | assumption | (exfalso; omega)
        have HP := Lib.hid hprev
        clear hprev
        obtain ⟨c, hc, hRc⟩ := hF.1 hst
        have C := Lib.hid (spec_pick B c 60 W hRc (by omega) (by omega) (by omega))
        unfold IsPtr at p
        clear i1 i2 i3 i4 hdeps e5 e6 e2 d1 
        go_simp
        refine C.out.mono ?_
        rintro e w' ⟨k, rfl, hk, hRk, gk⟩
        exact hK _ _ (Kept.of_grown gk (Nat.le_refl _)) (hF.pick hst hc hRk gk (by decide) (by omega) HP.out hop hXB hZB2 hwB hB1) (fun _ => ⟨k, rfl, by omega⟩)
      | 3, ho =>
        obtain rfl := Option.some.inj ho
        clear i1 i2 i3 i4 hdeps
        go_simp
        exact hK _ _ (Kept.refl _ _) (hF.below (Below.refl _ _) (by decide) (by decide) (by omega) hop) (fun _ => rfl)
      | 4, ho =>
        obtain rfl := Option.some.inj ho
        have d3 : l.getD 3 false = true := by
          simp [Region.binds] at hdeps ⊢
          simp [hdeps]
        have d2 : l.getD 2 false = true := by
          simp [Region.binds] at hdeps ⊢
          simp [hdeps]
        have p : IsPtr B (a.tmps.getD 28 undef) := i4 3 _ 28 rfl rfl d3
        have hst := hF.early (i := 4) (by decide) (by decide) (by decide) (by omega) hl
        have hprev : ∀ k ∈ [2, 4, 5], k < 4 → l.getD k false = true := by
          intro k hk hlt
          simp only [List.mem_cons, List.not_mem_nil, or_false] at hk
          rcases hk with rfl | rfl | rfl <;> first | assumption | (exfalso; omega)
        have HP := Lib.hid hprev
        clear hprev
        obtain ⟨c, hc, hRc⟩ := hF.1 hst
        have C := Lib.hid (spec_pick B c 250 W hRc (by omega) (by omega) (by omega))
        unfold IsPtr at p
        clear i1 i2 i3 i4 hdeps e5 e6 e2 d3 d2
        go_simp
        refine C.out.mono ?_
        rintro e w' ⟨k, rfl, hk, hRk, gk⟩
        exact hK _ _ (Kept.of_grown gk (Nat.le_refl _)) (hF.pick hst hc hRk gk (by decide) (by omega) HP.out hop hXB hZB2 hwB hB1) (fun _ => ⟨k, rfl, by omega⟩)
      | 5, ho =>
        obtain rfl := Option.some.inj ho
        have d0 : l.getD 0 false = true := by
          simp [Region.binds] at hdeps ⊢
          simp [hdeps]
        have d4 : l.getD 4 false = true := by
          simp [Region.binds] at hdeps ⊢
          simp [hdeps]
        have d2 : l.getD 2 false = true := hF.2.1 4 (by decide) d4 2 (by decide) (by decide)
        have p : a.tmps.getD 25 undef = .agg #[.int .i64 off, .int .i64 time, .bool hk, .slice a1 key.length cap1, .bool hv, .slice a2 val.length cap2] := i4 0 _ 25 rfl rfl d0
        have hst := not_done (show 5 < l.size by omega) hl
        have hZb := hF.2.2.2.1 hst
        obtain ⟨c0, c1, c2, c3, c4, c5⟩ := hZb.cells6
        have fz := hZb.free
        have lz := hZb.lt
        have hF' := hF.store hst (by omega) (by
          intro k hk hlt
          simp only [List.mem_cons, List.not_mem_nil, or_false] at hk
          rcases hk with rfl | rfl | rfl <;> first | assumption | (exfalso; omega)) hXZ hwZ hZN
        have hg := six_grown W Z (.int .i64 off) (.int .i64 time) (.bool hk) (.slice a1 key.length cap1) (.bool hv) (.slice a2 val.length cap2)
        have HF := Lib.hid hF'
        have HG := Lib.hid hg
        clear i1 i2 i3 i4 hdeps hF hF' hg hZb hop d0 d2 d4 hst
        go_simp
        exact hK undef _ (Kept.of_grown HG.out hZB3) HF.out (fun q => (q rfl).elim)
      | 6, ho =>
        obtain rfl := Option.some.inj ho
        have d2 : l.getD 2 false = true := by
          simp [Region.binds] at hdeps ⊢
          simp [hdeps]
        obtain ⟨x, p, hx⟩ : IsPick 60 (a.tmps.getD 27 undef) := i4 2 _ 27 rfl rfl d2
        clear i1 i2 i3 i4 hdeps e5 e6 e2 d2
        go_simp
        exact hK _ _ (Kept.refl _ _) (hF.below (Below.refl _ _) (by decide) (by decide) (by omega) hop) (fun _ => ⟨x, rfl, hx⟩)
      | 7, ho =>
        obtain rfl := Option.some.inj ho
        have d4 : l.getD 4 false = true := by
          simp [Region.binds] at hdeps ⊢
          simp [hdeps]
        obtain ⟨x, p, hx⟩ : IsPick 250 (a.tmps.getD 29 undef) := i4 4 _ 29 rfl rfl d4
        clear i1 i2 i3 i4 hdeps e5 e6 e2 d4
        go_simp
        exact hK _ _ (Kept.refl _ _) (hF.below (Below.refl _ _) (by decide) (by decide) (by omega) hop) (fun _ => ⟨x, rfl, hx⟩)
      | n + 8, ho =>
        have hx := (Array.getElem?_eq_some_iff.1 ho).1
        have hx2 : n + 8 < 8 := hx
        omega
    · intro l a W hI hall
      obtain ⟨i1, i2, i3, i4, hF⟩ := hI
      have e2 : a.tmps.getD 2 undef = .pointer (some ⟨Z, 0, none⟩) := i3 2 (by decide +kernel)
      obtain ⟨x, p3, hx⟩ : IsPick 60 (a.tmps.getD 3 undef) := i4 6 _ 3 rfl rfl (hall 6 (by decide))
      obtain ⟨y, p4, hy⟩ : IsPick 250 (a.tmps.getD 4 undef) := i4 7 _ 4 rfl rfl (hall 7 (by decide))
      have hZf := hF.2.2.2.2.1 (hall _ (by decide))
      have hBf := hF.2.2.2.2.2.1
      have o1 := hF.2.2.2.2.2.2.1
      have o2 := hF.2.2.2.2.2.2.2
      obtain ⟨c0, c1, c2, c3, c4, c5⟩ := hZf.cells6
      rw [Array.getD_eq_getD_getElem?] at e2 p3 p4
      clear i2 i3 i4 hF hall
      go_wp2_with fail
      refine bodyPost_ret (v := .tuple #[.agg #[.int .i64 off, .int .i64 time, .bool hk, .slice a1 key.length cap1, .bool hv, .slice a2 val.length cap2], .int .i64 (x : Int), .int .i64 (y : Int)]) (by simp [results, Try.results15, go_sem, e2, p3, p4, c0, c1, c2, c3, c4, c5]) i1 ?_
      exact ⟨⟨off, time, hk, key, hv, val⟩, _, _, _, rfl, ⟨_, _, rfl, o1.base (Nat.le_of_lt hZ1), o2.base (Nat.le_of_lt hZ1)⟩, f1, f2, f3, f4, f5, f6, by omega, by omega, by omega, by omega, hBf⟩

end Go.Proofs.Ytkkfnpcldogglaa
