/- Chapter 3: how the model reads records, whole. -/
import Derived.Test.YtkkfnpcldogglaaW3d
import Derived.Deep.Cut
namespace Go.Proofs.Ytkkfnpcldogglaa
open Go.ChangeShapes Go.WideShapes Go.ChangeAt Go.RowKit
set_option linter.unusedVariables false

/-- a record of the call's own, a place, and whether there is one -/
def RecOut (w : World) (g : Rec × Int × Bool) (e : Ending) (w' : World) : Prop :=
  ∃ kv vv, e = .returned (.tuple #[.agg #[.int .i64 g.1.off, .int .i64 g.1.time, .bool g.1.hk, kv, .bool g.1.hv, vv], .int .i64 g.2.1, .bool g.2.2]) ∧
    Own w' w.heap.size kv g.1.key ∧ Own w' w.heap.size vv g.1.val ∧ (∀ k, vv.ownBlock = some k → kv.ownBlock ≠ some k) ∧ Below w.heap.size w w'
theorem RecOut.none {w w' : World} {e : Ending} (he : e = .returned (.tuple #[.agg #[.int .i64 0, .int .i64 0, .bool false, .slice none 0 0, .bool false, .slice none 0 0], .int .i64 0, .bool false])) (hb : Below w.heap.size w w') : RecOut w (Rec.zero, 0, false) e w' :=
  ⟨_, _, he, own_nil _ _, own_nil _ _, fun k hk => by simp [Value.ownBlock] at hk, hb⟩

theorem frozen_of_block {w : World} {B : Nat} {cs : Array Value} {t : TypeId} (h : w.heap[B]? = some (.cells cs t (0, 0))) (i : Nat) : w.frozen? ⟨B, i, none⟩ = false := by simp [World.frozen?, h]
theorem rdVar_place {xs : List Int} (hok : okBs xs = true) (k : Nat) : ∃ (n : Int) (a : Nat) (b : Bool), rdVar xs k = (n, (a : Int), b) ∧ -1000000 ≤ n ∧ n ≤ 1000000 ∧ (b = true → k < a ∧ a ≤ xs.length) ∧ a ≤ xs.length := by
  obtain ⟨⟨n, nx, b⟩, hg⟩ : ∃ g, rdVar xs k = g := ⟨_, rfl⟩
  cases b with
  | false =>
    have := rdVar_no (xs := xs) (k := k) (by rw [hg])
    exact ⟨0, 0, false, this, by omega, by omega, by simp, by omega⟩
  | true =>
    obtain ⟨a1, a2, a3, _, a5⟩ := rdVar_yes hok hg
    have := varB_pos a1 a2
    exact ⟨n, k + (varB n).length, true, by rw [hg, a3], a1, a2, fun _ => ⟨by omega, by omega⟩, by omega⟩
theorem getP_place {xs : List Int} (hok : okBs xs = true) (c : Nat) : ∃ (h : Bool) (ys : List Int) (d : Nat) (b : Bool), getP xs c = (h, ys, (d : Int), b) ∧ d ≤ xs.length := by
  obtain ⟨⟨h, ys, d, b⟩, hg⟩ : ∃ g, getP xs c = g := ⟨_, rfl⟩
  cases b with
  | true =>
    obtain ⟨_, _, a3, a4⟩ := getP_yes hok hg
    exact ⟨h, ys, _, true, by rw [hg, a3], a4⟩
  | false =>
    refine ⟨h, ys, 0, false, ?_, by omega⟩
    rw [hg]
    have hd : d = 0 := by
      unfold getP at hg
      simp only at hg
      split at hg
      · simp at hg; omega
      split at hg
      · simp at hg; omega
      split at hg
      · simp at hg; omega
      split at hg
      · simp at hg; omega
      split at hg
      · simp at hg
      · simp at hg
    rw [hd]; rfl

theorem frozen_made (w : World) {cs : Array Value} {t : TypeId} (i : Nat) : (w.alloc (.cells cs t (0, 0))).frozen? ⟨w.heap.size, i, none⟩ = false := by
  have hb := heap_alloc_new w (.cells cs t (0, 0))
  exact frozen_of_block hb i
theorem bel_six {n : Nat} {w W : World} (h : Below n w W) {B : Nat} (hB : n ≤ B) (v0 v1 v2 v3 v4 v5 : Value) :
    Below n w ((((((W.setCell ⟨B, 0, none⟩ v0).setCell ⟨B, 1, none⟩ v1).setCell ⟨B, 2, none⟩ v2).setCell ⟨B, 3, none⟩ v3).setCell ⟨B, 4, none⟩ v4).setCell ⟨B, 5, none⟩ v5) :=
  (((((h.setCell hB _).setCell hB _).setCell hB _).setCell hB _).setCell hB _).setCell hB _
theorem Own.six {w : World} {base : Nat} {v : Value} {xs : List Int} (h : Own w base v xs) {B : Nat} (hB : B < base) (v0 v1 v2 v3 v4 v5 : Value) :
    Own ((((((w.setCell ⟨B, 0, none⟩ v0).setCell ⟨B, 1, none⟩ v1).setCell ⟨B, 2, none⟩ v2).setCell ⟨B, 3, none⟩ v3).setCell ⟨B, 4, none⟩ v4).setCell ⟨B, 5, none⟩ v5) base v xs := by
  have k : ∀ (W : World) (i : Nat) (u : Value), W.grownBy (W.setCell ⟨B, i, none⟩ u) (some B) := fun W i u =>
    ⟨rfl, rfl, rfl, by simp, fun b hb hne => Below.heap_setCell W _ _ b fun e => hne (by rw [e])⟩
  have hne : v.ownBlock = none ∨ v.ownBlock ≠ some B := by
    cases e : v.ownBlock with
    | none => exact .inl rfl
    | some q => refine .inr fun e2 => ?_; have := h.lt q e; simp only [Option.some.injEq] at e2; omega
  exact (((((h.grown (k _ 0 v0) hne).grown (k _ 1 v1) hne).grown (k _ 2 v2) hne).grown (k _ 3 v3) hne).grown (k _ 4 v4) hne).grown (k _ 5 v5) hne

/-- six cells of a block -/
def Box6 (W : World) (B : Nat) (v0 v1 v2 v3 v4 v5 : Value) : Prop :=
  W.cell? ⟨B, 0, none⟩ = some v0 ∧ W.cell? ⟨B, 1, none⟩ = some v1 ∧ W.cell? ⟨B, 2, none⟩ = some v2 ∧ W.cell? ⟨B, 3, none⟩ = some v3 ∧ W.cell? ⟨B, 4, none⟩ = some v4 ∧ W.cell? ⟨B, 5, none⟩ = some v5
theorem Box6.store {w : World} {B : Nat} {u0 u1 u2 u3 u4 u5 : Value} (h : Box6 w B u0 u1 u2 u3 u4 u5) (v0 v1 v2 v3 v4 v5 : Value) :
    Box6 ((((((w.setCell ⟨B, 0, none⟩ v0).setCell ⟨B, 1, none⟩ v1).setCell ⟨B, 2, none⟩ v2).setCell ⟨B, 3, none⟩ v3).setCell ⟨B, 4, none⟩ v4).setCell ⟨B, 5, none⟩ v5) B v0 v1 v2 v3 v4 v5 := by
  obtain ⟨h0, h1, h2, h3, h4, h5⟩ := h
  have ne : ∀ (W : World) (i j : Nat) (v : Value), i ≠ j → (W.setCell ⟨B, i, none⟩ v).cell? ⟨B, j, none⟩ = W.cell? ⟨B, j, none⟩ := fun W i j v hij => by
    refine World.cell?_setCell_other _ _ _ _ (fun e => hij ?_)
    exact congrArg Addr.off e
  have same : ∀ (W : World) (i : Nat) (v u : Value), W.cell? ⟨B, i, none⟩ = some u → (W.setCell ⟨B, i, none⟩ v).cell? ⟨B, i, none⟩ = some v := fun W i v u h => World.cell?_setCell_same' W _ v (by rw [h]; rfl)
  refine ⟨?_, ?_, ?_, ?_, ?_, ?_⟩
  · rw [ne _ 5 0 _ (by decide), ne _ 4 0 _ (by decide), ne _ 3 0 _ (by decide), ne _ 2 0 _ (by decide), ne _ 1 0 _ (by decide)]
    exact same _ _ _ u0 h0
  · rw [ne _ 5 1 _ (by decide), ne _ 4 1 _ (by decide), ne _ 3 1 _ (by decide), ne _ 2 1 _ (by decide)]
    exact same _ _ _ u1 (by rw [ne _ 0 1 _ (by decide)]; exact h1)
  · rw [ne _ 5 2 _ (by decide), ne _ 4 2 _ (by decide), ne _ 3 2 _ (by decide)]
    exact same _ _ _ u2 (by rw [ne _ 1 2 _ (by decide), ne _ 0 2 _ (by decide)]; exact h2)
  · rw [ne _ 5 3 _ (by decide), ne _ 4 3 _ (by decide)]
    exact same _ _ _ u3 (by rw [ne _ 2 3 _ (by decide), ne _ 1 3 _ (by decide), ne _ 0 3 _ (by decide)]; exact h3)
  · rw [ne _ 5 4 _ (by decide)]
    exact same _ _ _ u4 (by rw [ne _ 3 4 _ (by decide), ne _ 2 4 _ (by decide), ne _ 1 4 _ (by decide), ne _ 0 4 _ (by decide)]; exact h4)
  · exact same _ _ _ u5 (by rw [ne _ 4 5 _ (by decide), ne _ 3 5 _ (by decide), ne _ 2 5 _ (by decide), ne _ 1 5 _ (by decide), ne _ 0 5 _ (by decide)]; exact h5)

set_option maxHeartbeats 4000000 in
theorem spec_l3From (v : Value) (xs : List Int) (k : Nat) (o t : Int) (w : World) (h : Ints w v xs) (hok : okBs xs = true) (hb : baseOk o t = true) (hs : xs.length ≤ 1000000000000) :
    Calls Try.prog 54 #[v, .int .i64 (k : Int), .int .i64 o, .int .i64 t] w (RecOut w (rdRec xs k o t)) := by
  obtain ⟨⟨o0, o1⟩, t0, t1⟩ := baseOk_iff.1 hb
  have C1 : Hid (∀ wn (k : Nat), Below w.heap.size w wn → Calls Try.prog 64 #[v, .int .i64 (k : Int)] wn (FromRes (rdVar xs k) wn)) := fun wn k hw => spec_l1From v xs k wn (h.below hw) hok hs
  have C2 : Hid (∀ wn (k : Nat), Below w.heap.size w wn → Calls Try.prog 65 #[v, .int .i64 (k : Int)] wn (GetRes (getP xs k) wn)) := fun wn k hw => spec_l3Get v xs k wn (h.below hw) hok hs
  obtain ⟨n0, a, p, hg1, _, _, pk, al⟩ := rdVar_place hok k
  obtain ⟨dt, b, q, hg2, dt0, dt1, _, bl⟩ := rdVar_place hok a
  obtain ⟨dd, c, s, hg3, dd0, dd1, _, cl⟩ := rdVar_place hok b
  obtain ⟨hk1, key, d, tt, hp1, dl⟩ := getP_place hok c
  obtain ⟨hv1, val, en, uu, hp2, el⟩ := getP_place hok d
  have C1a := Lib.hid (fun wn hw => C1.out wn k hw)
  have C1b := Lib.hid (fun wn hw => C1.out wn a hw)
  have C1c := Lib.hid (fun wn hw => C1.out wn b hw)
  have C2a := Lib.hid (fun wn hw => C2.out wn c hw)
  have C2b := Lib.hid (fun wn hw => C2.out wn d hw)
  rw [hg1] at C1a
  rw [hg2] at C1b
  rw [hg3] at C1c
  rw [hp1] at C2a
  rw [hp2] at C2b
  obtain ⟨off, hoff⟩ : ∃ z, o + dd = z := ⟨_, rfl⟩
  obtain ⟨time, htime⟩ : ∃ z, t + dt = z := ⟨_, rfl⟩
  obtain ⟨vb, hvb⟩ : ∃ z, recOk ⟨off, time, hk1, key, hv1, val⟩ = z := ⟨_, rfl⟩
  obtain ⟨sb, hsb⟩ : ∃ z, sameAt xs k (recBytes ⟨off, time, hk1, key, hv1, val⟩ o t) = z := ⟨_, rfl⟩
  have C3 : Hid (∀ wn kv vv, Ints wn kv key → Ints wn vv val → Calls Try.prog 29 #[.agg #[.int .i64 off, .int .i64 time, .bool hk1, kv, .bool hv1, vv]] wn (SaysB vb wn)) := fun wn kv vv ik iv => by
    have := spec_RecordValid _ ⟨off, time, hk1, key, hv1, val⟩ wn ⟨kv, vv, rfl, ik, iv⟩
    rwa [hvb] at this
  have C4 : Hid (vb = true → ∀ wn kv vv, Ints wn kv key → Ints wn vv val → Calls Try.prog 46 #[.agg #[.int .i64 off, .int .i64 time, .bool hk1, kv, .bool hv1, vv], .int .i64 o, .int .i64 t] wn (NewInts1 wn (recBytes ⟨off, time, hk1, key, hv1, val⟩ o t))) := fun hr wn kv vv ik iv => spec_l3Bytes _ ⟨off, time, hk1, key, hv1, val⟩ o t wn ⟨kv, vv, rfl, ik, iv⟩ (hvb.trans hr) hb
  have C5 : Hid (p = true → vb = true → ∀ wn u, Below w.heap.size w wn → Ints wn u (recBytes ⟨off, time, hk1, key, hv1, val⟩ o t) → Calls Try.prog 66 #[v, .int .i64 (k : Int), u] wn (SaysB sb wn))   := fun hp hr wn u hw hu => by
    have hk : k ≤ 1000000000000 := by have := (pk hp).1; omega
    have hl := recBody_len (o := o) (t := t) (hvb.trans hr)
    have := spec_l3Same v u xs (recBytes ⟨off, time, hk1, key, hv1, val⟩ o t) k wn (h.below hw) hu hk hs (by unfold recBytes; rw [List.length_append]; have := varB_len ((recBody ⟨off, time, hk1, key, hv1, val⟩ o t).length : Int); omega)
    rwa [hsb] at this
  have hG : rdRec xs k o t = (if p = false then (Rec.zero, 0, false) else if q = false then (Rec.zero, 0, false) else if s = false then (Rec.zero, 0, false) else if tt = false then (Rec.zero, 0, false) else if uu = false then (Rec.zero, 0, false)
      else if vb = false then (Rec.zero, 0, false) else if sb = false then (Rec.zero, 0, false) else (⟨off, time, hk1, key, hv1, val⟩, (en : Int), true)) := by
    unfold rdRec
    simp only [hg1, hg2, hg3, hp1, hp2, Int.toNat_natCast, hoff, htime, hvb, hsb]
  obtain ⟨G, hGG⟩ : ∃ G, rdRec xs k o t = G := ⟨_, rfl⟩
  rw [hGG] at hG ⊢
  have HG := Lib.hid hG
  have so : IntKind.i64.wrap (o + dd) = off := by rw [← hoff]; exact IntWalk.i64_in _ ⟨by omega, by omega⟩
  have zf : Hid (∀ wn, Below (w.alloc (.cells #[.int .i64 0, .int .i64 0, .bool false, .slice none 0 0, .bool false, .slice none 0 0] 25)).heap.size (w.alloc (.cells #[.int .i64 0, .int .i64 0, .bool false, .slice none 0 0, .bool false, .slice none 0 0] 25)) wn →
      Box6 wn w.heap.size (.int .i64 0) (.int .i64 0) (.bool false) (.slice none 0 0) (.bool false) (.slice none 0 0) ∧ ∀ i, wn.frozen? ⟨w.heap.size, i, none⟩ = false) := fun wn hw =>
    ⟨(BoxR.made w 25 0 0 false (.slice none 0 0) false (.slice none 0 0)).below (by simp) hw, fun i => (hw.frozen (p := ⟨w.heap.size, i, none⟩) (by simp)).trans (frozen_made w i)⟩
  have belz : Hid (∀ wn, Below (w.alloc (.cells #[.int .i64 0, .int .i64 0, .bool false, .slice none 0 0, .bool false, .slice none 0 0] 25)).heap.size (w.alloc (.cells #[.int .i64 0, .int .i64 0, .bool false, .slice none 0 0, .bool false, .slice none 0 0] 25)) wn → Below w.heap.size w wn) := fun wn hw => Bstep (alloc_below' _ _) hw
  have Hoff := Lib.hid hoff
  have Htime := Lib.hid htime
  have Hh := Lib.hid h
  clear so C1 C2 hg1 hg2 hg3 hp1 hp2 hvb hsb hG hGG hoff htime h hok hb pk
  go_enter Try.func54, Try.ntmps54
  go_wp2_with fail
  refine (C1a.out _ (alloc_below' _ _)).mono ?_
  rintro e w1 ⟨rfl, rfl⟩
  go_wp2_with fail
  refine (C1b.out _ (alloc_below' _ _)).mono ?_
  rintro e w1 ⟨rfl, rfl⟩
  go_wp2_with fail
  refine (C1c.out _ (alloc_below' _ _)).mono ?_
  rintro e w1 ⟨rfl, rfl⟩
  cases p with
  | false =>
    go_wp2_with fail
    go_returns
    rw [show G = (Rec.zero, 0, false) from HG.out]
    exact RecOut.none rfl (alloc_below' _ _)
  | true =>
    cases q with
    | false =>
      go_wp2_with fail
      go_returns
      rw [show G = (Rec.zero, 0, false) from HG.out]
      exact RecOut.none rfl (alloc_below' _ _)
    | true =>
      cases s with
      | false =>
        go_wp2_with fail
        go_returns
        rw [show G = (Rec.zero, 0, false) from HG.out]
        exact RecOut.none rfl (alloc_below' _ _)
      | true =>
        go_wp2_with fail
        refine (C2a.out _ (alloc_below' _ _)).mono ?_
        rintro e w2 ⟨u1, rfl, own1, b1⟩
        cases tt with
        | false =>
          obtain ⟨⟨c0, c1, c2, c3, c4, c5⟩, fz⟩ := zf.out w2 (b1)
          go_wp2_with fail
          have box6 := Box6.store ⟨c0, c1, c2, c3, c4, c5⟩ (.int .i64 0) (.int .i64 0) (.bool false) (.slice none 0 0) (.bool false) (.slice none 0 0)
          have bel6 := bel_six (belz.out _ (b1)) (Nat.le_refl _) (.int .i64 0) (.int .i64 0) (.bool false) (.slice none 0 0) (.bool false) (.slice none 0 0)
          generalize hW6 : ((((((w2.setCell ⟨w.heap.size, 0, none⟩ (.int .i64 0)).setCell ⟨w.heap.size, 1, none⟩ (.int .i64 0)).setCell ⟨w.heap.size, 2, none⟩ (.bool false)).setCell ⟨w.heap.size, 3, none⟩ (.slice none 0 0)).setCell ⟨w.heap.size, 4, none⟩ (.bool false)).setCell ⟨w.heap.size, 5, none⟩ (.slice none 0 0)) = W6 at box6 bel6 ⊢
          clear c0 c1 c2 c3 c4 c5 fz hW6
          obtain ⟨c0, c1, c2, c3, c4, c5⟩ := box6
          refine bodyPost_ret (v := .tuple #[.agg #[.int .i64 0, .int .i64 0, .bool false, .slice none 0 0, .bool false, .slice none 0 0], .int .i64 0, .bool false]) (by simp [results, Try.results54, go_sem, c0, c1, c2, c3, c4, c5]) rfl ?_
          rw [show G = (Rec.zero, 0, false) from HG.out]
          exact RecOut.none rfl bel6
        | true =>
          go_wp2_with fail
          refine (C2b.out _ (belz.out _ b1)).mono ?_
          rintro e w3 ⟨u2, rfl, own2, b2⟩
          have b12 := b1.trans (b2.mono b1.size)
          obtain ⟨a1, cap1, rfl, hl1, hm1, _⟩ := own1.ints
          obtain ⟨a2, cap2, rfl, hl2, hm2, _⟩ := own2.ints
          go_upto_region 11 with (fail)
          rw [Hoff.out, Htime.out]
          have apart12 := own1.apart own2
          have own13 : Own w3 w.heap.size (.slice a1 key.length cap1) key := (own1.below b2).base (by simp)
          have own23 : Own w3 w.heap.size (.slice a2 val.length cap2) val := own2.base (belz.out _ b1).size
          have up1 : w.heap.size < w2.heap.size := Nat.lt_of_lt_of_le (by simp) b1.size
          have own13' : Own w3 (w.heap.size + 1) (.slice a1 key.length cap1) key := (own1.below b2).base (by simp)
          have own23' : Own w3 (w.heap.size + 1) (.slice a2 val.length cap2) val := own2.base up1
          have b4 := alloc_below' w3 (.cells #[.int .i64 off, .int .i64 time, .bool hk1, .slice a1 key.length cap1, .bool hv1, .slice a2 val.length cap2] 25)
          have box4 := BoxR.made w3 25 off time hk1 (.slice a1 key.length cap1) hv1 (.slice a2 val.length cap2)
          have lt4 : w3.heap.size < (w3.alloc (.cells #[.int .i64 off, .int .i64 time, .bool hk1, .slice a1 key.length cap1, .bool hv1, .slice a2 val.length cap2] 25)).heap.size := by simp
          obtain ⟨B4, hB4⟩ : ∃ B4, w3.heap.size = B4 := ⟨_, rfl⟩
          generalize hW4 : w3.alloc (.cells #[.int .i64 off, .int .i64 time, .bool hk1, .slice a1 key.length cap1, .bool hv1, .slice a2 val.length cap2] 25) = W4 at b4 box4 lt4 ⊢
          have b124 := b12.trans (b4.mono b12.size)
          have own14 := own13'.below b4
          have own24 := own23'.below b4
          rw [hB4] at box4 lt4 ⊢
          clear hW4 own1 own2 own13 own23 own13' own23' b1 b2 b4 up1 hB4
          cases uu with
          | false =>
            obtain ⟨⟨c0, c1, c2, c3, c4, c5⟩, fz⟩ := zf.out W4 (b124)
            go_wp2_with fail
            have box6 := Box6.store ⟨c0, c1, c2, c3, c4, c5⟩ (.int .i64 0) (.int .i64 0) (.bool false) (.slice none 0 0) (.bool false) (.slice none 0 0)
            have bel6 := bel_six (belz.out _ (b124)) (Nat.le_refl _) (.int .i64 0) (.int .i64 0) (.bool false) (.slice none 0 0) (.bool false) (.slice none 0 0)
            generalize hW6 : ((((((W4.setCell ⟨w.heap.size, 0, none⟩ (.int .i64 0)).setCell ⟨w.heap.size, 1, none⟩ (.int .i64 0)).setCell ⟨w.heap.size, 2, none⟩ (.bool false)).setCell ⟨w.heap.size, 3, none⟩ (.slice none 0 0)).setCell ⟨w.heap.size, 4, none⟩ (.bool false)).setCell ⟨w.heap.size, 5, none⟩ (.slice none 0 0)) = W6 at box6 bel6 ⊢
            clear c0 c1 c2 c3 c4 c5 fz hW6
            obtain ⟨c0, c1, c2, c3, c4, c5⟩ := box6
            refine bodyPost_ret (v := .tuple #[.agg #[.int .i64 0, .int .i64 0, .bool false, .slice none 0 0, .bool false, .slice none 0 0], .int .i64 0, .bool false]) (by simp [results, Try.results54, go_sem, c0, c1, c2, c3, c4, c5]) rfl ?_
            rw [show G = (Rec.zero, 0, false) from HG.out]
            exact RecOut.none rfl bel6
          | true =>
            obtain ⟨d0, d1, d2, d3, d4, d5⟩ := box4
            go_wp2_with fail
            refine (C3.out W4 _ _ own14.ints own24.ints).mono ?_
            rintro e w5 ⟨rfl, b5⟩
            have b125 := b124.trans (b5.mono b124.size)
            have box5 := BoxR.below ⟨d0, d1, d2, d3, d4, d5⟩ lt4 b5
            have own15 := own14.below b5
            have own25 := own24.below b5
            have lt5 := Nat.lt_of_lt_of_le lt4 b5.size
            clear d0 d1 d2 d3 d4 d5 own14 own24 b5
            cases vb with
            | false =>
              obtain ⟨⟨c0, c1, c2, c3, c4, c5⟩, fz⟩ := zf.out w5 (b125)
              go_wp2_with fail
              have box6 := Box6.store ⟨c0, c1, c2, c3, c4, c5⟩ (.int .i64 0) (.int .i64 0) (.bool false) (.slice none 0 0) (.bool false) (.slice none 0 0)
              have bel6 := bel_six (belz.out _ (b125)) (Nat.le_refl _) (.int .i64 0) (.int .i64 0) (.bool false) (.slice none 0 0) (.bool false) (.slice none 0 0)
              generalize hW6 : ((((((w5.setCell ⟨w.heap.size, 0, none⟩ (.int .i64 0)).setCell ⟨w.heap.size, 1, none⟩ (.int .i64 0)).setCell ⟨w.heap.size, 2, none⟩ (.bool false)).setCell ⟨w.heap.size, 3, none⟩ (.slice none 0 0)).setCell ⟨w.heap.size, 4, none⟩ (.bool false)).setCell ⟨w.heap.size, 5, none⟩ (.slice none 0 0)) = W6 at box6 bel6 ⊢
              clear c0 c1 c2 c3 c4 c5 fz hW6
              obtain ⟨c0, c1, c2, c3, c4, c5⟩ := box6
              refine bodyPost_ret (v := .tuple #[.agg #[.int .i64 0, .int .i64 0, .bool false, .slice none 0 0, .bool false, .slice none 0 0], .int .i64 0, .bool false]) (by simp [results, Try.results54, go_sem, c0, c1, c2, c3, c4, c5]) rfl ?_
              rw [show G = (Rec.zero, 0, false) from HG.out]
              exact RecOut.none rfl bel6
            | true =>
              have C4' := C4.out rfl
              have C5' := C5.out trivial rfl
              have HC4 := Lib.hid C4'
              have HC5 := Lib.hid C5'
              clear C4' C5' C4 C5
              obtain ⟨d0, d1, d2, d3, d4, d5⟩ := box5
              go_wp2_with fail
              refine (HC4.out w5 _ _ own15.ints own25.ints).mono ?_
              rintro e w6 ⟨u6, rfl, own6, b6⟩
              have b126 := b125.trans (b6.mono b125.size)
              have box6 := BoxR.below ⟨d0, d1, d2, d3, d4, d5⟩ lt5 b6
              have own16 := own15.below b6
              have own26 := own25.below b6
              have lt6 := Nat.lt_of_lt_of_le lt5 b6.size
              clear d0 d1 d2 d3 d4 d5 own15 own25 b6
              go_wp2_with fail
              refine (HC5.out w6 u6 (belz.out _ b126) own6.ints).mono ?_
              rintro e w7 ⟨rfl, b7⟩
              have b127 := b126.trans (b7.mono b126.size)
              have box7 := box6.below lt6 b7
              have own17 := own16.below b7
              have own27 := own26.below b7
              clear own16 own26 b7 own6 HC4 HC5
              cases sb with
              | false =>
                obtain ⟨⟨c0, c1, c2, c3, c4, c5⟩, fz⟩ := zf.out w7 (b127)
                go_wp2_with fail
                have box6 := Box6.store ⟨c0, c1, c2, c3, c4, c5⟩ (.int .i64 0) (.int .i64 0) (.bool false) (.slice none 0 0) (.bool false) (.slice none 0 0)
                have bel6 := bel_six (belz.out _ (b127)) (Nat.le_refl _) (.int .i64 0) (.int .i64 0) (.bool false) (.slice none 0 0) (.bool false) (.slice none 0 0)
                generalize hW6 : ((((((w7.setCell ⟨w.heap.size, 0, none⟩ (.int .i64 0)).setCell ⟨w.heap.size, 1, none⟩ (.int .i64 0)).setCell ⟨w.heap.size, 2, none⟩ (.bool false)).setCell ⟨w.heap.size, 3, none⟩ (.slice none 0 0)).setCell ⟨w.heap.size, 4, none⟩ (.bool false)).setCell ⟨w.heap.size, 5, none⟩ (.slice none 0 0)) = W6 at box6 bel6 ⊢
                clear c0 c1 c2 c3 c4 c5 fz hW6
                obtain ⟨c0, c1, c2, c3, c4, c5⟩ := box6
                refine bodyPost_ret (v := .tuple #[.agg #[.int .i64 0, .int .i64 0, .bool false, .slice none 0 0, .bool false, .slice none 0 0], .int .i64 0, .bool false]) (by simp [results, Try.results54, go_sem, c0, c1, c2, c3, c4, c5]) rfl ?_
                rw [show G = (Rec.zero, 0, false) from HG.out]
                exact RecOut.none rfl bel6
              | true =>
                obtain ⟨⟨c0, c1, c2, c3, c4, c5⟩, fz⟩ := zf.out w7 b127
                obtain ⟨d0, d1, d2, d3, d4, d5⟩ := box7
                go_wp2_with fail
                have box8 := Box6.store ⟨c0, c1, c2, c3, c4, c5⟩ (.int .i64 off) (.int .i64 time) (.bool hk1) (.slice a1 key.length cap1) (.bool hv1) (.slice a2 val.length cap2)
                have bel8 := bel_six (belz.out _ b127) (Nat.le_refl _) (.int .i64 off) (.int .i64 time) (.bool hk1) (.slice a1 key.length cap1) (.bool hv1) (.slice a2 val.length cap2)
                have own18 := (Own.six own17 (Nat.lt_succ_self _) (.int .i64 off) (.int .i64 time) (.bool hk1) (.slice a1 key.length cap1) (.bool hv1) (.slice a2 val.length cap2)).base (Nat.le_succ _)
                have own28 := (Own.six own27 (Nat.lt_succ_self _) (.int .i64 off) (.int .i64 time) (.bool hk1) (.slice a1 key.length cap1) (.bool hv1) (.slice a2 val.length cap2)).base (Nat.le_succ _)
                generalize hW8 : ((((((w7.setCell ⟨w.heap.size, 0, none⟩ (.int .i64 off)).setCell ⟨w.heap.size, 1, none⟩ (.int .i64 time)).setCell ⟨w.heap.size, 2, none⟩ (.bool hk1)).setCell ⟨w.heap.size, 3, none⟩ (.slice a1 key.length cap1)).setCell ⟨w.heap.size, 4, none⟩ (.bool hv1)).setCell ⟨w.heap.size, 5, none⟩ (.slice a2 val.length cap2)) = W8 at box8 bel8 own18 own28 ⊢
                clear c0 c1 c2 c3 c4 c5 d0 d1 d2 d3 d4 d5 fz hW8 own17 own27
                obtain ⟨c0, c1, c2, c3, c4, c5⟩ := box8
                refine bodyPost_ret (v := .tuple #[.agg #[.int .i64 off, .int .i64 time, .bool hk1, .slice a1 key.length cap1, .bool hv1, .slice a2 val.length cap2], .int .i64 (en : Int), .bool true]) (by simp [results, Try.results54, go_sem, c0, c1, c2, c3, c4, c5]) rfl ?_
                rw [show G = ((⟨off, time, hk1, key, hv1, val⟩ : Rec), (en : Int), true) from HG.out]
                exact ⟨_, _, rfl, own18, own28, apart12, bel8⟩

/-- the record at a place, for all arguments -/
def rdRecI (xs : List Int) (k o t : Int) : Rec × Int × Bool := if okBs xs = true then if k < 0 then (Rec.zero, 0, false) else if baseOk o t = true then rdRec xs k.toNat o t else (Rec.zero, 0, false) else (Rec.zero, 0, false)
theorem rdRecI_bad {xs : List Int} {k o t : Int} (h : okBs xs = false) : rdRecI xs k o t = (Rec.zero, 0, false) := by unfold rdRecI; rw [h]; rfl
theorem rdRecI_neg {xs : List Int} {k o t : Int} (h : k < 0) : rdRecI xs k o t = (Rec.zero, 0, false) := by unfold rdRecI; rw [if_pos h]; split <;> rfl
theorem rdRecI_base {xs : List Int} {k o t : Int} (h : baseOk o t = false) : rdRecI xs k o t = (Rec.zero, 0, false) := by
  unfold rdRecI
  rw [h, if_neg (show ¬ (false = true) by simp)]
  split
  · split <;> rfl
  · rfl
theorem rdRecI_at {xs : List Int} {k : Nat} {o t : Int} (h : okBs xs = true) (hb : baseOk o t = true) : rdRecI xs (k : Int) o t = rdRec xs k o t := by unfold rdRecI; rw [if_pos h, if_neg (by omega), if_pos hb, Int.toNat_natCast]

theorem spec_RecordFrom (v : Value) (xs : List Int) (k o t : Int) (w : World) (h : Ints w v xs) (hs : xs.length ≤ 1000000000000) :
    Calls Try.prog 23 #[v, .int .i64 k, .int .i64 o, .int .i64 t] w (RecOut w (rdRecI xs k o t)) := by
  have C1 : Hid (∀ wn, Below w.heap.size w wn → Calls Try.prog 53 #[v] wn fun e w' => e = .returned (.bool (okBs xs)) ∧ wn = w') := fun wn hw => spec_l1Ok v xs wn (h.below hw)
  have C2 : Hid (∀ wn, Calls Try.prog 45 #[.int .i64 o, .int .i64 t] wn fun e w' => e = .returned (.bool (baseOk o t)) ∧ wn = w') := fun wn => spec_l3Base o t wn
  cases hok : okBs xs with
  | false =>
    rw [rdRecI_bad hok]
    rw [hok] at C1
    clear hok
    go_enter Try.func23, Try.ntmps23
    go_wp2_with fail
    refine (C1.out _ (alloc_below' _ _)).mono ?_
    rintro e w1 ⟨rfl, rfl⟩
    go_wp2_with fail
    go_returns
    exact RecOut.none rfl (alloc_below' _ _)
  | true =>
    by_cases h0 : k < 0
    · have d0 : decide (k < 0) = true := decide_eq_true h0
      rw [rdRecI_neg h0]
      rw [hok] at C1
      clear hok
      go_enter Try.func23, Try.ntmps23
      go_wp2_with fail
      refine (C1.out _ (alloc_below' _ _)).mono ?_
      rintro e w1 ⟨rfl, rfl⟩
      go_wp2_with fail
      go_returns
      exact RecOut.none rfl (alloc_below' _ _)
    · have d0 : decide (k < 0) = false := decide_eq_false h0
      cases hb : baseOk o t with
      | false =>
        rw [rdRecI_base hb]
        rw [hok] at C1
        rw [hb] at C2
        clear hok hb
        go_enter Try.func23, Try.ntmps23
        go_wp2_with fail
        refine (C1.out _ (alloc_below' _ _)).mono ?_
        rintro e w1 ⟨rfl, rfl⟩
        go_wp2_with fail
        refine (C2.out _).mono ?_
        rintro e w1 ⟨rfl, rfl⟩
        go_wp2_with fail
        go_returns
        exact RecOut.none rfl (alloc_below' _ _)
      | true =>
        obtain ⟨k, rfl⟩ := Int.eq_ofNat_of_zero_le (Int.not_lt.1 h0)
        rw [rdRecI_at hok hb]
        have C3 : Hid (∀ wn, Below w.heap.size w wn → Calls Try.prog 54 #[v, .int .i64 (k : Int), .int .i64 o, .int .i64 t] wn (RecOut wn (rdRec xs k o t))) := fun wn hw => spec_l3From v xs k o t wn (h.below hw) hok hb hs
        obtain ⟨⟨⟨off, time, hk, key, hv, val⟩, nx, b⟩, hG⟩ : ∃ G, rdRec xs k o t = G := ⟨_, rfl⟩
        rw [hG] at C3 ⊢
        rw [hok] at C1
        rw [hb] at C2
        have zf : Hid (∀ wn, Below (w.alloc (.cells #[.int .i64 0, .int .i64 0, .bool false, .slice none 0 0, .bool false, .slice none 0 0] 25)).heap.size (w.alloc (.cells #[.int .i64 0, .int .i64 0, .bool false, .slice none 0 0, .bool false, .slice none 0 0] 25)) wn →
            Box6 wn w.heap.size (.int .i64 0) (.int .i64 0) (.bool false) (.slice none 0 0) (.bool false) (.slice none 0 0) ∧ ∀ i, wn.frozen? ⟨w.heap.size, i, none⟩ = false) := fun wn hw =>
          ⟨(BoxR.made w 25 0 0 false (.slice none 0 0) false (.slice none 0 0)).below (by simp) hw, fun i => (hw.frozen (p := ⟨w.heap.size, i, none⟩) (by simp)).trans (frozen_made w i)⟩
        clear hok hb hG h
        go_enter Try.func23, Try.ntmps23
        go_wp2_with fail
        refine (C1.out _ (alloc_below' _ _)).mono ?_
        rintro e w1 ⟨rfl, rfl⟩
        go_wp2_with fail
        refine (C2.out _).mono ?_
        rintro e w1 ⟨rfl, rfl⟩
        go_wp2_with fail
        refine (C3.out _ (alloc_below' _ _)).mono ?_
        rintro e w2 ⟨kv, vv, rfl, own1, own2, apart, b2⟩
        obtain ⟨⟨c0, c1, c2, c3, c4, c5⟩, fz⟩ := zf.out w2 b2
        obtain ⟨a1, cap1, rfl, hl1, hm1, _⟩ := own1.ints
        obtain ⟨a2, cap2, rfl, hl2, hm2, _⟩ := own2.ints
        have B2 := Bstep (alloc_below' w (.cells #[.int .i64 0, .int .i64 0, .bool false, .slice none 0 0, .bool false, .slice none 0 0] 25)) b2
        have own1' : Own w2 (w.heap.size + 1) (.slice a1 key.length cap1) key := own1.base (by simp)
        have own2' : Own w2 (w.heap.size + 1) (.slice a2 val.length cap2) val := own2.base (by simp)
        clear own1 own2 b2
        go_wp2_with fail
        have box8 := Box6.store ⟨c0, c1, c2, c3, c4, c5⟩ (.int .i64 off) (.int .i64 time) (.bool hk) (.slice a1 key.length cap1) (.bool hv) (.slice a2 val.length cap2)
        have bel8 := bel_six B2 (Nat.le_refl _) (.int .i64 off) (.int .i64 time) (.bool hk) (.slice a1 key.length cap1) (.bool hv) (.slice a2 val.length cap2)
        have own18 := (Own.six own1' (Nat.lt_succ_self _) (.int .i64 off) (.int .i64 time) (.bool hk) (.slice a1 key.length cap1) (.bool hv) (.slice a2 val.length cap2)).base (Nat.le_succ _)
        have own28 := (Own.six own2' (Nat.lt_succ_self _) (.int .i64 off) (.int .i64 time) (.bool hk) (.slice a1 key.length cap1) (.bool hv) (.slice a2 val.length cap2)).base (Nat.le_succ _)
        generalize hW8 : ((((((w2.setCell ⟨w.heap.size, 0, none⟩ (.int .i64 off)).setCell ⟨w.heap.size, 1, none⟩ (.int .i64 time)).setCell ⟨w.heap.size, 2, none⟩ (.bool hk)).setCell ⟨w.heap.size, 3, none⟩ (.slice a1 key.length cap1)).setCell ⟨w.heap.size, 4, none⟩ (.bool hv)).setCell ⟨w.heap.size, 5, none⟩ (.slice a2 val.length cap2)) = W8 at box8 bel8 own18 own28 ⊢
        clear c0 c1 c2 c3 c4 c5 fz hW8 own1' own2'
        obtain ⟨c0, c1, c2, c3, c4, c5⟩ := box8
        refine bodyPost_ret (v := .tuple #[.agg #[.int .i64 off, .int .i64 time, .bool hk, .slice a1 key.length cap1, .bool hv, .slice a2 val.length cap2], .int .i64 nx, .bool b]) (by simp [results, Try.results23, go_sem, c0, c1, c2, c3, c4, c5]) rfl ?_
        exact ⟨_, _, rfl, own18, own28, apart, bel8⟩

/-- how many bytes a record has -/
def recS (r : Rec) (o t : Int) : Int := if (recOk r && baseOk o t) = true then ((recBytes r o t).length : Int) else -1

theorem spec_RecordSize (v : Value) (r : Rec) (o t : Int) (w : World) (h : RecV w v r) :
    Calls Try.prog 27 #[v, .int .i64 o, .int .i64 t] w fun e w' => e = .returned (.int .i64 (recS r o t)) ∧ Below w.heap.size w w' := by
  have C1 : Hid (∀ wn, Below w.heap.size w wn → Calls Try.prog 29 #[v] wn (SaysB (recOk r) wn)) := fun wn hb => spec_RecordValid v r wn (h.below hb)
  have C2 : Hid (∀ wn, Calls Try.prog 45 #[.int .i64 o, .int .i64 t] wn fun e w' => e = .returned (.bool (baseOk o t)) ∧ wn = w') := fun wn => spec_l3Base o t wn
  have C3 : Hid (recOk r = true → baseOk o t = true → ∀ wn, Below w.heap.size w wn → Calls Try.prog 46 #[v, .int .i64 o, .int .i64 t] wn (NewInts1 wn (recBytes r o t))) := fun hr hb wn hw => spec_l3Bytes v r o t wn (h.below hw) hr hb
  obtain ⟨kv, vv, rfl, ik, iv⟩ := h
  clear ik iv
  unfold recS
  cases hr : recOk r with
  | false =>
    rw [hr] at C1
    rw [Bool.false_and, if_neg (by simp)]
    clear hr C3
    go_enter Try.func27, Try.ntmps27
    go_wp2_with fail
    refine (C1.out _ (alloc_below' _ _)).mono ?_
    rintro e w1 ⟨rfl, b1⟩
    have B1 := Bstep (alloc_below' _ _) b1
    go_wp2_with fail
    go_ret
    exact ⟨rfl, B1⟩
  | true =>
    cases hb : baseOk o t with
    | false =>
      rw [hr] at C1
      rw [hb] at C2
      rw [Bool.and_false, if_neg (by simp)]
      clear hr hb C3
      go_enter Try.func27, Try.ntmps27
      go_wp2_with fail
      refine (C1.out _ (alloc_below' _ _)).mono ?_
      rintro e w1 ⟨rfl, b1⟩
      have B1 := Bstep (alloc_below' _ _) b1
      go_wp2_with fail
      refine (C2.out _).mono ?_
      rintro e w2 ⟨rfl, rfl⟩
      go_wp2_with fail
      go_ret
      exact ⟨rfl, B1⟩
    | true =>
      have C4 := Lib.hid (C3.out hr hb)
      rw [hr] at C1
      rw [hb] at C2
      rw [Bool.and_true, if_pos rfl]
      obtain ⟨ys, hys⟩ : ∃ ys, recBytes r o t = ys := ⟨_, rfl⟩
      rw [hys] at C4 ⊢
      clear hr hb C3 hys
      go_enter Try.func27, Try.ntmps27
      go_wp2_with fail
      refine (C1.out _ (alloc_below' _ _)).mono ?_
      rintro e w1 ⟨rfl, b1⟩
      have B1 := Bstep (alloc_below' w (.cells #[.int .i64 r.off, .int .i64 r.time, .bool r.hk, kv, .bool r.hv, vv] 25)) b1
      obtain ⟨c0, c1, c2, c3, c4, c5⟩ := (BoxR.made w 25 r.off r.time r.hk kv r.hv vv).below (by simp) b1
      go_wp2_with fail
      refine (C2.out _).mono ?_
      rintro e w2 ⟨rfl, rfl⟩
      go_wp2_with fail
      refine (C4.out _ B1).mono ?_
      rintro e w3 ⟨u, rfl, own, b3⟩
      obtain ⟨a1, cap1, rfl, hl1, hm1, _⟩ := own.ints
      go_wp2_with fail
      go_ret
      exact ⟨rfl, Bstep B1 b3⟩
end Go.Proofs.Ytkkfnpcldogglaa
