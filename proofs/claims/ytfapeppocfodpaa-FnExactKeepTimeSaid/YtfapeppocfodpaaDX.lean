/- Merged: D0 DA D2 R1. -/
import Derived.Test.YtfapeppocfodpaaL0
import Derived.Test.YtfapeppocfodpaaWX3
namespace Go.Proofs.Ytfapeppocfodpaa
open Go.ChangeShapes Go.WideShapes Go.ChangeAt Go.RowKit
set_option linter.unusedVariables false
set_option maxRecDepth 100000

-- D0

/-- block B is a reader that has been asked at most c times -/
def Rd (w : World) (B c : Nat) : Prop :=
  ∃ (a : Option Addr) (zs : List Int) (cap p : Nat), w.heap[B]? = some (.cells #[.slice a zs.length cap, .int .i64 p] 85 (0, 0)) ∧ p ≤ c ∧ zs.length ≤ 2000 ∧ U8s w (.slice a zs.length cap) zs ∧
    (0 < zs.length → ∀ k, (Value.slice a zs.length cap).ownBlock = some k → k < B)

theorem U8s.keep {w w' : World} {v : Value} {xs : List Int} (h : U8s w v xs) (hb : 0 < xs.length → ∀ b, v.ownBlock = some b → b < w.heap.size → w'.heap[b]? = w.heap[b]?) : U8s w' v xs := by
  obtain ⟨a, cap, rfl, hl, hm, hc, hr⟩ := h
  refine ⟨a, cap, rfl, hl, hm, fun h0 => ?_, hr⟩
  obtain ⟨b, off, rfl, hcell⟩ := hc h0
  refine ⟨b, off, rfl, fun i hi => ?_⟩
  rw [← hcell i hi]
  exact World.cell?_of_block (hb h0 b rfl (World.block_lt_of_cell? (a := ⟨b, off + 0, .none⟩) w (hcell 0 h0)))

theorem U8s.lt {w : World} {v : Value} {xs : List Int} (h : U8s w v xs) : 0 < xs.length → ∀ k, v.ownBlock = some k → k < w.heap.size := by
  obtain ⟨a, cap, rfl, hl, hm, hc, hr⟩ := h
  intro h0 k hk
  obtain ⟨b, off, rfl, hcell⟩ := hc h0
  simp only [Value.ownBlock, Option.some.injEq] at hk
  subst hk
  exact World.block_lt_of_cell? (a := ⟨b, off + 0, .none⟩) w (hcell 0 h0)

theorem Rd.keep {w w' : World} {B c : Nat} (h : Rd w B c) (hb : ∀ b, b ≤ B → w'.heap[b]? = w.heap[b]?) : Rd w' B c := by
  obtain ⟨a, zs, cap, p, h1, h2, h3, h4, h5⟩ := h
  exact ⟨a, zs, cap, p, (hb B (Nat.le_refl _)).trans h1, h2, h3, h4.keep fun h0 b e _ => hb b (Nat.le_of_lt (h5 h0 b e)), h5⟩
theorem Rd.lt {w : World} {B c : Nat} (h : Rd w B c) : B < w.heap.size := by
  obtain ⟨a, zs, cap, p, h1, _⟩ := h
  exact (Array.getElem?_eq_some_iff.1 h1).1
theorem Rd.below {w w' : World} {B c : Nat} (h : Rd w B c) (hb : Below w.heap.size w w') : Rd w' B c :=
  h.keep fun b hlt => hb.block b (Nat.lt_of_le_of_lt hlt h.lt)
theorem Rd.more {w : World} {B c d : Nat} (h : Rd w B c) (hd : c ≤ d) : Rd w B d := by
  obtain ⟨a, zs, cap, p, h1, h2, h3⟩ := h
  exact ⟨a, zs, cap, p, h1, by omega, h3⟩

def OpenRes (w : World) (e : Ending) (w' : World) : Prop := ∃ B, e = .returned (.pointer (some ⟨B, 0, none⟩)) ∧ w.heap.size ≤ B ∧ Rd w' B 0 ∧ Below w.heap.size w w'

theorem U8s.take {w : World} {a : Option Addr} {n cap : Nat} {zs : List Int} (h : U8s w (.slice a n cap) zs) (k : Nat) (hk : k ≤ n) : U8s w (.slice a k cap) (zs.take k) := by
  obtain ⟨a', cap', e, hl, hm, hc, hr⟩ := h
  simp only [Value.slice.injEq] at e
  obtain ⟨rfl, rfl, rfl⟩ := e
  have hn : (zs.take k).length = k := by rw [List.length_take]; omega
  refine ⟨a, cap, by rw [hn], by omega, hm, fun h0 => ?_, fun i => ?_⟩
  · obtain ⟨b, off, rfl, hcell⟩ := hc (by omega)
    refine ⟨b, off, rfl, fun i hi => ?_⟩
    rw [hcell i (by omega)]
    simp [List.getD, show i < k by omega]
  · by_cases hi : i < k
    · have := hr i
      simpa [List.getD, hi] using this
    · rw [getD_out _ _ (by omega)]; simp

theorem spec_l6Open (v : Value) (zs : List Int) (w : World) (h : U8s w v zs) (hs : zs.length ≤ 1048576) :
    Calls Try.prog 37 #[v] w (OpenRes w) := by
  have hU := h
  have hlt := h.lt
  obtain ⟨a, cap, rfl, hl, hm, hc, hr⟩ := h
  clear hc hr
  unfold maxLen at hm
  have hnew : ∀ n, (w.alloc (.cells #[.slice a n cap, .int .i64 0] 85)).heap[w.heap.size]? = some (.cells #[.slice a n cap, .int .i64 0] 85 (0, 0)) := fun n => heap_alloc_new w _
  have Hnew := Lib.hid hnew
  have Hlt := Lib.hid hlt
  have HU := Lib.hid hU
  clear hnew hlt hU
  by_cases hbig : 2000 < zs.length
  · have e2 : (zs.take 2000).length = 2000 := by rw [List.length_take]; omega
    have H2 := Lib.hid e2
    clear e2
    go_enter Try.func37, Try.ntmps37
    go_wp2
    go_ret
    refine ⟨w.heap.size, rfl, Nat.le_refl _, ⟨a, zs.take 2000, cap, 0, ?_, Nat.le_refl _, ?_, ?_, ?_⟩, (Below.refl _ _).alloc (Nat.le_refl _) _⟩
    · rw [H2.out]; exact Hnew.out 2000
    · rw [H2.out]; exact Nat.le_refl _
    · rw [H2.out]
      exact (HU.out.take 2000 (by omega)).keep fun _ b e hb => Below.heap_alloc w _ b hb
    · intro _ k hk
      cases a with
      | none => simp [Value.ownBlock] at hk
      | some x => exact Hlt.out (by omega) k (by simpa [Value.ownBlock] using hk)
  · go_enter Try.func37, Try.ntmps37
    go_wp2
    go_ret
    refine ⟨w.heap.size, rfl, Nat.le_refl _, ⟨a, zs, cap, 0, Hnew.out _, Nat.le_refl _, by omega, HU.out.keep fun _ b e hb => Below.heap_alloc w _ b hb, Hlt.out⟩, (Below.refl _ _).alloc (Nat.le_refl _) _⟩

theorem xor_nn (x y : Int) (hx : 0 ≤ x) (hx1 : x < 4611686018427387904) (hy : 0 ≤ y) (hy1 : y < 4611686018427387904) : 0 ≤ bits .xor .i64 x y := by
  obtain ⟨a, rfl⟩ := Int.eq_ofNat_of_zero_le hx
  obtain ⟨b, rfl⟩ := Int.eq_ofNat_of_zero_le hy
  have ha : a < 2 ^ 62 := by omega
  have hb : b < 2 ^ 62 := by omega
  have ha' : a % 2 ^ IntKind.i64.bits = a := by show a % 2 ^ 64 = a; exact Nat.mod_eq_of_lt (by omega)
  have hb' : b % 2 ^ IntKind.i64.bits = b := by show b % 2 ^ 64 = b; exact Nat.mod_eq_of_lt (by omega)
  have hlt := Nat.xor_lt_two_pow ha hb
  have e : bits .xor .i64 (a : Int) (b : Int) = ((a ^^^ b : Nat) : Int) := by
    simp only [bits, BitVec.ofInt_natCast, BitVec.toNat_xor, BitVec.toNat_ofNat, ha', hb']
    exact wraps_i64 _ (by omega) (by omega)
  rw [e]
  omega

def PickRes (w : World) (B c : Nat) (n : Int) (e : Ending) (w' : World) : Prop :=
  ∃ k : Nat, e = .returned (.int .i64 (k : Int)) ∧ ((k : Int) < n ∨ k = 0) ∧ Rd w' B (c + 1) ∧ w.grownBy w' (some B)

theorem heap_set {w : World} {B : Nat} {cs : Array Value} {t : TypeId} (h : w.heap[B]? = some (.cells cs t (0, 0))) (i : Nat) (u : Value) (hi : i < cs.size) :
    (w.setCell ⟨B, i, none⟩ u).heap[B]? = some (.cells (cs.setIfInBounds i u) t (0, 0)) := heap_setCell_same w B i cs t u h

theorem spec_pick (B c : Nat) (n : Int) (w : World) (h : Rd w B c) (hc : c ≤ 1000000000) (hn0 : -1000000000 ≤ n) (hn : n ≤ 1000000000000) :
    Calls Try.prog 38 #[.pointer (some ⟨B, 0, none⟩), .int .i64 n] w (PickRes w B c n) := by
  obtain ⟨a, zs, cap, p, hB, hp, hz, hU, hlt⟩ := h
  have c0 : w.cell? ⟨B, 0, none⟩ = some (.slice a zs.length cap) := by simp [World.cell?, hB]
  have c1 : w.cell? ⟨B, 1, none⟩ = some (.int .i64 p) := by simp [World.cell?, hB]
  have f1 : w.frozen? ⟨B, 1, none⟩ = false := by simp [World.frozen?, hB]
  have hB2 := heap_set hB 1 (.int .i64 ((p : Int) + 1)) (by simp)
  have hgr : w.grownBy (w.setCell ⟨B, 1, none⟩ (.int .i64 ((p : Int) + 1))) (some B) := ⟨rfl, rfl, rfl, by simp, fun k hk hne => Below.heap_setCell w _ _ k fun e => hne (by rw [e])⟩
  have hU2 : U8s (w.setCell ⟨B, 1, none⟩ (.int .i64 ((p : Int) + 1))) (.slice a zs.length cap) zs := hU.keep fun h0 b e hb => Below.heap_setCell w _ _ b (by have := hlt h0 b e; simp; omega)
  have hR : Rd (w.setCell ⟨B, 1, none⟩ (.int .i64 ((p : Int) + 1))) B (c + 1) := ⟨a, zs, cap, p + 1, hB2, by omega, hz, hU2, hlt⟩
  have HR := Lib.hid hR
  have Hgr := Lib.hid hgr
  clear hR hgr hB2 hB hU
  by_cases hn1 : n < 1
  · go_enter Try.func38, Try.ntmps38
    go_wp2
    go_ret
    exact ⟨0, rfl, .inr rfl, HR.out, Hgr.out⟩
  · by_cases hz0 : zs.length = 0
    · have d0 : ((zs.length : Int) == 0) = true := by simp [hz0]
      have d1 : (zs.length == 0) = true := by simp [hz0]
      have hz1 := List.eq_nil_of_length_eq_zero hz0
      subst hz1
      go_enter Try.func38, Try.ntmps38
      go_wp2
      go_ret
      exact ⟨0, rfl, .inr rfl, HR.out, Hgr.out⟩
    · have d0 : ((zs.length : Int) == 0) = false := by rw [beq_eq_false_iff_ne]; omega
      have d1 : (zs.length == 0) = false := by simp [hz0]
      obtain ⟨a', cap', e, hl, hm, hcl, hr⟩ := hU2
      simp only [Value.slice.injEq] at e
      obtain ⟨rfl, _, rfl⟩ := e
      obtain ⟨q, off, rfl, hcell⟩ := hcl (by omega)
      unfold maxLen at hm
      have hqB : q < B := hlt (by omega) q rfl
      clear hlt hcl
      have hv0 := hr p
      by_cases hpl : p < zs.length
      · have hx := hcell p hpl
        obtain ⟨x, ex⟩ : ∃ x, zs.getD p 0 = x := ⟨_, rfl⟩
        rw [ex] at hx hv0
        obtain ⟨x0, x1⟩ := hv0
        have m0 : 0 ≤ x % n := Int.emod_nonneg _ (by omega)
        have m1 : x % n < n := Int.emod_lt_of_pos _ (by omega)
        have hne : n ≠ 0 := by omega
        clear hcell hr ex
        go_enter Try.func38, Try.ntmps38
        go_wp2
        go_ret
        exact ⟨(x % n).toNat, ret_int (by simp; omega), .inl (by omega), HR.out, Hgr.out⟩
      · obtain ⟨L, eL⟩ : ∃ L, zs.length = L := ⟨_, rfl⟩
        rw [eL] at hl hz hz0 hpl d0 d1 c0 hcell
        have j1 : p % L < L := Nat.mod_lt _ (by omega)
        have j2 : (p * 7 + 3) % L < L := Nat.mod_lt _ (by omega)
        have hx1 := hcell (p % L) (by omega)
        have hx2 := hcell ((p * 7 + 3) % L) (by omega)
        have r1 := hr (p % L)
        have r2 := hr ((p * 7 + 3) % L)
        obtain ⟨x1, ex1⟩ : ∃ x, zs.getD (p % L) 0 = x := ⟨_, rfl⟩
        obtain ⟨x2, ex2⟩ : ∃ x, zs.getD ((p * 7 + 3) % L) 0 = x := ⟨_, rfl⟩
        rw [ex1] at hx1 r1
        rw [ex2] at hx2 r2
        have k3 : p / L ≤ p := Nat.div_le_self _ _
        obtain ⟨i1, ei1⟩ : ∃ i, p % L = i := ⟨_, rfl⟩
        obtain ⟨i2, ei2⟩ : ∃ i, (p * 7 + 3) % L = i := ⟨_, rfl⟩
        obtain ⟨q3, eq3⟩ : ∃ i, p / L = i := ⟨_, rfl⟩
        rw [ei1] at hx1 j1
        rw [ei2] at hx2 j2
        rw [eq3] at k3
        have t1 : (p : Int).tmod (L : Int) = (i1 : Int) := by rw [← ei1]; rfl
        have t2 : ((p : Int) * 7 + 3).tmod (L : Int) = (i2 : Int) := by rw [← ei2]; rfl
        have t3 : (p : Int).tdiv (L : Int) = (q3 : Int) := by rw [← eq3]; rfl
        have s1 : IntKind.i64.wrap ((p : Int) * 7) = (p : Int) * 7 := IntWalk.i64_in _ ⟨by omega, by omega⟩
        have s2 : IntKind.i64.wrap ((p : Int) * 7 + 3) = (p : Int) * 7 + 3 := IntWalk.i64_in _ ⟨by omega, by omega⟩
        clear hcell hr ex1 ex2 ei1 ei2 eq3 hv0 eL
        go_enter Try.func38, Try.ntmps38
        go_wp2
        go_quiet (fail)
        go_wp2
        go_ret
        have hx := xor_nn (x1 * 131 + x2 * 1117 + (p : Int) * 29 + (q3 : Int) * 53) ((x1 * 131 + x2 * 1117 + (p : Int) * 29 + (q3 : Int) * 53) / 64) (by omega) (by omega) (by omega) (by omega)
        have he := Int.tmod_eq_emod_of_nonneg (b := n) hx
        refine ⟨Int.toNat _, ret_int (Int.toNat_of_nonneg ?_).symm, ?_, HR.out, ⟨Hgr.out.os, Hgr.out.tape, Hgr.out.output, Hgr.out.size, Hgr.out.block⟩⟩
        · rw [he]; exact Int.emod_nonneg _ (by omega)
        · rw [he, Int.toNat_of_nonneg (Int.emod_nonneg _ (by omega))]; exact .inl (Int.emod_lt_of_pos _ (by omega))

theorem lit_cell {w : World} {g : Nat} {t : TypeId} (xs : List Int) (h : w.heap[g]? = some (.cells (xs.map (Value.int .i64)).toArray t (0, 0))) (i : Nat) (hi : i < xs.length) :
    w.cell? ⟨g, i, none⟩ = some (.int .i64 (xs.getD i 0)) := by
  simp [World.cell?, h, hi]

/-- what a draw leaves: the reader asked some times more; nothing else that was there has turned -/
def Drawn (w : World) (B c : Nat) (w' : World) : Prop := Rd w' B c ∧ w.grownBy w' (some B)
theorem grown_trans {a b c : World} {row : Option Nat} (h : a.grownBy b row) (k : b.grownBy c row) : a.grownBy c row :=
  ⟨k.os.trans h.os, k.tape.trans h.tape, k.output.trans h.output, Nat.le_trans h.size k.size, fun i hi hne => (k.block i (Nat.lt_of_lt_of_le hi h.size) hne).trans (h.block i hi hne)⟩
theorem grown_of_below {a b : World} {row : Option Nat} (h : Below a.heap.size a b) : a.grownBy b row := ⟨h.os, h.tape, h.output, h.size, fun i hi _ => h.block i hi⟩
theorem alloc_below (w : World) (o : Obj) : Below w.heap.size w (w.alloc o) := (Below.refl _ _).alloc (Nat.le_refl _) _

def NumRes (w : World) (B c : Nat) (e : Ending) (w' : World) : Prop := ∃ n : Int, e = .returned (.int .i64 n) ∧ -2000000 ≤ n ∧ n ≤ 2000000 ∧ Rd w' B (c + 8) ∧ w.grownBy w' (some B)

/-- a number that a law draws -/
def DrawnNum (w : World) (e : Ending) (w' : World) : Prop := ∃ n : Int, e = .returned (.int .i64 n) ∧ -2000001 ≤ n ∧ n ≤ 2000001 ∧ Below w.heap.size w w'
theorem below_of_grown {w a b : World} {B : Nat} (h : Below w.heap.size w a) (hB : w.heap.size ≤ B) (g : a.grownBy b (some B)) : Below w.heap.size w b :=
  h.grown g h.size fun k e => by simp only [Option.some.injEq] at e; omega

-- DA

theorem Own.by {w w' : World} {base B : Nat} {v : Value} {xs : List Int} (hown : Own w base v xs) (hB : B < base) (hg : w.grownBy w' (some B)) : Own w' base v xs :=
  hown.grown hg (by
    cases e : v.ownBlock with
    | none => exact .inl rfl
    | some k => refine .inr fun e2 => ?_; have := hown.lt k e; simp only [Option.some.injEq] at e2; omega)
theorem Rd.by {w w' : World} {B c base : Nat} {v : Value} {xs : List Int} (h : Rd w B c) (hown : Own w base v xs) (hB : B < base) (hg : w.grownBy w' v.ownBlock) : Rd w' B c :=
  h.keep fun b hb => hg.block b (Nat.lt_of_le_of_lt hb h.lt) fun e => by have := hown.lt b e.symm; omega
theorem grown_row {a b c : World} {B base : Nat} {v : Value} {xs : List Int} (h : a.grownBy b (some B)) (hown : Own b base v xs) (hb : a.heap.size ≤ base) (k : b.grownBy c v.ownBlock) : a.grownBy c (some B) :=
  ⟨k.os.trans h.os, k.tape.trans h.tape, k.output.trans h.output, Nat.le_trans h.size k.size, fun i hi hne => (k.block i (Nat.lt_of_lt_of_le hi h.size) fun e => by have := hown.lt i e.symm; omega).trans (h.block i hi hne)⟩
-- D2

def SomeRes (w : World) (B c most : Nat) (e : Ending) (w' : World) : Prop :=
  ∃ (v : Value) (xs : List Int), e = .returned v ∧ (∃ g cap, v = .slice (some ⟨g, 0, none⟩) xs.length cap) ∧ Own w' w.heap.size v xs ∧ xs.length ≤ most ∧ Rd w' B (c + most + 4) ∧ w.grownBy w' (some B)

def DrawnRow (w : World) (most : Nat) (e : Ending) (w' : World) : Prop := ∃ (v : Value) (xs : List Int), e = .returned v ∧ (∃ g off cap, v = .slice (some ⟨g, off, none⟩) xs.length cap) ∧ Ints w' v xs ∧ xs.length ≤ most ∧ Below w.heap.size w w'



-- R1

theorem Box6.by {w w' : World} {X B : Nat} {v0 v1 v2 v3 v4 v5 : Value} (h : Box6 w X v0 v1 v2 v3 v4 v5) (hX : X < w.heap.size) (hne : X ≠ B) (hg : w.grownBy w' (some B)) : Box6 w' X v0 v1 v2 v3 v4 v5 := by
  have hk : w'.heap[X]? = w.heap[X]? := hg.block X hX fun e => hne (by simpa using e)
  have k : ∀ i, w'.cell? ⟨X, i, none⟩ = w.cell? ⟨X, i, none⟩ := fun i => World.cell?_of_block hk
  obtain ⟨h0, h1, h2, h3, h4, h5⟩ := h
  exact ⟨(k 0).trans h0, (k 1).trans h1, (k 2).trans h2, (k 3).trans h3, (k 4).trans h4, (k 5).trans h5⟩
/-- the block is written to freely -/
def Thawed (w : World) (X : Nat) : Prop := X < w.heap.size ∧ ∀ i, w.frozen? ⟨X, i, none⟩ = false
theorem frozen_of_heap {w w' : World} {X : Nat} (h : w'.heap[X]? = w.heap[X]?) (i : Nat) : w'.frozen? ⟨X, i, none⟩ = w.frozen? ⟨X, i, none⟩ := by
  unfold World.frozen?
  simp only [h]
theorem Thawed.by {w w' : World} {X B : Nat} (h : Thawed w X) (hne : X ≠ B) (hg : w.grownBy w' (some B)) : Thawed w' X :=
  ⟨Nat.lt_of_lt_of_le h.1 hg.size, fun i => (frozen_of_heap (hg.block X h.1 fun e => hne (by simpa using e)) i).trans (h.2 i)⟩
theorem Thawed.below {w w' : World} {X : Nat} (h : Thawed w X) (hb : Below w.heap.size w w') : Thawed w' X :=
  ⟨Nat.lt_of_lt_of_le h.1 hb.size, fun i => (frozen_of_heap (hb.block X h.1) i).trans (h.2 i)⟩
theorem Thawed.made (w : World) (cs : Array Value) (t : TypeId) : Thawed (w.alloc (.cells cs t (0, 0))) w.heap.size := ⟨by simp, fun i => frozen_made w i⟩
theorem Box6.below {w w' : World} {X : Nat} {v0 v1 v2 v3 v4 v5 : Value} (h : Box6 w X v0 v1 v2 v3 v4 v5) (hX : X < w.heap.size) (hb : Below w.heap.size w w') : Box6 w' X v0 v1 v2 v3 v4 v5 := by
  have k : ∀ i, w'.cell? ⟨X, i, none⟩ = w.cell? ⟨X, i, none⟩ := fun i => World.cell?_of_block (hb.block X hX)
  obtain ⟨h0, h1, h2, h3, h4, h5⟩ := h
  exact ⟨(k 0).trans h0, (k 1).trans h1, (k 2).trans h2, (k 3).trans h3, (k 4).trans h4, (k 5).trans h5⟩
theorem Box6.made (w : World) (t : TypeId) (v0 v1 v2 v3 v4 v5 : Value) : Box6 (w.alloc (.cells #[v0, v1, v2, v3, v4, v5] t)) w.heap.size v0 v1 v2 v3 v4 v5 := by
  have hb := heap_alloc_new w (.cells #[v0, v1, v2, v3, v4, v5] t)
  exact ⟨cell_of_block hb 0, cell_of_block hb 1, cell_of_block hb 2, cell_of_block hb 3, cell_of_block hb 4, cell_of_block hb 5⟩
theorem set_grown (W : World) (X i : Nat) (u : Value) : W.grownBy (W.setCell ⟨X, i, none⟩ u) (some X) :=
  ⟨rfl, rfl, rfl, by simp, fun b hb hne => Below.heap_setCell W _ _ b fun e => hne (by rw [e])⟩
theorem Ints.grownX {w w' : World} {v : Value} {xs : List Int} {X : Nat} (h : Ints w v xs) (hg : w.grownBy w' (some X)) (hne : v.ownBlock ≠ some X) : Ints w' v xs := h.grown hg fun k hk => by
  simp only [Option.some.injEq] at hk
  subst hk
  exact hne

theorem grown_new {w a b : World} {row : Option Nat} {X : Nat} (h : w.grownBy a row) (hX : w.heap.size ≤ X) (k : a.grownBy b (some X)) : w.grownBy b row :=
  ⟨k.os.trans h.os, k.tape.trans h.tape, k.output.trans h.output, Nat.le_trans h.size k.size, fun i hi hne => (k.block i (Nat.lt_of_lt_of_le hi h.size) fun e => by simp only [Option.some.injEq] at e; omega).trans (h.block i hi hne)⟩
theorem set_ne (W : World) (X i j : Nat) (v : Value) (hij : i ≠ j) : (W.setCell ⟨X, i, none⟩ v).cell? ⟨X, j, none⟩ = W.cell? ⟨X, j, none⟩ := by
  refine World.cell?_setCell_other _ _ _ _ (fun e => hij ?_)
  exact congrArg Addr.off e
theorem set_same (W : World) (X i : Nat) (v u : Value) (h : W.cell? ⟨X, i, none⟩ = some u) : (W.setCell ⟨X, i, none⟩ v).cell? ⟨X, i, none⟩ = some v := World.cell?_setCell_same' W _ v (by rw [h]; rfl)
theorem Box6.set0 {w : World} {X : Nat} {v0 v1 v2 v3 v4 v5 : Value} (h : Box6 w X v0 v1 v2 v3 v4 v5) (u : Value) : Box6 (w.setCell ⟨X, 0, none⟩ u) X u v1 v2 v3 v4 v5 := by
  obtain ⟨h0, h1, h2, h3, h4, h5⟩ := h
  exact ⟨set_same _ _ _ _ _ h0, (set_ne _ _ _ _ _ (by decide)).trans h1, (set_ne _ _ _ _ _ (by decide)).trans h2, (set_ne _ _ _ _ _ (by decide)).trans h3, (set_ne _ _ _ _ _ (by decide)).trans h4, (set_ne _ _ _ _ _ (by decide)).trans h5⟩
theorem Box6.set2 {w : World} {X : Nat} {v0 v1 v2 v3 v4 v5 : Value} (h : Box6 w X v0 v1 v2 v3 v4 v5) (u : Value) : Box6 (w.setCell ⟨X, 2, none⟩ u) X v0 v1 u v3 v4 v5 := by
  obtain ⟨h0, h1, h2, h3, h4, h5⟩ := h
  exact ⟨(set_ne _ _ _ _ _ (by decide)).trans h0, (set_ne _ _ _ _ _ (by decide)).trans h1, set_same _ _ _ _ _ h2, (set_ne _ _ _ _ _ (by decide)).trans h3, (set_ne _ _ _ _ _ (by decide)).trans h4, (set_ne _ _ _ _ _ (by decide)).trans h5⟩
theorem Box6.set3 {w : World} {X : Nat} {v0 v1 v2 v3 v4 v5 : Value} (h : Box6 w X v0 v1 v2 v3 v4 v5) (u : Value) : Box6 (w.setCell ⟨X, 3, none⟩ u) X v0 v1 v2 u v4 v5 := by
  obtain ⟨h0, h1, h2, h3, h4, h5⟩ := h
  exact ⟨(set_ne _ _ _ _ _ (by decide)).trans h0, (set_ne _ _ _ _ _ (by decide)).trans h1, (set_ne _ _ _ _ _ (by decide)).trans h2, set_same _ _ _ _ _ h3, (set_ne _ _ _ _ _ (by decide)).trans h4, (set_ne _ _ _ _ _ (by decide)).trans h5⟩
theorem Box6.set4 {w : World} {X : Nat} {v0 v1 v2 v3 v4 v5 : Value} (h : Box6 w X v0 v1 v2 v3 v4 v5) (u : Value) : Box6 (w.setCell ⟨X, 4, none⟩ u) X v0 v1 v2 v3 u v5 := by
  obtain ⟨h0, h1, h2, h3, h4, h5⟩ := h
  exact ⟨(set_ne _ _ _ _ _ (by decide)).trans h0, (set_ne _ _ _ _ _ (by decide)).trans h1, (set_ne _ _ _ _ _ (by decide)).trans h2, (set_ne _ _ _ _ _ (by decide)).trans h3, set_same _ _ _ _ _ h4, (set_ne _ _ _ _ _ (by decide)).trans h5⟩
theorem Box6.set5 {w : World} {X : Nat} {v0 v1 v2 v3 v4 v5 : Value} (h : Box6 w X v0 v1 v2 v3 v4 v5) (u : Value) : Box6 (w.setCell ⟨X, 5, none⟩ u) X v0 v1 v2 v3 v4 u := by
  obtain ⟨h0, h1, h2, h3, h4, h5⟩ := h
  exact ⟨(set_ne _ _ _ _ _ (by decide)).trans h0, (set_ne _ _ _ _ _ (by decide)).trans h1, (set_ne _ _ _ _ _ (by decide)).trans h2, (set_ne _ _ _ _ _ (by decide)).trans h3, (set_ne _ _ _ _ _ (by decide)).trans h4, set_same _ _ _ _ _ h5⟩
theorem Thawed.set {w : World} {X Y i : Nat} {u : Value} (h : Thawed w X) : Thawed (w.setCell ⟨Y, i, none⟩ u) X := ⟨by simpa using h.1, fun j => by rw [World.frozen?_setCell]; exact h.2 j⟩
theorem Box6.setOther {w : World} {X Y i : Nat} {u v0 v1 v2 v3 v4 v5 : Value} (h : Box6 w X v0 v1 v2 v3 v4 v5) (hne : Y ≠ X) : Box6 (w.setCell ⟨Y, i, none⟩ u) X v0 v1 v2 v3 v4 v5 := by
  have k : ∀ j, (w.setCell ⟨Y, i, none⟩ u).cell? ⟨X, j, none⟩ = w.cell? ⟨X, j, none⟩ := fun j => World.cell?_setCell_other _ _ _ _ (fun e => hne (congrArg Addr.block e))
  obtain ⟨h0, h1, h2, h3, h4, h5⟩ := h
  exact ⟨(k 0).trans h0, (k 1).trans h1, (k 2).trans h2, (k 3).trans h3, (k 4).trans h4, (k 5).trans h5⟩

theorem Box6.belowN {n : Nat} {w w' : World} {X : Nat} {v0 v1 v2 v3 v4 v5 : Value} (h : Box6 w X v0 v1 v2 v3 v4 v5) (hX : X < n) (hb : Below n w w') : Box6 w' X v0 v1 v2 v3 v4 v5 := by
  have k : ∀ i, w'.cell? ⟨X, i, none⟩ = w.cell? ⟨X, i, none⟩ := fun i => World.cell?_of_block (hb.block X hX)
  obtain ⟨h0, h1, h2, h3, h4, h5⟩ := h
  exact ⟨(k 0).trans h0, (k 1).trans h1, (k 2).trans h2, (k 3).trans h3, (k 4).trans h4, (k 5).trans h5⟩
theorem Thawed.belowN {n : Nat} {w w' : World} {X : Nat} (h : Thawed w X) (hX : X < n) (hb : Below n w w') : Thawed w' X :=
  ⟨Nat.lt_of_lt_of_le h.1 hb.size, fun i => (frozen_of_heap (hb.block X hX) i).trans (h.2 i)⟩
theorem six_grown (W : World) (X : Nat) (v0 v1 v2 v3 v4 v5 : Value) : W.grownBy ((((((W.setCell ⟨X, 0, none⟩ v0).setCell ⟨X, 1, none⟩ v1).setCell ⟨X, 2, none⟩ v2).setCell ⟨X, 3, none⟩ v3).setCell ⟨X, 4, none⟩ v4).setCell ⟨X, 5, none⟩ v5) (some X) :=
  grown_trans (grown_trans (grown_trans (grown_trans (grown_trans (set_grown _ _ _ _) (set_grown _ _ _ _)) (set_grown _ _ _ _)) (set_grown _ _ _ _)) (set_grown _ _ _ _)) (set_grown _ _ _ _)
end Go.Proofs.Ytfapeppocfodpaa
