/- The drawer: a reader of bytes that the laws draw their inputs with. -/
import Derived.Test.YtomlejfilfdnbaaL0
namespace Go.Proofs.Ytomlejfilfdnbaa
open Go.ChangeShapes Go.WideShapes Go.ChangeAt Go.RowKit
set_option linter.unusedVariables false

/-- block B is a reader that has been asked at most c times -/
def Rd (w : World) (B c : Nat) : Prop :=
  ∃ (a : Option Addr) (zs : List Int) (cap p : Nat), w.heap[B]? = some (.cells #[.slice a zs.length cap, .int .i64 p] 0 (0, 0)) ∧ p ≤ c ∧ zs.length ≤ 2000 ∧ U8s w (.slice a zs.length cap) zs ∧
    (0 < zs.length → ∀ k, (Value.slice a zs.length cap).ownBlock = some k → k < B)

theorem U8s.keep {w w' : World} {v : Value} {xs : List Int} (h : U8s w v xs) (hb : 0 < xs.length → ∀ b, v.ownBlock = some b → b < w.heap.size → w'.heap[b]? = w.heap[b]?) : U8s w' v xs := by
  obtain ⟨a, cap, rfl, hl, hm, hc, hr⟩ := h
  refine ⟨a, cap, rfl, hl, hm, fun h0 => ?_, hr⟩
  obtain ⟨b, off, rfl, hcell⟩ := hc h0
  refine ⟨b, off, rfl, fun i hi => ?_⟩
  rw [← hcell i hi]
  exact World.cell?_of_block (hb h0 b rfl (World.block_lt_of_cell? (a := ⟨b, off + 0, .none⟩) w (hcell 0 h0)))

theorem U8s.lt {w : World} {v : Value} {xs : List Int} (h : U8s w v xs) : 0 < xs.length → ∀ k, v.ownBlock = some k → k < w.heap.size := by
  obtain ⟨a, cap, rfl, hl, hm, hc, hr⟩ := h
  intro h0 k hk
  obtain ⟨b, off, rfl, hcell⟩ := hc h0
  simp only [Value.ownBlock, Option.some.injEq] at hk
  subst hk
  exact World.block_lt_of_cell? (a := ⟨b, off + 0, .none⟩) w (hcell 0 h0)

theorem Rd.keep {w w' : World} {B c : Nat} (h : Rd w B c) (hb : ∀ b, b ≤ B → w'.heap[b]? = w.heap[b]?) : Rd w' B c := by
  obtain ⟨a, zs, cap, p, h1, h2, h3, h4, h5⟩ := h
  exact ⟨a, zs, cap, p, (hb B (Nat.le_refl _)).trans h1, h2, h3, h4.keep fun h0 b e _ => hb b (Nat.le_of_lt (h5 h0 b e)), h5⟩
theorem Rd.lt {w : World} {B c : Nat} (h : Rd w B c) : B < w.heap.size := by
  obtain ⟨a, zs, cap, p, h1, _⟩ := h
  exact (Array.getElem?_eq_some_iff.1 h1).1
theorem Rd.below {w w' : World} {B c : Nat} (h : Rd w B c) (hb : Below w.heap.size w w') : Rd w' B c :=
  h.keep fun b hlt => hb.block b (Nat.lt_of_le_of_lt hlt h.lt)
theorem Rd.more {w : World} {B c d : Nat} (h : Rd w B c) (hd : c ≤ d) : Rd w B d := by
  obtain ⟨a, zs, cap, p, h1, h2, h3⟩ := h
  exact ⟨a, zs, cap, p, h1, by omega, h3⟩

def OpenRes (w : World) (e : Ending) (w' : World) : Prop := ∃ B, e = .returned (.pointer (some ⟨B, 0, none⟩)) ∧ w.heap.size ≤ B ∧ Rd w' B 0 ∧ Below w.heap.size w w'

theorem U8s.take {w : World} {a : Option Addr} {n cap : Nat} {zs : List Int} (h : U8s w (.slice a n cap) zs) (k : Nat) (hk : k ≤ n) : U8s w (.slice a k cap) (zs.take k) := by
  obtain ⟨a', cap', e, hl, hm, hc, hr⟩ := h
  simp only [Value.slice.injEq] at e
  obtain ⟨rfl, rfl, rfl⟩ := e
  have hn : (zs.take k).length = k := by rw [List.length_take]; omega
  refine ⟨a, cap, by rw [hn], by omega, hm, fun h0 => ?_, fun i => ?_⟩
  · obtain ⟨b, off, rfl, hcell⟩ := hc (by omega)
    refine ⟨b, off, rfl, fun i hi => ?_⟩
    rw [hcell i (by omega)]
    simp [List.getD, show i < k by omega]
  · by_cases hi : i < k
    · have := hr i
      simpa [List.getD, hi] using this
    · rw [getD_out _ _ (by omega)]; simp

theorem xor_nn (x y : Int) (hx : 0 ≤ x) (hx1 : x < 4611686018427387904) (hy : 0 ≤ y) (hy1 : y < 4611686018427387904) : 0 ≤ bits .xor .i64 x y := by
  obtain ⟨a, rfl⟩ := Int.eq_ofNat_of_zero_le hx
  obtain ⟨b, rfl⟩ := Int.eq_ofNat_of_zero_le hy
  have ha : a < 2 ^ 62 := by omega
  have hb : b < 2 ^ 62 := by omega
  have ha' : a % 2 ^ IntKind.i64.bits = a := by show a % 2 ^ 64 = a; exact Nat.mod_eq_of_lt (by omega)
  have hb' : b % 2 ^ IntKind.i64.bits = b := by show b % 2 ^ 64 = b; exact Nat.mod_eq_of_lt (by omega)
  have hlt := Nat.xor_lt_two_pow ha hb
  have e : bits .xor .i64 (a : Int) (b : Int) = ((a ^^^ b : Nat) : Int) := by
    simp only [bits, BitVec.ofInt_natCast, BitVec.toNat_xor, BitVec.toNat_ofNat, ha', hb']
    exact wraps_i64 _ (by omega) (by omega)
  rw [e]
  omega

def PickRes (w : World) (B c : Nat) (n : Int) (e : Ending) (w' : World) : Prop :=
  ∃ k : Nat, e = .returned (.int .i64 (k : Int)) ∧ ((k : Int) < n ∨ k = 0) ∧ Rd w' B (c + 1) ∧ w.grownBy w' (some B)

theorem heap_set {w : World} {B : Nat} {cs : Array Value} {t : TypeId} (h : w.heap[B]? = some (.cells cs t (0, 0))) (i : Nat) (u : Value) (hi : i < cs.size) :
    (w.setCell ⟨B, i, none⟩ u).heap[B]? = some (.cells (cs.setIfInBounds i u) t (0, 0)) := heap_setCell_same w B i cs t u h

theorem lit_cell {w : World} {g : Nat} {t : TypeId} (xs : List Int) (h : w.heap[g]? = some (.cells (xs.map (Value.int .i64)).toArray t (0, 0))) (i : Nat) (hi : i < xs.length) :
    w.cell? ⟨g, i, none⟩ = some (.int .i64 (xs.getD i 0)) := by
  simp [World.cell?, h, hi]

/-- what a draw leaves: the reader asked some times more; nothing else that was there has turned -/
def Drawn (w : World) (B c : Nat) (w' : World) : Prop := Rd w' B c ∧ w.grownBy w' (some B)
theorem grown_trans {a b c : World} {row : Option Nat} (h : a.grownBy b row) (k : b.grownBy c row) : a.grownBy c row :=
  ⟨k.os.trans h.os, k.tape.trans h.tape, k.output.trans h.output, Nat.le_trans h.size k.size, fun i hi hne => (k.block i (Nat.lt_of_lt_of_le hi h.size) hne).trans (h.block i hi hne)⟩
theorem grown_of_below {a b : World} {row : Option Nat} (h : Below a.heap.size a b) : a.grownBy b row := ⟨h.os, h.tape, h.output, h.size, fun i hi _ => h.block i hi⟩
theorem alloc_below (w : World) (o : Obj) : Below w.heap.size w (w.alloc o) := (Below.refl _ _).alloc (Nat.le_refl _) _

def NumRes (w : World) (B c : Nat) (e : Ending) (w' : World) : Prop := ∃ n : Int, e = .returned (.int .i64 n) ∧ -2000000 ≤ n ∧ n ≤ 2000000 ∧ Rd w' B (c + 8) ∧ w.grownBy w' (some B)

/-- a number that a law draws -/
def DrawnNum (w : World) (e : Ending) (w' : World) : Prop := ∃ n : Int, e = .returned (.int .i64 n) ∧ -2000001 ≤ n ∧ n ≤ 2000001 ∧ Below w.heap.size w w'
theorem below_of_grown {w a b : World} {B : Nat} (h : Below w.heap.size w a) (hB : w.heap.size ≤ B) (g : a.grownBy b (some B)) : Below w.heap.size w b :=
  h.grown g h.size fun k e => by simp only [Option.some.injEq] at e; omega

end Go.Proofs.Ytomlejfilfdnbaa
