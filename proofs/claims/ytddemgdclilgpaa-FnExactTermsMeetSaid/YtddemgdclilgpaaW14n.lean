/- Chapter 23: the library's Backward and Index, at terms. -/
import Derived.RangeFuncNested
import Derived.RangeFuncBound
import Derived.RangeFuncBox
import Derived.RangeFuncCalls
import Derived.RangeFuncLeaves
import Derived.Shelf.Abstract
import Derived.Shelf.RegionOpen
import Derived.OwnWalkIn
import Derived.TacticsInMore
import Derived.LoopNIn
import Derived.LoopIn
import Derived.Test.YtddemgdclilgpaaW14e
namespace Go.Proofs.Ytddemgdclilgpaa
open Go.ChangeShapes Go.WideShapes Go.ChangeAt Go.RowKit Go.Shelf
set_option linter.unusedVariables false
attribute [local go_sem] Oper.semAt_some

/-- what slices.Index says of a row and a term -/
def IdxRes (w : World) (ts : List Trm) (t : Trm) (e : Ending) (w' : World) : Prop :=
  ((e = .returned (.int .i64 (-1)) ∧ ∀ k, k < ts.length → tAt ts k ≠ t) ∨ ∃ k : Nat, e = .returned (.int .i64 (k : Int)) ∧ k < ts.length ∧ tAt ts k = t) ∧ Below w.heap.size w w'
theorem slices_Index (v : Value) (ts : List Trm) (x y : Int) (w : World) (h : Ts w v ts) : Calls Try.prog 22 #[v, .agg #[.int .i64 x, .int .i64 y]] w (IdxRes w ts ⟨x, y⟩) := by
  have hv := h
  obtain ⟨a, cap, rfl, hl, hm, hc⟩ := h
  unfold maxLen at hm
  clear hc
  have bX := alloc_below' w (.cells #[.int .i64 x, .int .i64 y] 29)
  have xX := Blk.made w #[.int .i64 x, .int .i64 y] 29
  have hgd := fun (w : World) (op : BinOp) (x y : Operand) (xs ys : Array Value) => run_eqGuard_agg (P := Try.prog) w op 29 x y xs ys term_guard
  go_enter Try.func22, Try.ntmps22
  go_wp2_with fail
  generalize hwb : w.alloc (.cells #[.int .i64 x, .int .i64 y] 29) = wb at bX xX ⊢
  clear hwb
  obtain ⟨X, hX⟩ : ∃ X, w.heap.size = X := ⟨_, rfl⟩
  rw [hX] at xX ⊢
  have HX := Lib.hid hX
  clear hX
  go_loopw [8] (fun i wr => ∃ k : Nat, k ≤ ts.length ∧ i = .int .i64 k ∧ (∀ j, j < k → tAt ts j ≠ ⟨x, y⟩) ∧ Below wb.heap.size wb wr) (fun i _ => ts.length - (intOf i).toNat)
  case atStart => exact ⟨0, Nat.zero_le _, rfl, fun j hj => by omega, Below.refl _ _⟩
  case round =>
    obtain ⟨k, hk, rfl, hrel, bel⟩ := hrel
    by_cases hlt : k < ts.length
    · obtain ⟨b, off, cp, e, _, _, hcell⟩ := (hv.below (Bstep bX bel)).form (by omega)
      simp only [Value.slice.injEq, true_and] at e
      obtain ⟨rfl, rfl⟩ := e
      obtain ⟨c0, c1⟩ := hcell k hlt
      have x0 : wr.cell? ⟨X, 0, none⟩ = some (.int .i64 x) := (xX.belowS bel).cell 0
      have x1 : wr.cell? ⟨X, 1, none⟩ = some (.int .i64 y) := (xX.belowS bel).cell 1
      obtain ⟨⟨p, q⟩, Ht⟩ : ∃ t, Hid (tAt ts k = t) := ⟨_, Lib.hid rfl⟩
      rw [Ht.out] at c0 c1
      simp only at c0 c1
      have i0 : (0 : Int) ≤ (k : Int) := by omega
      have i1 : (k : Int) < (ts.length : Int) := by omega
      clear hcell
      by_cases hpq : x = p ∧ y = q
      · have heq : ∀ w : World, (binOp .eql 29 (.agg #[.int .i64 x, .int .i64 y]) (.agg #[.int .i64 p, .int .i64 q])).run Try.prog w = .ok (.bool true) w := fun w => by rw [term_eql]; simp [hpq.1, hpq.2]
        have HE : Hid (tAt ts k = ⟨x, y⟩) := Lib.hid (by rw [Ht.out, hpq.1, hpq.2])
        clear hpq
        go_wp2_with fail
        go_quiet (fail)
        go_wp2_with fail
        go_ret
        exact ⟨.inr ⟨k, rfl, hlt, HE.out⟩, Bstep bX (below_drewN bel _)⟩
      · have heq : ∀ w : World, (binOp .eql 29 (.agg #[.int .i64 x, .int .i64 y]) (.agg #[.int .i64 p, .int .i64 q])).run Try.prog w = .ok (.bool false) w := fun w => by
          rw [term_eql]
          by_cases h1 : x = p <;> by_cases h2 : y = q <;> simp [h1, h2] <;> exact hpq ⟨h1, h2⟩
        have H1 : ∀ j, j < k + 1 → tAt ts j ≠ ⟨x, y⟩ := fun j hj => by
          by_cases e : j = k
          · rw [e, Ht.out]
            intro e2
            simp only [Trm.mk.injEq] at e2
            exact hpq ⟨e2.1.symm, e2.2.symm⟩
          · exact hrel j (by omega)
        clear hpq
        go_wp2_with fail
        go_quiet (fail)
        go_wp2_with fail
        go_roundw
        case rel => exact ⟨k + 1, by omega, by go_num, H1, below_drewN bel _⟩
        case measure => simp [intOf]; omega
    · go_wp2_with fail
      go_ret
      exact ⟨.inl ⟨rfl, fun j hj => hrel j (by omega)⟩, Bstep bX bel⟩

/-- the terms of a row from the last one on: where round k is -/
def backN (ts : List Trm) (k : Nat) : Nat := ts.length - 1 - k
/-- what yield is handed in round k -/
def encT (ts : List Trm) (k : Nat) : Array Value := #[.int .i64 (backN ts k : Int), .agg #[.int .i64 (tAt ts (backN ts k)).num, .int .i64 (tAt ts (backN ts k)).first]]

set_option maxRecDepth 100000 in
set_option maxHeartbeats 2000000 in
/-- the closure of slices.Backward -/
theorem backward1_in (F : Fence) (n : Nat) (h56 : F.fn 31) (hro : F.round = none) (hn : 1 ≤ n) (l Bs n₀ : Nat) (v : Value) (ts : List Trm) (hbs : Bs < n₀) (hb : 0 < ts.length → ∀ b, v.ownBlock = some b → b < n₀) (J Jx : List Nat → World → Prop)
    (hY : ∀ pre x W, J pre W → pre.length < ts.length → YieldAt F (n - 1) Try.prog l (encT ts x) W fun e W' =>
      (e = .returned (.bool true) ∧ J (pre ++ [x]) W' ∧ Below n₀ W W') ∨ (e = .returned (.bool false) ∧ Jx (pre ++ [x]) W'))
    (W : World) (hBs : W.cell? ⟨Bs, 0, none⟩ = some v) (hT : Ts W v ts) (h0 : J [] W) :
    CallsIn F n Try.prog 31 #[.func (.yield l) #[] #[], .pointer (some ⟨Bs, 0, none⟩)] W fun e W' => (∃ v, e = .returned v) ∧
      ((∃ ys, ys = List.range ts.length ∧ J ys W') ∨ (∃ pre, (∃ k, k ≤ ts.length ∧ pre = List.range k) ∧ Jx pre W')) := by
  obtain ⟨a, cap, rfl, hl, hm, hc⟩ := hT
  unfold maxLen at hm
  have hcx := Lib.hid hc
  clear hc
  refine callsIn_of_wp Try.func31 rfl h56 ?_ hro
  simp only [Try.ntmps31, List.size_toArray, List.length_cons, List.length_nil, Nat.reduceAdd, Nat.reduceSub, Array.replicate_succ, Array.replicate_zero, List.push_toArray, List.append_toArray, List.nil_append, List.cons_append]
  gi_wp2
  gi_loopw [3] (fun i wr => ∃ k : Nat, k ≤ ts.length ∧ i = .int .i64 ((ts.length : Int) - 1 - k) ∧ J (List.range k) wr ∧ Below n₀ W wr) (fun i _ => (intOf i + 1).toNat)
  case atStart => exact ⟨0, Nat.zero_le _, by simp, h0, Below.refl _ _⟩
  case round =>
    obtain ⟨k, hk, rfl, hJs, hnx⟩ := hrel
    by_cases hlt : k < ts.length
    · obtain ⟨m, Hm⟩ : ∃ m : Nat, Hid (m = ts.length - 1 - k) := ⟨_, Lib.hid rfl⟩
      have hmk : (ts.length : Int) - 1 - k = (m : Int) := by have := Hm.out; omega
      have hml : m < ts.length := by have := Hm.out; omega
      obtain ⟨b, off, rfl, hcell⟩ := hcx.out (by omega)
      have hbn : b < n₀ := hb (by omega) b rfl
      have c0 : wr.cell? ⟨b, off + m * 2, none⟩ = some (.int .i64 (tAt ts m).num) := (hnx.cell (p := ⟨b, off + m * 2, none⟩) hbn).trans (hcell m hml).1
      have c1 : wr.cell? ⟨b, off + m * 2 + 1, none⟩ = some (.int .i64 (tAt ts m).first) := (hnx.cell (p := ⟨b, off + m * 2 + 1, none⟩) hbn).trans (hcell m hml).2
      have cB : wr.cell? ⟨Bs, 0, none⟩ = some (.slice (some ⟨b, off, none⟩) ts.length cap) := (hnx.cell (p := ⟨Bs, 0, none⟩) hbs).trans hBs
      clear hcell
      rw [hmk]
      clear hmk
      have HS : Hid (List.range (k + 1) = List.range k ++ [k]) := Lib.hid (List.range_succ)
      obtain ⟨fn, tmps, assign, body, hy, hR⟩ := hY _ k wr hJs (by rw [List.length_range]; exact hlt)
      have HB : backN ts k = m := by rw [backN, Hm.out]
      simp only [encT, HB] at hy
      clear HB
      have i0 : (0 : Int) ≤ (m : Int) := by omega
      have i1 : (m : Int) < (ts.length : Int) := by omega
      gi_wp2
      refine hR.mono ?_
      rintro e W3 (⟨rfl, hJ3, hk3⟩ | ⟨rfl, hJx3⟩)
      · gi_wp2
        go_roundw
        case rel => exact ⟨k + 1, by omega, by have := Hm.out; have e : (m : Int) - 1 = (ts.length : Int) - 1 - ((k + 1 : Nat) : Int) := by omega
                                               rw [← e], by rw [HS.out]; exact hJ3, hnx.trans hk3⟩
        case measure => simp [intOf]
      · gi_wp2
        refine bodyPost_ret (results_none rfl _ _ _) rfl ?_
        exact ⟨⟨_, rfl⟩, .inr ⟨_, ⟨k + 1, by omega, HS.out.symm⟩, hJx3⟩⟩
    · obtain rfl : k = ts.length := by omega
      have hmk : (ts.length : Int) - 1 - ts.length = -1 := by omega
      rw [hmk]
      clear hmk
      gi_wp2
      go_end0
      exact ⟨⟨_, rfl⟩, .inl ⟨_, rfl, hJs⟩⟩
set_option maxHeartbeats 1000000 in
/-- **slices.Backward(s)**: the slice value is boxed; the function value captures the box. -/
theorem backward_in (F : Fence) (n : Nat) (h55 : F.fn 21) (hro : F.round = none) (a : Option Addr) (len cap : Nat) (w : World) :
    CallsIn F n Try.prog 21 #[.slice a len cap] w fun e w' => e = .returned (.func (.func 31) #[] #[.pointer (some ⟨w.heap.size, 0, none⟩)]) ∧ w' = w.alloc (.cells #[.slice a len cap] 23) := by
  refine callsIn_of_wp Try.func21 rfl h55 ?_ hro
  simp only [Try.ntmps21, List.size_toArray, List.length_cons, List.length_nil, Nat.reduceAdd, Nat.reduceSub, Array.replicate_succ, Array.replicate_zero, List.push_toArray, List.append_toArray, List.nil_append, List.cons_append]
  gi_wp2
  go_ret
  exact ⟨rfl, rfl⟩

/-- slices.Backward hands back a value that stops: all the terms from the last on, or the first k of them. -/
theorem backward_stops (F : Fence) (n : Nat) (h56 : F.fn 31) (hro : F.round = none) (hn : 1 ≤ n) (Bs n₀ : Nat) (v : Value) (ts : List Trm) (w : World) (hBs : Bs < n₀) (hn₀ : n₀ ≤ w.heap.size)
    (hc : w.cell? ⟨Bs, 0, none⟩ = some v) (hT : Ts w v ts) (hb : 0 < ts.length → ∀ b, v.ownBlock = some b → b < n₀) :
    SeqStopsK F n Try.prog 31 #[.pointer (some ⟨Bs, 0, none⟩)] (encT ts) (Below n₀) (fun ys => ys = List.range ts.length)
      (fun pre => ∃ k, k ≤ ts.length ∧ pre = List.range k) ts.length w := fun l J Jx W hW _ _ hY h0 => by
  have hW' : Below n₀ w W := hW.mono hn₀
  exact backward1_in F n h56 hro hn l Bs n₀ v ts hBs hb J Jx hY W ((hW'.cell hBs).trans hc) (hT.keep fun h0 b hb' hlt => hW'.block b (hb h0 b hb')) h0
end Go.Proofs.Ytddemgdclilgpaa
