/- Chapter 12: which segments are valid. -/
import Derived.Test.YtcajbipgecdfeaaRL
import Derived.Test.YtcajbipgecdfeaaW5c
import Derived.Test.YtcajbipgecdfeaaB0
namespace Go.Proofs.Ytcajbipgecdfeaa
open Go.ChangeShapes Go.WideShapes Go.ChangeAt Go.RowKit
set_option linter.unusedVariables false

/-- a number, and new memory -/
def SaysI (n : Int) (w : World) (e : Ending) (w' : World) : Prop := e = .returned (.int .i64 n) ∧ Below w.heap.size w w'
theorem spec_l12Last (v : Value) (b : Bat) (w : World) (h : BatV w v b) (hn : 1 ≤ b.recs.length) : Calls Try.prog 18 #[v] w (SaysI (lastO b) w) := by
  obtain ⟨a, cap, rfl, hr, hl, hm⟩ := h.parts
  clear h
  obtain ⟨packed, mark, prod, epoch, seq, recs⟩ := b
  simp only at hr hl hn ⊢
  obtain ⟨b, off, cp, e, hmm⟩ := hr.form (by omega)
  simp only [Value.slice.injEq, true_and] at e
  obtain ⟨rfl, rfl⟩ := e
  have bA := alloc_below' w (.cells #[.bool packed, .bool mark, .int .i64 prod, .int .i64 epoch, .int .i64 seq, .slice (some ⟨b, off, none⟩) recs.length cap] 42)
  have xA := Blk.made w #[.bool packed, .bool mark, .int .i64 prod, .int .i64 epoch, .int .i64 seq, .slice (some ⟨b, off, none⟩) recs.length cap] 42
  have hr1 := hr.below bA
  obtain ⟨kv, vv, hR⟩ := hr1.rec (recs.length - 1) (by omega)
  have c := hR.1
  have s1 : IntKind.i64.wrap ((recs.length : Int) - 1) = ((recs.length - 1 : Nat) : Int) := by rw [IntWalk.i64_in _ ⟨by omega, by omega⟩]; omega
  obtain ⟨c0, c1, c2, c3, c4, c5⟩ := xA.sixC
  have n1 : recs.length - 1 < recs.length := by omega
  clear hR hr hr1
  go_enter Try.func18, Try.ntmps18
  go_wp2_with fail
  go_ret
  exact ⟨rfl, bA⟩
theorem impl_endOf (v : Value) (bs : List Bat) (w : World) (h : Bats w v bs) (hs : bs.length ≤ 1000000000) (hv : 0 < bs.length → batOk (batN bs (bs.length - 1)) = true) : Calls Try.prog 32 #[v] w (SaysI (endOf bs) w) := by
  have hb := h
  obtain ⟨a, cap, rfl, hl, hm, hc⟩ := h
  unfold maxLen at hm
  clear hc
  by_cases h0 : bs.length = 0
  · have q0 : ((bs.length : Int) == 0) = true := by rw [beq_iff_eq]; omega
    have fin : SaysI (endOf bs) w (.returned (.int .i64 0)) w := ⟨by unfold endOf; rw [if_pos h0], Below.refl _ _⟩
    have Fin := Lib.hid fin
    clear fin h0
    go_enter Try.func32, Try.ntmps32
    go_wp2_with fail
    go_ret
    exact Fin.out
  have q0 : ((bs.length : Int) == 0) = false := by rw [beq_eq_false_iff_ne]; omega
  have hok := hv (by omega)
  obtain ⟨b, off, cp, e, hmm⟩ := hb.form (by omega)
  simp only [Value.slice.injEq, true_and] at e
  obtain ⟨rfl, rfl⟩ := e
  obtain ⟨x, a1, c1, Hr, hR⟩ := hb.parts (bs.length - 1) (by omega)
  rw [Hr.out] at hok
  have C1 := impl_BatchSpan _ x w hR.batV
  unfold SpanRes at C1
  rw [spanF_yes hok, spanL_yes hok, hok] at C1
  have C1 := Lib.hid C1
  have hlast := lastO_pos hok
  have s1 : IntKind.i64.wrap ((bs.length : Int) - 1) = ((bs.length - 1 : Nat) : Int) := by rw [IntWalk.i64_in _ ⟨by omega, by omega⟩]; omega
  have fin : endOf bs = lastO x + 1 := by unfold endOf; rw [if_neg h0, Hr.out]
  have Fin := Lib.hid fin
  obtain ⟨q, hq⟩ : ∃ q, lastO x = q := ⟨_, rfl⟩
  rw [hq] at C1 hlast Fin
  have n1 : bs.length - 1 < bs.length := by omega
  obtain ⟨e0, e1, e2, e3, e4, e5, _⟩ := hR
  clear fin hq hok hv Hr h0
  go_enter Try.func32, Try.ntmps32
  go_wp2_with fail
  refine C1.out.mono ?_
  rintro e w1 ⟨rfl, b1⟩
  go_wp2_with fail
  go_ret
  exact ⟨ret_int Fin.out.symm, b1⟩
/-- six cells of a boxed batch, and a cell beside them -/
def BoxBat (W : World) (X : Nat) (v0 v1 v2 v3 v4 v5 : Value) (p : Addr) (u : Value) : Prop :=
  W.cell? ⟨X, 0, none⟩ = some v0 ∧ W.cell? ⟨X, 1, none⟩ = some v1 ∧ W.cell? ⟨X, 2, none⟩ = some v2 ∧ W.cell? ⟨X, 3, none⟩ = some v3 ∧ W.cell? ⟨X, 4, none⟩ = some v4 ∧ W.cell? ⟨X, 5, none⟩ = some v5 ∧ W.cell? p = some u
set_option maxHeartbeats 1000000 in
theorem impl_isBehind (v u : Value) (x : Bat) (bs : List Bat) (w : World) (h : BatV w v x) (g : Bats w u bs) (hn : 1 ≤ x.recs.length) (hs : bs.length ≤ 1000000000) (hv : 0 < bs.length → batOk (batN bs (bs.length - 1)) = true) :
    Calls Try.prog 21 #[v, u] w (SaysB (decide (endOf bs ≤ firstO x)) w) := by
  obtain ⟨a, cap, rfl, hr, hl, hm⟩ := h.parts
  clear h
  obtain ⟨packed, mark, prod, epoch, seq, recs⟩ := x
  simp only at hr hl hn ⊢
  obtain ⟨b, off, cp, e, hmm⟩ := hr.form (by omega)
  simp only [Value.slice.injEq, true_and] at e
  obtain ⟨rfl, rfl⟩ := e
  have bA := alloc_below' w (.cells #[.bool packed, .bool mark, .int .i64 prod, .int .i64 epoch, .int .i64 seq, .slice (some ⟨b, off, none⟩) recs.length cap] 42)
  have xA := Blk.made w #[.bool packed, .bool mark, .int .i64 prod, .int .i64 epoch, .int .i64 seq, .slice (some ⟨b, off, none⟩) recs.length cap] 42
  obtain ⟨kv, vv, hR⟩ := hr.rec 0 (by omega)
  have c := hR.1
  rw [show off + 0 * 6 = off by omega] at c
  have C1 : Hid (∀ W, Below w.heap.size w W → Calls Try.prog 32 #[u] W (SaysI (endOf bs) W)) := Lib.hid fun W hW => impl_endOf u bs W (g.below hW) hs hv
  obtain ⟨m, hm'⟩ : ∃ m, endOf bs = m := ⟨_, rfl⟩
  obtain ⟨f, hf⟩ : ∃ f, (recAt recs 0).off = f := ⟨_, rfl⟩
  rw [hm'] at C1
  rw [hf] at c
  have Fin : Hid (decide (endOf bs ≤ firstO ⟨packed, mark, prod, epoch, seq, recs⟩) = decide (m ≤ f)) := Lib.hid (by rw [hm']; show decide (m ≤ (recAt recs 0).off) = _; rw [hf])
  obtain ⟨ua, uc, rfl, _⟩ := id g
  have n0 : 0 < recs.length := hn
  have n1 : (0 : Int) < (recs.length : Int) := by omega
  clear hm' hf hR hr g hn
  go_enter Try.func21, Try.ntmps21
  go_wp2_with fail
  generalize hW : w.alloc (.cells #[.bool packed, .bool mark, .int .i64 prod, .int .i64 epoch, .int .i64 seq, .slice (some ⟨b, off, none⟩) recs.length cap] 42) = wb at bA xA ⊢
  clear hW
  obtain ⟨A, hA⟩ : ∃ A, w.heap.size = A := ⟨_, rfl⟩
  rw [hA] at xA ⊢
  have HA := Lib.hid hA
  clear hA
  have HS : Hid (∀ W, Below wb.heap.size wb W → BoxBat W A (.bool packed) (.bool mark) (.int .i64 prod) (.int .i64 epoch) (.int .i64 seq) (.slice (some ⟨b, off, none⟩) recs.length cap) ⟨b, off, none⟩ (.int .i64 f)) := Lib.hid fun W hW =>
    have y := (xA.belowS hW).sixC
    ⟨y.1, y.2.1, y.2.2.1, y.2.2.2.1, y.2.2.2.2.1, y.2.2.2.2.2, ((Bstep bA hW).cell (World.block_lt_of_cell? _ _ c)).trans c⟩
  have bdr : Below wb.heap.size wb wb.drew := below_drewN (Below.refl _ _) 1
  have S1 := HS.out wb.drew bdr
  have D1 := Lib.hid (C1.out wb.drew (Bstep bA bdr))
  clear c C1
  unfold BoxBat at S1
  go_region_held3 (fun W => W.cell? ⟨A, 0, none⟩ = some (.bool packed) ∧ W.cell? ⟨A, 1, none⟩ = some (.bool mark) ∧ W.cell? ⟨A, 2, none⟩ = some (.int .i64 prod) ∧ W.cell? ⟨A, 3, none⟩ = some (.int .i64 epoch) ∧ W.cell? ⟨A, 4, none⟩ = some (.int .i64 seq) ∧ W.cell? ⟨A, 5, none⟩ = some (.slice (some ⟨b, off, none⟩) recs.length cap) ∧ W.cell? ⟨b, off, none⟩ = some (.int .i64 f)) (first | with_reducible exact S1 | exact HS.out _ (Bstep bdr b8) | go_keep)
    (first | (go_at_call 32; ((with_reducible refine D1.out.mono ?_); rintro e w8 ⟨rfl, b8⟩)))
  have B8 := Bstep bA (Bstep bdr b8)
  go_wp2_with fail
  go_ret
  exact ⟨ret_bool Fin.out.symm, B8⟩
end Go.Proofs.Ytcajbipgecdfeaa
