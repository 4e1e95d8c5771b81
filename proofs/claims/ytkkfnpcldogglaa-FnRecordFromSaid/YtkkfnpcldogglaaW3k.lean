/- Chapter 3: the program's reader, step by step. -/
import Derived.Test.YtkkfnpcldogglaaW3j
import Derived.Test.YtkkfnpcldogglaaP3c
import Derived.Test.YtkkfnpcldogglaaD0
namespace Go.Proofs.Ytkkfnpcldogglaa
open Go.ChangeShapes Go.WideShapes Go.ChangeAt Go.RowKit
set_option linter.unusedVariables false

/-- a reader in block B, over v, at a place, failed or not -/
def Rdr (w : World) (B : Nat) (v : Value) (k : Int) (f : Bool) : Prop := Blk w B #[v, .int .i64 k, .bool f]
def RNumRes (w : World) (B : Nat) (v : Value) (g : Int × Int × Bool) (e : Ending) (w' : World) : Prop := e = .returned (.int .i64 g.1) ∧ Rdr w' B v g.2.1 g.2.2 ∧ w.grownBy w' (some B)

theorem grown_drewN (w : World) (n : Nat) (row : Option Nat) : w.grownBy (w.drewN n) row := grown_of_below (below_drewN (Below.refl _ _) n)
theorem grown_set (w : World) (B i : Nat) (u : Value) : w.grownBy (w.setCell ⟨B, i, none⟩ u) (some B) :=
  ⟨rfl, rfl, rfl, by simp, fun b hb hne => Below.heap_setCell w _ _ b fun e => hne (by rw [e])⟩

theorem reader_number (B : Nat) (v : Value) (xs : List Int) (k : Int) (f : Bool) (w : World) (h : Rdr w B v k f) (hv : Ints w v xs) (hk : I64 k) :
    Calls Try.prog 49 #[.pointer (some ⟨B, 0, none⟩)] w (RNumRes w B v (numR xs k f)) := by
  have C1 : Hid (∀ wn, Below w.heap.size w wn → Calls Try.prog 21 #[v, .int .i64 k] wn fun e w' => e = .returned (.tuple #[.int .i64 (rdV xs k).1, .int .i64 (rdV xs k).2.1, .bool (rdV xs k).2.2]) ∧ w' = wn) := fun wn hb =>
    (impl_VarFrom v xs k wn (hv.below hb) hk).mono fun e w' ⟨a, b⟩ => ⟨a, b.symm⟩
  have c0 : w.cell? ⟨B, 0, none⟩ = some v := h.cell 0
  have c1 : w.cell? ⟨B, 1, none⟩ = some (.int .i64 k) := h.cell 1
  have c2 : w.cell? ⟨B, 2, none⟩ = some (.bool f) := h.cell 2
  have fz := h.free
  have hB := h.lt
  unfold numR
  obtain ⟨⟨n, nx, b⟩, hg⟩ : ∃ g, rdV xs k = g := ⟨_, rfl⟩
  rw [hg] at C1 ⊢
  simp only at C1 ⊢
  clear hg hv
  cases f with
  | true =>
    rw [if_pos rfl]
    go_enter Try.func49, Try.ntmps49
    go_wp2_with fail
    go_quiet ((go_at_call 21; exact Calls.quiet_of_same (C1.out _ (below_drewN (Below.refl _ _) _))))
    go_wp2_with fail
    go_ret
    exact ⟨rfl, (h.set 2 _).drew nq, grown_trans (grown_set _ _ _ _) (grown_drewN _ _ _)⟩
  | false =>
    cases b with
    | false =>
      rw [if_neg (by simp), if_neg (by simp)]
      go_enter Try.func49, Try.ntmps49
      go_wp2_with fail
      go_quiet ((go_at_call 21; exact Calls.quiet_of_same (C1.out _ (below_drewN (Below.refl _ _) _))))
      go_wp2_with fail
      go_ret
      exact ⟨rfl, (h.set 2 _).drew nq, grown_trans (grown_set _ _ _ _) (grown_drewN _ _ _)⟩
    | true =>
      rw [if_neg (by simp), if_pos rfl]
      go_enter Try.func49, Try.ntmps49
      go_wp2_with fail
      go_quiet ((go_at_call 21; exact Calls.quiet_of_same (C1.out _ (below_drewN (Below.refl _ _) _))))
      go_wp2_with fail
      go_ret
      exact ⟨rfl, (h.set 1 _).drew nq, grown_trans (grown_set _ _ _ _) (grown_drewN _ _ _)⟩

theorem Ints.part {w : World} {a : Option Addr} {n cap : Nat} {xs : List Int} (h : Ints w (.slice a n cap) xs) (k m : Nat) (hkm : k + m ≤ n) : Ints w (.slice (if cap = k then a else a.map (·.add (k * 1))) (k + m - k) (cap - k)) ((xs.drop k).take m) := by
  obtain ⟨rfl, hl, hm⟩ := h.sizes
  have hlen : ((xs.drop k).take m).length = m := by rw [List.length_take, List.length_drop]; omega
  rw [Nat.add_sub_cancel_left]
  by_cases hm0 : m = 0
  · subst hm0
    rw [List.take_zero]
    exact Ints.empty _ _ _ (by omega)
  · obtain ⟨a', cap', e, _, _, hc⟩ := h
    simp only [Value.slice.injEq] at e
    obtain ⟨rfl, _, rfl⟩ := e
    obtain ⟨b, off, rfl, hcell⟩ := hc (by omega)
    rw [if_neg (by omega)]
    have h2 : Ints w (.slice (some ⟨b, off, none⟩) xs.length cap) xs := ⟨_, cap, rfl, hl, hm, fun _ => ⟨b, off, rfl, hcell⟩⟩
    have h3 := (h2.drop' k (by omega)).take m (by omega)
    by_cases hk0 : k = 0
    · subst hk0; simpa [Addr.add] using h3
    · simpa [Addr.add, hk0] using h3
/-- 's[k:k+m]' -/
theorem run_part {w : World} {a : Option Addr} {n cap : Nat} {xs : List Int} (h : Ints w (.slice a n cap) xs) (k m : Nat) (hkm : k + m ≤ n) :
    ∃ u, (∀ W, (Instr.slice 23 (.slice a n cap) (some (.int .i64 (k : Int))) (some (.int .i64 ((k : Int) + (m : Int)))) none).run Try.prog W = .ok u W) ∧ ∀ W, Ints W (.slice a n cap) xs → Ints W u ((xs.drop k).take m) := by
  obtain ⟨_, hl, hm⟩ := h.sizes
  refine ⟨_, fun W => ?_, fun W hW => hW.part k m hkm⟩
  simp [Instr.slice, run_underlying Try.underlying23, Instr.sliceBounds, Instr.sliceBound, asIntOf]
  rw [if_pos (by omega), if_pos (by omega), show ((k : Int) + (m : Int)).toNat - k = m by omega]

def RTakeRes (w : World) (B : Nat) (v : Value) (xs : List Int) (g : List Int × Int × Bool) (e : Ending) (w' : World) : Prop :=
  ∃ u, e = .returned u ∧ (∀ W, Ints W v xs → Ints W u g.1) ∧ Rdr w' B v g.2.1 g.2.2 ∧ w.grownBy w' (some B)
theorem RTakeRes.no {w w' : World} {B : Nat} {v : Value} {xs : List Int} {k : Int} {e : Ending} (he : e = .returned (.slice none 0 0)) (h : Rdr w' B v k true) (hg : w.grownBy w' (some B)) : RTakeRes w B v xs ([], k, true) e w' :=
  ⟨_, he, fun W _ => Ints.empty _ _ _ (by simp), h, hg⟩

theorem reader_take (B : Nat) (v : Value) (xs : List Int) (k m : Int) (f : Bool) (w : World) (h : Rdr w B v k f) (hv : Ints w v xs) (hk : I64 k) (hm : I64 m) :
    Calls Try.prog 48 #[.pointer (some ⟨B, 0, none⟩), .int .i64 m] w (RTakeRes w B v xs (takeR xs k f m)) := by
  obtain ⟨k0, k1⟩ := hk
  obtain ⟨m0, m1⟩ := hm
  have c0 : w.cell? ⟨B, 0, none⟩ = some v := h.cell 0
  have c1 : w.cell? ⟨B, 1, none⟩ = some (.int .i64 k) := h.cell 1
  have c2 : w.cell? ⟨B, 2, none⟩ = some (.bool f) := h.cell 2
  have fz := h.free
  have hB := h.lt
  unfold takeR
  cases f with
  | true =>
    rw [if_pos rfl]
    clear hv
    go_enter Try.func48, Try.ntmps48
    go_wp2_with fail
    go_quiet (fail)
    go_wp2_with fail
    go_ret
    exact RTakeRes.no rfl ((h.set 2 _).drew nq) (grown_trans (grown_set _ _ _ _) (grown_drewN _ _ _))
  | false =>
    rw [if_neg (by simp)]
    by_cases hm0 : m < 0
    · rw [if_pos hm0]
      have d0 : decide (m < 0) = true := decide_eq_true hm0
      clear hv
      go_enter Try.func48, Try.ntmps48
      go_wp2_with fail
      go_quiet (fail)
      go_wp2_with fail
      go_ret
      exact RTakeRes.no rfl ((h.set 2 _).drew nq) (grown_trans (grown_set _ _ _ _) (grown_drewN _ _ _))
    rw [if_neg hm0]
    have d0 : decide (m < 0) = false := decide_eq_false hm0
    by_cases hk0 : k < 0
    · rw [if_pos hk0]
      have d1 : decide (k < 0) = true := decide_eq_true hk0
      clear hv
      go_enter Try.func48, Try.ntmps48
      go_wp2_with fail
      go_quiet (fail)
      go_wp2_with fail
      go_ret
      exact RTakeRes.no rfl ((h.set 2 _).drew nq) (grown_trans (grown_set _ _ _ _) (grown_drewN _ _ _))
    rw [if_neg hk0]
    have d1 : decide (k < 0) = false := decide_eq_false hk0
    have hv' := hv
    obtain ⟨a, cap, rfl, hl, hcap, hc⟩ := hv'
    unfold maxLen at hcap
    clear hc
    have sw : IntKind.i64.wrap ((xs.length : Int) - k) = (xs.length : Int) - k := IntWalk.i64_in _ ⟨by omega, by omega⟩
    by_cases hkm : (xs.length : Int) - k < m
    · rw [if_pos hkm]
      have d2 : decide ((xs.length : Int) - k < m) = true := decide_eq_true hkm
      clear hv
      go_enter Try.func48, Try.ntmps48
      go_wp2_with fail
      go_quiet (fail)
      go_wp2_with fail
      go_ret
      exact RTakeRes.no rfl ((h.set 2 _).drew nq) (grown_trans (grown_set _ _ _ _) (grown_drewN _ _ _))
    rw [if_neg hkm]
    have d2 : decide ((xs.length : Int) - k < m) = false := decide_eq_false hkm
    obtain ⟨k, rfl⟩ := Int.eq_ofNat_of_zero_le (Int.not_lt.1 hk0)
    obtain ⟨m, rfl⟩ := Int.eq_ofNat_of_zero_le (Int.not_lt.1 hm0)
    obtain ⟨u, hu, iu⟩ := run_part hv k m (by omega)
    have sw2 : IntKind.i64.wrap ((k : Int) + (m : Int)) = (k : Int) + (m : Int) := IntWalk.i64_in _ ⟨by omega, by omega⟩
    have HI := Lib.hid iu
    clear hv iu hk0 hm0 hkm
    go_enter Try.func48, Try.ntmps48
    go_wp2_with fail
    go_quiet (fail)
    go_wp2_with fail
    go_quiet (fail)
    go_wp2_with fail
    go_ret
    exact ⟨_, rfl, HI.out, (h.set 1 _).drew _, grown_trans (grown_set _ _ _ _) (grown_drewN _ _ _)⟩
end Go.Proofs.Ytkkfnpcldogglaa
