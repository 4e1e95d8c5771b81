/- Chapter 3: the program's reader, step by step. -/
import Derived.Test.YthlboonobepdaaaW3j
import Derived.Test.YthlboonobepdaaaB1
import Derived.Test.YthlboonobepdaaaP3c
import Derived.Test.YthlboonobepdaaaD0
namespace Go.Proofs.Ythlboonobepdaaa
open Go.ChangeShapes Go.WideShapes Go.ChangeAt Go.RowKit
set_option linter.unusedVariables false

/-- a reader in block B, over v, at a place, failed or not -/
def Rdr (w : World) (B : Nat) (v : Value) (k : Int) (f : Bool) : Prop := Blk w B #[v, .int .i64 k, .bool f]
def RNumRes (w : World) (B : Nat) (v : Value) (g : Int × Int × Bool) (e : Ending) (w' : World) : Prop := e = .returned (.int .i64 g.1) ∧ Rdr w' B v g.2.1 g.2.2 ∧ w.grownBy w' (some B)

theorem grown_drewN (w : World) (n : Nat) (row : Option Nat) : w.grownBy (w.drewN n) row := grown_of_below (below_drewN (Below.refl _ _) n)
theorem grown_set (w : World) (B i : Nat) (u : Value) : w.grownBy (w.setCell ⟨B, i, none⟩ u) (some B) :=
  ⟨rfl, rfl, rfl, by simp, fun b hb hne => Below.heap_setCell w _ _ b fun e => hne (by rw [e])⟩

def RTakeRes (w : World) (B : Nat) (v : Value) (xs : List Int) (g : List Int × Int × Bool) (e : Ending) (w' : World) : Prop :=
  ∃ u, e = .returned u ∧ (∀ W, Ints W v xs → Ints W u g.1) ∧ Rdr w' B v g.2.1 g.2.2 ∧ w.grownBy w' (some B)
theorem RTakeRes.no {w w' : World} {B : Nat} {v : Value} {xs : List Int} {k : Int} {e : Ending} (he : e = .returned (.slice none 0 0)) (h : Rdr w' B v k true) (hg : w.grownBy w' (some B)) : RTakeRes w B v xs ([], k, true) e w' :=
  ⟨_, he, fun W _ => Ints.empty _ _ _ (by simp), h, hg⟩

theorem reader_take (B : Nat) (v : Value) (xs : List Int) (k m : Int) (f : Bool) (w : World) (h : Rdr w B v k f) (hv : Ints w v xs) (hk : I64 k) (hm : I64 m) :
    Calls Try.prog 58 #[.pointer (some ⟨B, 0, none⟩), .int .i64 m] w (RTakeRes w B v xs (takeR xs k f m)) := by
  obtain ⟨k0, k1⟩ := hk
  obtain ⟨m0, m1⟩ := hm
  have c0 : w.cell? ⟨B, 0, none⟩ = some v := h.cell 0
  have c1 : w.cell? ⟨B, 1, none⟩ = some (.int .i64 k) := h.cell 1
  have c2 : w.cell? ⟨B, 2, none⟩ = some (.bool f) := h.cell 2
  have fz := h.free
  have hB := h.lt
  unfold takeR
  cases f with
  | true =>
    rw [if_pos rfl]
    clear hv
    go_enter Try.func58, Try.ntmps58
    go_wp2_with fail
    go_quiet (fail)
    go_wp2_with fail
    go_ret
    exact RTakeRes.no rfl ((h.set 2 _).drew nq) (grown_trans (grown_set _ _ _ _) (grown_drewN _ _ _))
  | false =>
    rw [if_neg (by simp)]
    by_cases hm0 : m < 0
    · rw [if_pos hm0]
      have d0 : decide (m < 0) = true := decide_eq_true hm0
      clear hv
      go_enter Try.func58, Try.ntmps58
      go_wp2_with fail
      go_quiet (fail)
      go_wp2_with fail
      go_ret
      exact RTakeRes.no rfl ((h.set 2 _).drew nq) (grown_trans (grown_set _ _ _ _) (grown_drewN _ _ _))
    rw [if_neg hm0]
    have d0 : decide (m < 0) = false := decide_eq_false hm0
    by_cases hk0 : k < 0
    · rw [if_pos hk0]
      have d1 : decide (k < 0) = true := decide_eq_true hk0
      clear hv
      go_enter Try.func58, Try.ntmps58
      go_wp2_with fail
      go_quiet (fail)
      go_wp2_with fail
      go_ret
      exact RTakeRes.no rfl ((h.set 2 _).drew nq) (grown_trans (grown_set _ _ _ _) (grown_drewN _ _ _))
    rw [if_neg hk0]
    have d1 : decide (k < 0) = false := decide_eq_false hk0
    have hv' := hv
    obtain ⟨a, cap, rfl, hl, hcap, hc⟩ := hv'
    unfold maxLen at hcap
    clear hc
    have sw : IntKind.i64.wrap ((xs.length : Int) - k) = (xs.length : Int) - k := IntWalk.i64_in _ ⟨by omega, by omega⟩
    by_cases hkm : (xs.length : Int) - k < m
    · rw [if_pos hkm]
      have d2 : decide ((xs.length : Int) - k < m) = true := decide_eq_true hkm
      clear hv
      go_enter Try.func58, Try.ntmps58
      go_wp2_with fail
      go_quiet (fail)
      go_wp2_with fail
      go_ret
      exact RTakeRes.no rfl ((h.set 2 _).drew nq) (grown_trans (grown_set _ _ _ _) (grown_drewN _ _ _))
    rw [if_neg hkm]
    have d2 : decide ((xs.length : Int) - k < m) = false := decide_eq_false hkm
    obtain ⟨k, rfl⟩ := Int.eq_ofNat_of_zero_le (Int.not_lt.1 hk0)
    obtain ⟨m, rfl⟩ := Int.eq_ofNat_of_zero_le (Int.not_lt.1 hm0)
    obtain ⟨u, hu, iu⟩ := run_part hv k m (by omega)
    have sw2 : IntKind.i64.wrap ((k : Int) + (m : Int)) = (k : Int) + (m : Int) := IntWalk.i64_in _ ⟨by omega, by omega⟩
    have HI := Lib.hid iu
    clear hv iu hk0 hm0 hkm
    go_enter Try.func58, Try.ntmps58
    go_wp2_with fail
    go_quiet (fail)
    go_wp2_with fail
    go_quiet (fail)
    go_wp2_with fail
    go_ret
    exact ⟨_, rfl, HI.out, (h.set 1 _).drew _, grown_trans (grown_set _ _ _ _) (grown_drewN _ _ _)⟩
end Go.Proofs.Ythlboonobepdaaa
