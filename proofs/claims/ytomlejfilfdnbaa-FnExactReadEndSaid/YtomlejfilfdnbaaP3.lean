/- Chapter 3, plain functions on records. -/
import Derived.Test.YtomlejfilfdnbaaA0
import Derived.Test.YtomlejfilfdnbaaP1
import Derived.Test.YtomlejfilfdnbaaP2
namespace Go.Proofs.Ytomlejfilfdnbaa
set_option linter.unusedVariables false

/-- a record -/
structure Rec where
  off : Int
  time : Int
  hk : Bool
  key : List Int
  hv : Bool
  val : List Int

def partOk (has : Bool) (xs : List Int) : Bool := (has || decide (xs.length = 0)) && okBs xs && decide (xs.length ≤ 12)
def recOk (r : Rec) : Bool := inR r.off 0 99999 && inR r.time 0 99999 && partOk r.hk r.key && partOk r.hv r.val
def baseOk (o t : Int) : Bool := inR o 0 99999 && inR t 0 99999
/-- the bytes of a part -/
def putP (has : Bool) (xs : List Int) : List Int := if has = true then varB xs.length ++ xs else varB (-1)
def recBody (r : Rec) (o t : Int) : List Int := varB (r.time - t) ++ varB (r.off - o) ++ putP r.hk r.key ++ putP r.hv r.val
def recBytes (r : Rec) (o t : Int) : List Int := varB (recBody r o t).length ++ recBody r o t

theorem inR_iff {n lo hi : Int} : inR n lo hi = true ↔ lo ≤ n ∧ n ≤ hi := by unfold inR; simp
theorem partOk_iff {has : Bool} {xs : List Int} : partOk has xs = true ↔ (has = false → xs = []) ∧ okBs xs = true ∧ xs.length ≤ 12 := by
  unfold partOk
  cases has <;> simp [and_assoc]
theorem recOk_iff {r : Rec} : recOk r = true ↔ (0 ≤ r.off ∧ r.off ≤ 99999) ∧ (0 ≤ r.time ∧ r.time ≤ 99999) ∧ partOk r.hk r.key = true ∧ partOk r.hv r.val = true := by
  unfold recOk
  simp only [Bool.and_eq_true, inR_iff, and_assoc]
theorem baseOk_iff {o t : Int} : baseOk o t = true ↔ (0 ≤ o ∧ o ≤ 99999) ∧ (0 ≤ t ∧ t ≤ 99999) := by
  unfold baseOk
  simp only [Bool.and_eq_true, inR_iff]
theorem putP_len {has : Bool} {xs : List Int} (h : xs.length ≤ 12) : 1 ≤ (putP has xs).length ∧ (putP has xs).length ≤ 15 := by
  unfold putP
  split
  · have := varB_len (xs.length : Int)
    have h1 : 1 ≤ (varB (xs.length : Int)).length := by rw [varB_in (by omega) (by omega)]; exact (varF_len 2 _).2
    rw [List.length_append]
    omega
  · have := varB_len (-1)
    have h1 : 1 ≤ (varB (-1)).length := by rw [varB_in (by omega) (by omega)]; exact (varF_len 2 _).2
    omega
theorem recBody_len {r : Rec} {o t : Int} (h : recOk r = true) : (recBody r o t).length ≤ 36 := by
  obtain ⟨_, _, hk, hv⟩ := recOk_iff.1 h
  have h1 := varB_len (r.time - t)
  have h2 := varB_len (r.off - o)
  have h3 := putP_len (has := r.hk) (partOk_iff.1 hk).2.2
  have h4 := putP_len (has := r.hv) (partOk_iff.1 hv).2.2
  unfold recBody
  simp only [List.length_append]
  omega
end Go.Proofs.Ytomlejfilfdnbaa
