/- Chapter 21, batches that are taken one after the other, plainly. -/
import Derived.Test.YtfapeppocfodpaaP22
import Derived.Test.YtfapeppocfodpaaW21f
namespace Go.Proofs.Ytfapeppocfodpaa
set_option linter.unusedVariables false

/-- the producers when a further batch is taken, or is not -/
def nextOut (ts : List Trm) (b : Bat) : List Trm := if putCode ts b = 5 then ts else putList ts b
def runOut : List Bat → List Trm → List Trm
  | [], ts => ts
  | b :: r, ts => runOut r (nextOut ts b)
def runCodes : List Bat → List Trm → List Int
  | [], _ => []
  | b :: r, ts => putCode ts b :: runCodes r (nextOut ts b)
theorem nextOut_ok {ts : List Trm} (b : Bat) (ok : tsOk ts = true) : tsOk (nextOut ts b) = true := by
  unfold nextOut
  by_cases h5 : putCode ts b = 5
  · rw [if_pos h5]; exact ok
  · rw [if_neg h5]
    by_cases h0 : putCode ts b = 0
    · exact (put_fine h0).1
    · rw [put_keep h0 h5]; exact ok
theorem withF_next {ts : List Trm} (b : Bat) (ok : tsOk ts = true) : ∀ i, i < 255 → withF (seatsOf ts) b i = seatsOf (nextOut ts b) i := by
  intro i hi
  have e : checkP ts b = checkF (seatsOf ts) b := by unfold checkP; rw [if_pos ok]
  unfold withF nextOut
  by_cases h : checkF (seatsOf ts) b = 0
  · rw [if_pos h]
    have hp := (checkF_zero h).2
    by_cases t : tsOk (putR (newT b) ts false) = true
    · have c0 : putCode ts b = 0 := by unfold putCode; rw [e, if_pos h, if_pos t]
      rw [listOf_putSeat ok hp, if_pos t, c0, if_neg (by decide)]
      have hl := (put_zero c0).2.2
      rw [hl, seatsOf_in t, seatIn_put (newT b) (asc_of_ok ok)]
      unfold putSeat seatPut newT
      by_cases q : i = b.prod.toNat
      · rw [if_pos q, if_pos (by simp only; omega)]
      · rw [if_neg q, if_neg (by simp only; omega), seatsOf_in ok]
    · have c5 : putCode ts b = 5 := by unfold putCode; rw [e, if_pos h, if_neg t]
      rw [listOf_putSeat ok hp, if_neg t, c5, if_pos rfl]
  · rw [if_neg h]
    by_cases h5 : putCode ts b = 5
    · rw [if_pos h5]
    · rw [if_neg h5, put_keep (fun h0 => h (by rw [← e]; exact (put_zero h0).1)) h5]
theorem runCodes_len (bs : List Bat) (ts : List Trm) : (runCodes bs ts).length = bs.length := by
  induction bs generalizing ts with
  | nil => rfl
  | cons b r ih => unfold runCodes; simp [ih]
theorem runOut_ok (bs : List Bat) {ts : List Trm} (ok : tsOk ts = true) : tsOk (runOut bs ts) = true := by
  induction bs generalizing ts with
  | nil => exact ok
  | cons b r ih => exact ih (nextOut_ok b ok)
theorem tsOk_nil : tsOk [] = true := by decide
theorem runOut_snoc (bs : List Bat) (b : Bat) (ts : List Trm) : runOut (bs ++ [b]) ts = nextOut (runOut bs ts) b := by
  induction bs generalizing ts with
  | nil => rfl
  | cons c r ih => exact ih _
theorem runCodes_snoc (bs : List Bat) (b : Bat) (ts : List Trm) : runCodes (bs ++ [b]) ts = runCodes bs ts ++ [putCode (runOut bs ts) b] := by
  induction bs generalizing ts with
  | nil => rfl
  | cons c r ih =>
    show putCode ts c :: runCodes (r ++ [b]) (nextOut ts c) = _
    rw [ih]
    rfl
end Go.Proofs.Ytfapeppocfodpaa
