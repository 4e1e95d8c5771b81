/- Chapter 3: plain facts on the bytes of records that the laws lean on. -/
import Derived.Test.YtomlejfilfdnbaaP3c
import Derived.Test.YtomlejfilfdnbaaW3e
namespace Go.Proofs.Ytomlejfilfdnbaa
set_option linter.unusedVariables false

theorem okBs_append {xs ys : List Int} (h : okBs xs = true) (g : okBs ys = true) : okBs (xs ++ ys) = true := by
  unfold okBs at h g ⊢
  rw [List.all_append, h, g]
  rfl
theorem putP_ok {h : Bool} {ys : List Int} (hp : partOk h ys = true) : okBs (putP h ys) = true := by
  obtain ⟨_, h2, h3⟩ := partOk_iff.1 hp
  unfold putP
  split
  · exact okBs_append (varB_ok (by omega) (by omega)) h2
  · exact varB_ok (by omega) (by omega)
theorem recBody_ok {r : Rec} {o t : Int} (hr : recOk r = true) (hb : baseOk o t = true) : okBs (recBody r o t) = true := by
  obtain ⟨⟨o0, o1⟩, t0, t1⟩ := baseOk_iff.1 hb
  obtain ⟨⟨r0, r1⟩, ⟨q0, q1⟩, pk, pv⟩ := recOk_iff.1 hr
  exact okBs_append (okBs_append (okBs_append (varB_ok (by omega) (by omega)) (varB_ok (by omega) (by omega))) (putP_ok pk)) (putP_ok pv)
theorem recBytes_ok {r : Rec} {o t : Int} (hr : recOk r = true) (hb : baseOk o t = true) : okBs (recBytes r o t) = true := by
  have hl := recBody_len (o := o) (t := t) hr
  exact okBs_append (varB_ok (by omega) (by omega)) (recBody_ok hr hb)
theorem rdRecI_bytes {r : Rec} {o t : Int} (hr : recOk r = true) (hb : baseOk o t = true) : rdRecI (recBytes r o t) 0 o t = (r, ((recBytes r o t).length : Int), true) := by
  have h := rdRec_at (xs := recBytes r o t) (k := 0) hb (Nat.zero_le _) ⟨hr, [], by simp⟩
  have := rdRecI_at (k := 0) (recBytes_ok hr hb) hb
  rw [h, Nat.zero_add] at this
  exact this
theorem varB_small {n : Int} (h0 : -64 ≤ n) (h1 : n ≤ 63) : (varB n).length = 1 := by
  rw [varB_in (by omega) (by omega)]
  have : 0 ≤ foldP n ∧ foldP n < 128 := by unfold foldP; split <;> omega
  unfold varF
  rw [if_pos (by omega)]
  rfl
theorem putP_len2 {h : Bool} {ys : List Int} (hl : ys.length ≤ 12) : (putP h ys).length ≤ 13 := by
  unfold putP
  split
  · rw [List.length_append, varB_small (by omega) (by omega)]; omega
  · rw [varB_small (by omega) (by omega)]; omega
theorem recBody_len2 {r : Rec} {o t : Int} (h : recOk r = true) : (recBody r o t).length ≤ 32 := by
  obtain ⟨_, _, hk, hv⟩ := recOk_iff.1 h
  have h1 := varB_len (r.time - t)
  have h2 := varB_len (r.off - o)
  have h3 := putP_len2 (h := r.hk) (partOk_iff.1 hk).2.2
  have h4 := putP_len2 (h := r.hv) (partOk_iff.1 hv).2.2
  unfold recBody
  simp only [List.length_append]
  omega
theorem recBytes_head {r : Rec} {o t : Int} (hr : recOk r = true) (hb : baseOk o t = true) : rdV (recBytes r o t) 0 = (((recBody r o t).length : Int), 1, true) ∧ (recBytes r o t).length = (recBody r o t).length + 1 ∧ (recBody r o t).length ≤ 32 := by
  have hl := recBody_len2 (o := o) (t := t) hr
  have h1 := varB_small (n := ((recBody r o t).length : Int)) (by omega) (by omega)
  have h2 := rdVar_app (xs := recBytes r o t) (k := 0) (n := ((recBody r o t).length : Int)) (rest := recBody r o t) (by omega) (by omega) (by rw [List.drop_zero]; rfl)
  have h3 := rdV_at (xs := recBytes r o t) 0 (recBytes_ok hr hb)
  refine ⟨?_, by unfold recBytes; rw [List.length_append, h1]; omega, hl⟩
  rw [h1] at h2
  exact h3.trans h2
theorem recBytes_shift (off time : Int) (hk : Bool) (key : List Int) (hv : Bool) (val : List Int) (o t : Int) : recBytes ⟨off + 1, time, hk, key, hv, val⟩ (o + 1) t = recBytes ⟨off, time, hk, key, hv, val⟩ o t := by
  have e : recBody ⟨off + 1, time, hk, key, hv, val⟩ (o + 1) t = recBody ⟨off, time, hk, key, hv, val⟩ o t := by
    unfold recBody
    simp only
    rw [show off + 1 - (o + 1) = off - o by omega]
  unfold recBytes
  rw [e]
theorem recBytes_missing (off time : Int) (hv : Bool) (val : List Int) (o t : Int) :
    (recBytes ⟨off, time, true, [], hv, val⟩ o t == recBytes ⟨off, time, false, [], hv, val⟩ o t) = false ∧ (recBytes ⟨off, time, true, [], hv, val⟩ o t).length = (recBytes ⟨off, time, false, [], hv, val⟩ o t).length := by
  have e1 : putP true [] = [0] := by decide
  have e2 : putP false [] = [1] := by decide
  have hl : (recBody ⟨off, time, true, [], hv, val⟩ o t).length = (recBody ⟨off, time, false, [], hv, val⟩ o t).length := by
    unfold recBody
    simp only [e1, e2, List.length_append, List.length_cons, List.length_nil]
  refine ⟨?_, by unfold recBytes; rw [hl, List.length_append, List.length_append, hl]⟩
  rw [beq_eq_false_iff_ne]
  intro h
  unfold recBytes at h
  rw [hl] at h
  have h2 := List.append_cancel_left h
  unfold recBody at h2
  simp only [e1, e2, List.append_assoc] at h2
  have h3 := List.append_cancel_left (List.append_cancel_left h2)
  simp at h3
/-- a part of a record is none -/
theorem rdRec_torn {xs : List Int} (hok : okBs xs = true) {k : Nat} {o t nx : Int} {r : Rec} (hb : baseOk o t = true) (h : rdRecI xs (k : Int) o t = (r, nx, true)) :
    rdRecI (xs.take (nx - 1).toNat) (k : Int) o t = (Rec.zero, 0, false) ∧ (k : Int) < nx ∧ nx ≤ xs.length ∧ recOk r = true ∧ recBytes r o t = (xs.drop k).take (nx.toNat - k) := by
  rw [rdRecI_at hok hb] at h
  have hk : k ≤ xs.length := by
    rcases Nat.lt_or_ge xs.length k with hlt | hge
    · rw [rdRec_end (by omega)] at h; simp at h
    · exact hge
  obtain ⟨hat, hnx, hle⟩ := rdRec_yes hb hk h
  obtain ⟨hr, rest, hd⟩ := hat
  have hpos : 1 ≤ (recBytes r o t).length := by
    have := varB_pos (n := ((recBody r o t).length : Int)) (by omega) (by have := recBody_len (o := o) (t := t) hr; omega)
    unfold recBytes
    rw [List.length_append]
    omega
  refine ⟨?_, by omega, by omega, hr, ?_⟩
  · rw [rdRecI_at (okBs_take hok _) hb]
    have hlen : (xs.take (nx - 1).toNat).length = k + (recBytes r o t).length - 1 := by rw [List.length_take]; omega
    refine rdRec_no hb (by omega) fun s hs => ?_
    obtain ⟨hs1, rest2, hs2⟩ := hs
    have hat2 : RecAt xs k o t s := by
      refine ⟨hs1, rest2 ++ xs.drop (nx - 1).toNat, ?_⟩
      rw [← List.append_assoc, ← hs2, ← List.take_append_drop (nx - 1).toNat xs]
      rw [List.take_append_drop]
      conv => lhs; rw [← List.take_append_drop (nx - 1).toNat xs]
      rw [List.drop_append_of_le_length (by omega)]
    have hsr := recAt_inj hb hk hat2 ⟨hr, rest, hd⟩
    have hl2 : ((xs.take (nx - 1).toNat).drop k).length = (recBytes s o t).length + rest2.length := by rw [hs2, List.length_append]
    rw [List.length_drop, hlen, hsr] at hl2
    omega
  · rw [hd, hnx, Int.toNat_natCast, Nat.add_sub_cancel_left, List.take_left]
end Go.Proofs.Ytomlejfilfdnbaa
