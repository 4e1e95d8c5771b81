/- Chapter 11: a damaged byte, and bytes that are missing or left over. -/
import Derived.Test.YthlboonobepdaaaP11b
namespace Go.Proofs.Ythlboonobepdaaa
set_option linter.unusedVariables false

/-- a message is read back by the program, too, whatever is behind it -/
theorem tellI_app {m : Mes} (h : mOk m = true) (more : List Int) : tellI (mBytes m ++ more) = m := by
  have hlen : (mBytes m ++ more).length = _ := List.length_append
  rw [mBytes_len h] at hlen
  obtain ⟨⟨⟨o0, o1⟩, ⟨t0, t1⟩, p1, p2⟩, ht⟩ := mOk_iff.1 h
  obtain ⟨off, timed, time, key, val, hk, miss⟩ := m
  simp only at o0 o1 t0 t1 p1 p2 ht hlen
  have hs := sumB_bound (restO ⟨off, timed, time, key, val, hk, miss⟩)
  obtain ⟨S, hS⟩ : ∃ S, sumB (restO ⟨off, timed, time, key, val, hk, miss⟩) = S := ⟨_, rfl⟩
  rw [hS] at hs
  obtain ⟨xs, hx⟩ : ∃ xs, mBytes ⟨off, timed, time, key, val, hk, miss⟩ ++ more = xs := ⟨_, rfl⟩
  have e : xs = sfx 3 off ++ (sfx 2 S ++ (headO ⟨off, timed, time, key, val, hk, miss⟩ ++ (partO hk key ++ (partO (!miss) val ++ more)))) := by
    rw [← hx, ← hS]; simp [mBytes, restO]
  rw [hx] at hlen ⊢
  have hl11 : 8 ≤ xs.length := by split at hlen <;> omega
  have g0 : intR xs 0 false 3 = (off, 3, false) := intR_at (k := 0) (m := 3) (show xs.drop 0 = _ from e) (by omega) (by omega) (by omega) o0 (by show off < 256 ^ 3; omega)
  have d3 : xs.drop 3 = sfx 2 S ++ (headO ⟨off, timed, time, key, val, hk, miss⟩ ++ (partO hk key ++ (partO (!miss) val ++ more))) := by rw [e, List.drop_left' (sfx_len _ _)]
  have g1 : takeR xs 3 false 2 = (sfx 2 S, 5, false) := by
    have := takeR_at d3 (by omega)
    rw [sfx_len] at this
    exact this
  have d5 : xs.drop 5 = headO ⟨off, timed, time, key, val, hk, miss⟩ ++ (partO hk key ++ (partO (!miss) val ++ more)) := by
    rw [show (5 : Nat) = 3 + 2 from rfl, ← List.drop_drop, d3, List.drop_left' (sfx_len _ _)]
  have hmiss : (!!miss) = miss := by cases miss <;> rfl
  cases timed with
  | true =>
    rw [if_pos rfl] at hlen
    have e5 : xs.drop 5 = sfx 1 1 ++ (sfx 3 time ++ (partO hk key ++ (partO (!miss) val ++ more))) := by rw [d5]; simp [headO, sfx]
    have g2 : intR xs 5 false 1 = (1, 6, false) := intR_at (k := 5) (m := 1) e5 (by omega) (by omega) (by omega) (by omega) (by decide)
    have d6 : xs.drop 6 = sfx 3 time ++ (partO hk key ++ (partO (!miss) val ++ more)) := by rw [show (6 : Nat) = 5 + 1 from rfl, ← List.drop_drop, e5, List.drop_left' (sfx_len _ _)]
    have g3 : intR xs 6 false 3 = (time, 9, false) := intR_at (k := 6) (m := 3) d6 (by omega) (by omega) (by omega) t0 (by show time < 256 ^ 3; omega)
    have d9 : xs.drop 9 = partO hk key ++ (partO (!miss) val ++ more) := by rw [show (9 : Nat) = 6 + 3 from rfl, ← List.drop_drop, d6, List.drop_left' (sfx_len _ _)]
    have g4 : oPartR xs 9 false = (hk, key, ((9 + (1 + key.length) : Nat) : Int), false) := oPartR_at (k := 9) p1 d9 (by omega)
    have d10 : xs.drop (9 + (1 + key.length)) = partO (!miss) val ++ more := by
      rw [← List.drop_drop, d9, List.drop_left' (by rw [partO_len p1])]
    have g5 := oPartR_at p2 d10 (by omega)
    unfold tellI
    simp only [g0, g1, g2, decide_true, if_true, g3, g4, g5, hmiss]
  | false =>
    rw [if_neg (by simp)] at hlen
    have e5 : xs.drop 5 = sfx 1 0 ++ (partO hk key ++ (partO (!miss) val ++ more)) := by rw [d5]; simp [headO, sfx]
    have g2 : intR xs 5 false 1 = (0, 6, false) := intR_at (k := 5) (m := 1) e5 (by omega) (by omega) (by omega) (by omega) (by decide)
    have d6 : xs.drop 6 = partO hk key ++ (partO (!miss) val ++ more) := by rw [show (6 : Nat) = 5 + 1 from rfl, ← List.drop_drop, e5, List.drop_left' (sfx_len _ _)]
    have g4 : oPartR xs 6 false = (hk, key, ((6 + (1 + key.length) : Nat) : Int), false) := oPartR_at (k := 6) p1 d6 (by omega)
    have d10 : xs.drop (6 + (1 + key.length)) = partO (!miss) val ++ more := by
      rw [← List.drop_drop, d6, List.drop_left' (by rw [partO_len p1])]
    have g5 := oPartR_at p2 d10 (by omega)
    obtain rfl : time = 0 := by rcases ht with h | h; cases h; exact h
    unfold tellI
    simp only [g0, g1, g2, show decide ((0 : Int) = 1) = false from rfl, Bool.false_eq_true, if_false, g4, g5, hmiss]
theorem mBytes_rest {m : Mes} (h : mOk m = true) : (mBytes m).drop 5 = restO m ∧ ((mBytes m).drop 3).take 2 = sfx 2 (sumB (restO m)) := by
  have e : mBytes m = sfx 3 m.off ++ (sfx 2 (sumB (restO m)) ++ restO m) := by simp [mBytes]
  have d3 : (mBytes m).drop 3 = sfx 2 (sumB (restO m)) ++ restO m := by rw [e, List.drop_left' (sfx_len _ _)]
  refine ⟨?_, ?_⟩
  · rw [show (5 : Nat) = 3 + 2 from rfl, ← List.drop_drop, d3, List.drop_left' (sfx_len _ _)]
  · rw [d3, List.take_left' (sfx_len _ _)]
theorem sfx2_inj {a b : Int} (a0 : 0 ≤ a) (a1 : a < 65521) (b0 : 0 ≤ b) (b1 : b < 65521) (h : sfx 2 a = sfx 2 b) : a = b := by
  have h1 := fromB_sfx 2 a a0 (by omega) (by show a < 65536; omega)
  have h2 := fromB_sfx 2 b b0 (by omega) (by show b < 65536; omega)
  rw [h, h2] at h1
  exact h1.symm
/-- a damaged byte behind the offset is noticed -/
theorem rdM_damage {m : Mes} (h : mOk m = true) {k : Nat} (hk3 : 3 ≤ k) (hk : k < (mBytes m).length) {y : Int} (y0 : 0 ≤ y) (y1 : y ≤ 255) (hne : y ≠ (mBytes m).getD k 0) : rdM ((mBytes m).set k y) = (Mes.zero, false) := by
  rcases rdM_cases ((mBytes m).set k y) with h1 | ⟨n, _, hn, e⟩
  · exact h1
  exfalso
  obtain ⟨r1, s1⟩ := mBytes_rest h
  obtain ⟨r2, s2⟩ := mBytes_rest hn
  rw [e] at r2 s2
  have b1 := sumB_bound (restO m)
  have b2 := sumB_bound (restO n)
  by_cases h5 : k < 5
  · have q : ((mBytes m).set k y).drop 5 = (mBytes m).drop 5 := by rw [List.drop_set_of_lt h5]
    have e1 : restO n = restO m := by rw [← r2, q, r1]
    rw [e1, ← s1] at s2
    apply hne
    have t1 : (((mBytes m).set k y).drop 3).take 2 = (((mBytes m).drop 3).take 2).set (k - 3) y := by
      rw [List.drop_set, if_neg (by omega), List.take_set]
    rw [t1] at s2
    have hl : k - 3 < (((mBytes m).drop 3).take 2).length := by rw [List.length_take, List.length_drop]; omega
    have h3 : ((((mBytes m).drop 3).take 2).set (k - 3) y)[k - 3]? = (((mBytes m).drop 3).take 2)[k - 3]? := by rw [s2]
    rw [List.getElem?_set_self hl, List.getElem?_take_of_lt (by omega), List.getElem?_drop, show 3 + (k - 3) = k by omega, List.getElem?_eq_getElem hk] at h3
    rw [List.getD_eq_getElem?_getD, List.getElem?_eq_getElem hk]
    simpa using h3
  · have q : ((mBytes m).set k y).drop 5 = (restO m).set (k - 5) y := by
      rw [List.drop_set, if_neg (by omega), r1]
    have e1 : restO n = (restO m).set (k - 5) y := by rw [← r2, q]
    have t1 : (((mBytes m).set k y).drop 3).take 2 = ((mBytes m).drop 3).take 2 := by
      rw [List.drop_set, if_neg (by omega), List.take_set_of_le (by omega)]
    rw [t1, s1] at s2
    have hs := sfx2_inj b1.1 b1.2 b2.1 b2.2 s2
    have hl : k - 5 < (restO m).length := by rw [← r1, List.length_drop]; omega
    have hg : (restO m).getD (k - 5) 0 = (mBytes m).getD k 0 := by
      rw [← r1, List.getD_eq_getElem?_getD, List.getD_eq_getElem?_getD, List.getElem?_drop, show 5 + (k - 5) = k by omega]
    have hx := okBs_at (restO_ok h) (k - 5) hl
    have := sumB_byte (restO m) (k - 5) hl y y0 y1 hx.1 hx.2 (by rw [hg]; exact hne)
    rw [← e1] at this
    exact this hs.symm
/-- a part of a message is none -/
theorem rdM_short {m : Mes} (h : mOk m = true) : rdM ((mBytes m).take ((mBytes m).length - 1)) = (Mes.zero, false) := by
  rcases rdM_cases ((mBytes m).take ((mBytes m).length - 1)) with h1 | ⟨n, _, hn, e⟩
  · exact h1
  exfalso
  have l1 := mBytes_len h
  have pre : mBytes m = mBytes n ++ (mBytes m).drop ((mBytes m).length - 1) := by rw [e, List.take_append_drop]
  have t := tellI_app hn ((mBytes m).drop ((mBytes m).length - 1))
  rw [← pre, tellI_of h] at t
  subst t
  have : (mBytes m).length = (mBytes m).length - 1 := by
    conv => lhs; rw [e]
    rw [List.length_take]; omega
  omega
/-- more than a message is none -/
theorem rdM_more {m : Mes} (h : mOk m = true) (x : Int) : rdM (mBytes m ++ [x]) = (Mes.zero, false) := by
  rcases rdM_cases (mBytes m ++ [x]) with h1 | ⟨n, _, hn, e⟩
  · exact h1
  exfalso
  have t := tellI_app h [x]
  rw [← e, tellI_of hn] at t
  subst t
  have := congrArg List.length e
  simp at this
end Go.Proofs.Ythlboonobepdaaa
