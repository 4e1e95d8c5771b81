/- Chapter 11, plain functions on messages of the old form. -/
import Derived.Test.YthlboonobepdaaaP3
import Derived.Test.YthlboonobepdaaaP2
namespace Go.Proofs.Ythlboonobepdaaa
set_option linter.unusedVariables false

/-- a message -/
structure Mes where
  off : Int
  timed : Bool
  time : Int
  key : List Int
  val : List Int
  hk : Bool
  miss : Bool
def Mes.zero : Mes := ⟨0, false, 0, [], [], false, false⟩
/-- the record of a message -/
def mRec (m : Mes) : Rec := ⟨m.off, m.time, m.hk, m.key, !m.miss, m.val⟩
def mOk (m : Mes) : Bool := recOk (mRec m) && (m.timed || decide (m.time = 0))
/-- the bytes of a part -/
def partO (has : Bool) (xs : List Int) : List Int := if has = true then (xs.length : Int) :: xs else [255]
def headO (m : Mes) : List Int := if m.timed = true then 1 :: sfx 3 m.time else [0]
def restO (m : Mes) : List Int := headO m ++ partO m.hk m.key ++ partO (!m.miss) m.val
def mBytes (m : Mes) : List Int := sfx 3 m.off ++ sfx 2 (sumB (restO m)) ++ restO m
theorem mOk_iff {m : Mes} : mOk m = true ↔ ((0 ≤ m.off ∧ m.off ≤ 99999) ∧ (0 ≤ m.time ∧ m.time ≤ 99999) ∧ partOk m.hk m.key = true ∧ partOk (!m.miss) m.val = true) ∧ (m.timed = true ∨ m.time = 0) := by
  unfold mOk
  simp only [Bool.and_eq_true, Bool.or_eq_true, decide_eq_true_eq, recOk_iff, mRec]
theorem partO_len {has : Bool} {xs : List Int} (h : partOk has xs = true) : (partO has xs).length = 1 + xs.length := by
  unfold partO
  cases has with
  | true => simp; omega
  | false =>
    have := (partOk_iff.1 h).1 rfl
    subst this
    rfl
theorem headO_len (m : Mes) : (headO m).length = if m.timed = true then 4 else 1 := by
  unfold headO
  split <;> simp [sfx_len]
theorem restO_len {m : Mes} (h : mOk m = true) : (restO m).length = (if m.timed = true then 4 else 1) + (1 + m.key.length) + (1 + m.val.length) := by
  obtain ⟨⟨_, _, h1, h2⟩, _⟩ := mOk_iff.1 h
  unfold restO
  rw [List.length_append, List.length_append, headO_len, partO_len h1, partO_len h2]
theorem mBytes_len {m : Mes} (h : mOk m = true) : (mBytes m).length = 5 + ((if m.timed = true then 4 else 1) + (1 + m.key.length) + (1 + m.val.length)) := by
  unfold mBytes
  rw [List.length_append, List.length_append, sfx_len, sfx_len, restO_len h]
theorem okBs_appO {xs ys : List Int} : okBs (xs ++ ys) = (okBs xs && okBs ys) := by unfold okBs; rw [List.all_append]
theorem partO_ok {has : Bool} {xs : List Int} (h : partOk has xs = true) : okBs (partO has xs) = true := by
  obtain ⟨h1, h2, h3⟩ := partOk_iff.1 h
  unfold partO
  split
  · unfold okBs at h2 ⊢
    rw [List.all_cons, h2, Bool.and_true]
    simp only [Bool.and_eq_true, decide_eq_true_eq]
    omega
  · rfl
theorem headO_ok (m : Mes) : okBs (headO m) = true := by
  unfold headO
  split
  · have := sfx_ok 3 m.time
    unfold okBs at this ⊢
    rw [List.all_cons, this]
    rfl
  · rfl
theorem restO_ok {m : Mes} (h : mOk m = true) : okBs (restO m) = true := by
  obtain ⟨⟨_, _, h1, h2⟩, _⟩ := mOk_iff.1 h
  unfold restO
  rw [okBs_appO, okBs_appO, headO_ok, partO_ok h1, partO_ok h2]
  rfl
theorem mBytes_ok {m : Mes} (h : mOk m = true) : okBs (mBytes m) = true := by
  unfold mBytes
  rw [okBs_appO, okBs_appO, sfx_ok, sfx_ok, restO_ok h]
  rfl
/-- the bytes of a message, or none -/
def mBi (m : Mes) : List Int := if mOk m = true then mBytes m else []
theorem mBi_len (m : Mes) : (mBi m).length ≤ 50 := by
  unfold mBi
  split
  · rename_i h
    have h1 := mBytes_len h
    obtain ⟨⟨_, _, p1, p2⟩, _⟩ := mOk_iff.1 h
    have q1 := (partOk_iff.1 p1).2.2
    have q2 := (partOk_iff.1 p2).2.2
    split at h1 <;> omega
  · simp
/-- the part at a place, the place behind it, and whether there is one -/
def getO (xs : List Int) (c : Nat) : Bool × List Int × Nat × Bool :=
  if xs.length ≤ c then (false, [], 0, false)
  else if xs.getD c 0 = 255 then (false, [], c + 1, true)
  else if (xs.length : Int) < (c : Int) + 1 + xs.getD c 0 then (false, [], 0, false)
  else (true, (xs.drop (c + 1)).take (xs.getD c 0).toNat, c + 1 + (xs.getD c 0).toNat, true)
/-- what the bytes tell, whether it is valid or not -/
def tellM (xs : List Int) : Option Mes :=
  if okBs xs = false ∨ xs.length < 8 ∨ (xs.getD 5 0 = 1 ∧ xs.length < 11) then none
  else
    let td : Bool := decide (xs.getD 5 0 = 1)
    let p := getO xs (if td = true then 9 else 6)
    let q := getO xs p.2.2.1
    if p.2.2.2 = true ∧ q.2.2.2 = true then
      some ⟨fromB (xs.take 3), td, if td = true then fromB ((xs.drop 6).take 3) else 0, p.2.1, q.2.1, p.1, !q.1⟩
    else none
/-- the message of bytes -/
def rdM (xs : List Int) : Mes × Bool :=
  match tellM xs with
  | some m => if mOk m = true ∧ mBytes m = xs then (m, true) else (Mes.zero, false)
  | none => (Mes.zero, false)
theorem drop_cons_at {xs ys : List Int} {c : Nat} {x : Int} (h : xs.drop c = x :: ys) : c < xs.length ∧ xs.getD c 0 = x ∧ xs.drop (c + 1) = ys := by
  have hl : (xs.drop c).length = ys.length + 1 := by rw [h]; rfl
  rw [List.length_drop] at hl
  have hc : c < xs.length := by omega
  rw [List.drop_eq_getElem_cons hc] at h
  injection h with h1 h2
  refine ⟨hc, ?_, h2⟩
  rw [List.getD_eq_getElem?_getD, List.getElem?_eq_getElem hc]
  exact h1
theorem getO_app {xs rest ys : List Int} {c : Nat} {has : Bool} (hp : partOk has ys = true) (h : xs.drop c = partO has ys ++ rest) : getO xs c = (has, ys, c + (1 + ys.length), true) := by
  obtain ⟨h1, h2, h3⟩ := partOk_iff.1 hp
  cases has with
  | false =>
    have hy := h1 rfl
    subst hy
    obtain ⟨a1, a2, a3⟩ := drop_cons_at (show xs.drop c = 255 :: rest from h)
    unfold getO
    rw [if_neg (by omega), if_pos a2]
    rfl
  | true =>
    obtain ⟨a1, a2, a3⟩ := drop_cons_at (show xs.drop c = (ys.length : Int) :: (ys ++ rest) from h)
    have hl : (xs.drop (c + 1)).length = ys.length + rest.length := by rw [a3, List.length_append]
    rw [List.length_drop] at hl
    unfold getO
    rw [if_neg (by omega), a2, if_neg (by omega), if_neg (by omega), a3, Int.toNat_natCast, List.take_left]
    simp; omega
/-- a message is read back -/
theorem tellM_of {m : Mes} (h : mOk m = true) : tellM (mBytes m) = some m := by
  have hok := mBytes_ok h
  have hlen := mBytes_len h
  obtain ⟨⟨⟨o0, o1⟩, ⟨t0, t1⟩, p1, p2⟩, ht⟩ := mOk_iff.1 h
  obtain ⟨off, timed, time, key, val, hk, miss⟩ := m
  simp only at o0 o1 t0 t1 p1 p2 ht hlen
  obtain ⟨s, hs⟩ : ∃ s, sfx 2 (sumB (restO ⟨off, timed, time, key, val, hk, miss⟩)) = s := ⟨_, rfl⟩
  have sl : s.length = 2 := by rw [← hs, sfx_len]
  obtain ⟨xs, hx⟩ : ∃ xs, mBytes ⟨off, timed, time, key, val, hk, miss⟩ = xs := ⟨_, rfl⟩
  have e : xs = sfx 3 off ++ (s ++ (headO ⟨off, timed, time, key, val, hk, miss⟩ ++ (partO hk key ++ (partO (!miss) val)))) := by
    rw [← hx, ← hs]; simp [mBytes, restO]
  rw [hx] at hok hlen ⊢
  have f1 : fromB (xs.take 3) = off := by
    rw [e, List.take_append_of_le_length (by rw [sfx_len]; omega), List.take_of_length_le (by rw [sfx_len]; omega)]
    exact fromB_sfx 3 off o0 (by omega) (by omega)
  have d5 : xs.drop 5 = headO ⟨off, timed, time, key, val, hk, miss⟩ ++ (partO hk key ++ (partO (!miss) val)) := by
    rw [e, show (5 : Nat) = 3 + 2 from rfl, ← List.drop_drop, List.drop_left' (by rw [sfx_len]), List.drop_left' sl]
  have hmiss : (!!miss) = miss := by cases miss <;> rfl
  cases timed with
  | true =>
    obtain ⟨a1, a2, a3⟩ := drop_cons_at (show xs.drop 5 = 1 :: (sfx 3 time ++ (partO hk key ++ partO (!miss) val)) from d5)
    have d9 : xs.drop 9 = partO hk key ++ partO (!miss) val := by
      rw [show (9 : Nat) = 6 + 3 from rfl, ← List.drop_drop, a3, List.drop_left' (by rw [sfx_len])]
    have f2 : fromB ((xs.drop 6).take 3) = time := by
      rw [a3, List.take_append_of_le_length (by rw [sfx_len]; omega), List.take_of_length_le (by rw [sfx_len]; omega)]
      exact fromB_sfx 3 time t0 (by omega) (by omega)
    have g1 := getO_app p1 d9
    have d10 : xs.drop (9 + (1 + key.length)) = partO (!miss) val ++ [] := by
      rw [← List.drop_drop, d9, List.drop_left' (by rw [partO_len p1]), List.append_nil]
    have g2 := getO_app p2 d10
    rw [if_pos rfl] at hlen
    unfold tellM
    rw [if_neg (fun h => by rw [hok, a2] at h; rcases h with h | h | ⟨h, h2⟩ <;> first | (exact absurd h (by decide)) | omega)]
    simp only [a2, decide_true, if_true, g1, g2, f1, f2, and_self, hmiss]
  | false =>
    obtain ⟨a1, a2, a3⟩ := drop_cons_at (show xs.drop 5 = 0 :: (partO hk key ++ partO (!miss) val) from d5)
    have g1 := getO_app p1 a3
    have d10 : xs.drop (6 + (1 + key.length)) = partO (!miss) val ++ [] := by
      rw [← List.drop_drop, a3, List.drop_left' (by rw [partO_len p1]), List.append_nil]
    have g2 := getO_app p2 d10
    obtain rfl : time = 0 := by rcases ht with h | h; cases h; exact h
    rw [if_neg (by simp)] at hlen
    unfold tellM
    rw [if_neg (fun h => by rw [hok, a2] at h; rcases h with h | h | ⟨h, h2⟩ <;> first | (exact absurd h (by decide)) | omega)]
    simp only [a2, show decide ((0 : Int) = 1) = false from rfl, Bool.false_eq_true, if_false, g1, g2, f1, and_self, if_true, hmiss]
theorem rdM_of {m : Mes} (h : mOk m = true) : rdM (mBytes m) = (m, true) := by
  unfold rdM
  rw [tellM_of h]
  simp [h]
theorem rdM_yes {xs : List Int} {m : Mes} (h : rdM xs = (m, true)) : mOk m = true ∧ mBytes m = xs := by
  unfold rdM at h
  split at h
  · split at h
    · rename_i _ _ h1
      simp only [Prod.mk.injEq, and_true] at h
      subst h
      exact h1
    · simp at h
  · simp at h
theorem rdM_cases (xs : List Int) : rdM xs = (Mes.zero, false) ∨ ∃ m, rdM xs = (m, true) ∧ mOk m = true ∧ mBytes m = xs := by
  cases h : (rdM xs).2 with
  | true =>
    have e : rdM xs = ((rdM xs).1, true) := by rw [← h]
    exact .inr ⟨_, e, rdM_yes e⟩
  | false =>
    left
    unfold rdM at h ⊢
    split
    · rename_i m hm
      rw [hm] at h
      simp only at h
      split at h
      · simp at h
      · rename_i h1; rw [if_neg h1]
    · rfl
/-- bytes are those of one message only -/
theorem mBytes_inj {m n : Mes} (h : mOk m = true) (g : mOk n = true) (e : mBytes m = mBytes n) : m = n := by
  have h1 := rdM_of h
  rw [e, rdM_of g] at h1
  simp only [Prod.mk.injEq, and_true] at h1
  exact h1.symm
theorem rdM_no {xs : List Int} (h : ∀ m, mOk m = true → mBytes m ≠ xs) : rdM xs = (Mes.zero, false) := by
  rcases rdM_cases xs with h1 | ⟨m, _, h1, h2⟩
  · exact h1
  · exact absurd h2 (h m h1)
end Go.Proofs.Ythlboonobepdaaa
