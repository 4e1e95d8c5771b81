/- Chapter 23: parts of rows of terms, and what the laws of ends and cuts need of plain facts. -/
import Derived.Test.YtddemgdclilgpaaW14d
namespace Go.Proofs.Ytddemgdclilgpaa
open Go.ChangeShapes Go.WideShapes Go.ChangeAt Go.RowKit
set_option linter.unusedVariables false

/-- 's[:m]' -/
theorem run_uptoT {w : World} {a : Option Addr} {n cap : Nat} {ts : List Trm} (h : Ts w (.slice a n cap) ts) (m : Nat) (hm : m ≤ n) (W : World) :
    (Instr.slice 23 (.slice a n cap) none (some (.int .i64 (m : Int))) none).run Try.prog W = .ok (.slice a m cap) W := by
  obtain ⟨_, hl, _⟩ := h.sizes
  have e : (if cap = 0 then a else Option.map (fun x : Addr => x.add 0) a) = a := by
    split
    · rfl
    · cases a with
      | none => rfl
      | some a => simp [Addr.add]
  obtain ⟨i0, hi, hz0, hz1, hz2⟩ := info_parts info_term
  simp [Instr.slice, run_underlying Try.underlying23, Instr.sliceBounds, Instr.sliceBound, asIntOf]
  rw [if_pos (by omega)]
  try simp only [Nat.sub_zero]
  try rw [e]
theorem Ts.from' {w : World} {a : Option Addr} {n cap : Nat} {ts : List Trm} (h : Ts w (.slice a n cap) ts) (k : Nat) (hk : k ≤ n) : Ts w (.slice (if cap = k then a else a.map (·.add (k * 2))) (n - k) (cap - k)) (ts.drop k) := by
  obtain ⟨rfl, hl, hm⟩ := h.sizes
  by_cases h0 : k = ts.length
  · subst h0
    rw [Nat.sub_self, List.drop_length]
    exact Ts.empty _ _ _ (by omega)
  · obtain ⟨b, off, cp, e, _, _, _⟩ := h.form (by omega)
    simp only [Value.slice.injEq, true_and] at e
    obtain ⟨rfl, rfl⟩ := e
    rw [if_neg (by omega)]
    have := h.drop k hk
    rw [Option.map_some, Addr.add_lit]
    exact this
/-- 's[k:]' -/
theorem run_fromT {w : World} {a : Option Addr} {n cap : Nat} {ts : List Trm} (h : Ts w (.slice a n cap) ts) (k : Nat) (hk : k ≤ n) :
    ∃ a2 cap2, (∀ W, (Instr.slice 23 (.slice a n cap) (some (.int .i64 (k : Int))) none none).run Try.prog W = .ok (.slice a2 (n - k) cap2) W) ∧ ∀ W, Ts W (.slice a n cap) ts → Ts W (.slice a2 (n - k) cap2) (ts.drop k) := by
  obtain ⟨_, hl, hm⟩ := h.sizes
  refine ⟨_, _, fun W => ?_, fun W hW => hW.from' k hk⟩
  simp [Instr.slice, run_underlying Try.underlying23, Instr.sliceBounds, Instr.sliceBound, asIntOf]
  omega

/-- what the laws of cuts need -/
theorem cut_facts {ts : List Trm} (ok : tsOk ts = true) (o : Int) : ∃ n, n ≤ ts.length ∧ cutL ts o = ts.take n ∧ (cutL ts o).length = n ∧ tsOk (cutL ts o) = true ∧ (n ≠ 0 → (tAt ts (n - 1)).first < o) ∧ (n ≠ ts.length → o ≤ (tAt ts n).first) := by
  obtain ⟨n, h1, h2, h3, h4⟩ := cut_take ok o
  have e : cutL ts o = ts.take n := by unfold cutL; rw [if_pos ok, h2]
  refine ⟨n, h1, e, by rw [e, List.length_take]; omega, by rw [e]; exact tsOk_take ok n, fun h => h3 _ (by omega), fun h => ?_⟩
  rcases h4 with h4 | h4
  · exact absurd h4 h
  · exact h4
theorem cut_again {ts : List Trm} (ok : tsOk ts = true) (o p : Int) (hp : p ≤ o) : cutL (cutL ts o) o = cutL ts o ∧ (cutL ts p).length ≤ (cutL ts o).length := by
  obtain ⟨n, _, _, _, ok2, _⟩ := cut_facts ok o
  have e : cutL ts o = cutF ts o := by unfold cutL; rw [if_pos ok]
  have e2 : cutL ts p = cutF ts p := by unfold cutL; rw [if_pos ok]
  refine ⟨?_, by rw [e, e2]; exact cutF_less hp⟩
  have e3 : cutL (cutL ts o) o = cutF (cutL ts o) o := by
    rw [show cutL (cutL ts o) o = if tsOk (cutL ts o) = true then cutF (cutL ts o) o else [] from rfl, if_pos ok2]
  rw [e3, e, cutF_twice]
/-- a new term ends the one before -/
theorem end_put {ts : List Trm} {n en : Int} (h : 0 ≤ endT ts n en) : 0 < ts.length ∧ (0 ≤ (tAt ts (ts.length - 1)).num ∧ (tAt ts (ts.length - 1)).num ≤ 999) ∧ (0 ≤ en ∧ en ≤ 100000) ∧
    (tsOk (ts ++ [⟨(tAt ts (ts.length - 1)).num + 1, en⟩]) = true → endT (ts ++ [⟨(tAt ts (ts.length - 1)).num + 1, en⟩]) (tAt ts (ts.length - 1)).num (en + 1) = en) := by
  obtain ⟨h1, i, hi, _, _, _⟩ := endT_pos h
  obtain ⟨ok, he, hlast⟩ := endOk_iff.1 h1
  have hr := (tsOk_in ok (show ts.length - 1 < ts.length by omega)).1
  refine ⟨by omega, hr, he, fun ok2 => ?_⟩
  have hl : (ts ++ [(⟨(tAt ts (ts.length - 1)).num + 1, en⟩ : Trm)]).length = ts.length + 1 := by simp
  have hle : en ≤ 99999 := by
    have := (termOk_iff.1 (tsOk_snoc.1 ok2).2.2.1).2.2
    exact this
  have eo : endOk (ts ++ [⟨(tAt ts (ts.length - 1)).num + 1, en⟩]) (en + 1) = true := by
    refine endOk_iff.2 ⟨ok2, ⟨by omega, by omega⟩, .inr ?_⟩
    rw [hl, Nat.add_sub_cancel, tAt_app2]
    show en < en + 1
    omega
  have at1 : tAt (ts ++ [⟨(tAt ts (ts.length - 1)).num + 1, en⟩]) (ts.length - 1) = tAt ts (ts.length - 1) := tAt_app1 (by omega)
  rw [endT_yes eo (i := ts.length - 1) (by omega) (by rw [at1]) (fun j hj e => by
    have := (tsOk_up ok2 hj (by omega)).1
    rw [at1] at this
    omega)]
  unfold endAtT
  rw [hl, if_pos (by omega), show ts.length - 1 + 1 = ts.length by omega, tAt_app2]
end Go.Proofs.Ytddemgdclilgpaa
