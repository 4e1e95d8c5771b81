/- Chapter 3: how the model reads parts of records. -/
import Derived.Test.YtkkfnpcldogglaaW3b
import Derived.Test.YtkkfnpcldogglaaP3b
namespace Go.Proofs.Ytkkfnpcldogglaa
open Go.ChangeShapes Go.WideShapes Go.ChangeAt Go.RowKit
set_option linter.unusedVariables false

def GetRes (g : Bool × List Int × Int × Bool) (w : World) (e : Ending) (w' : World) : Prop :=
  ∃ u, e = .returned (.tuple #[.bool g.1, u, .int .i64 g.2.2.1, .bool g.2.2.2]) ∧ Own w' w.heap.size u g.2.1 ∧ Below w.heap.size w w'

set_option maxHeartbeats 1000000 in
theorem spec_l3Get (v : Value) (xs : List Int) (c : Nat) (w : World) (h : Ints w v xs) (hok : okBs xs = true) (hs : xs.length ≤ 1000000000000) :
    Calls Try.prog 65 #[v, .int .i64 (c : Int)] w (GetRes (getP xs c) w) := by
  have C1 : Hid (Calls Try.prog 64 #[v, .int .i64 (c : Int)] w (FromRes (rdVar xs c) w)) := spec_l1From v xs c w h hok hs
  have hv := h
  obtain ⟨a, cap, rfl, hl, hm, hc⟩ := h
  unfold maxLen at hm
  have ownE : Own (w.alloc (.cells #[] 3)) w.heap.size (.slice (some ⟨w.heap.size, 0, none⟩) 0 0) [] := own_empty w _ (Nat.le_refl _)
  have belE := alloc_below' w (.cells #[] 3)
  obtain ⟨⟨n, nx, b⟩, hg⟩ : ∃ g, rdVar xs c = g := ⟨_, rfl⟩
  have eg : getP xs c = getP xs c := rfl
  unfold getP
  rw [hg] at C1 ⊢
  simp only
  cases b with
  | false =>
    rw [if_pos rfl]
    clear hg hc
    go_enter Try.func65, Try.ntmps65
    go_wp2_with fail
    refine C1.out.mono ?_
    rintro e w1 ⟨rfl, rfl⟩
    go_wp2_with fail
    go_returns
    exact ⟨_, rfl, ownE, belE⟩
  | true =>
    obtain ⟨a1, a2, a3, a4, a5⟩ := rdVar_yes hok hg
    rw [if_neg (by simp)]
    subst a3
    obtain ⟨q, hq⟩ : ∃ q, c + (varB n).length = q := ⟨_, rfl⟩
    have q1 : 1 ≤ q := by have := varB_pos a1 a2; omega
    rw [hq] at C1 a4 a5 ⊢
    clear hq hg eg a4
    by_cases n1 : n < -1
    · rw [if_pos n1]
      clear hc
      go_enter Try.func65, Try.ntmps65
      go_wp2_with fail
      refine C1.out.mono ?_
      rintro e w1 ⟨rfl, rfl⟩
      go_wp2_with fail
      go_returns
      exact ⟨_, rfl, ownE, belE⟩
    rw [if_neg n1]
    have d1 : decide (n < -1) = false := decide_eq_false n1
    by_cases n2 : 12 < n
    · rw [if_pos n2]
      have d2 : decide (12 < n) = true := decide_eq_true n2
      clear hc
      go_enter Try.func65, Try.ntmps65
      go_wp2_with fail
      refine C1.out.mono ?_
      rintro e w1 ⟨rfl, rfl⟩
      go_wp2_with fail
      go_returns
      exact ⟨_, rfl, ownE, belE⟩
    rw [if_neg n2]
    have d2 : decide (12 < n) = false := decide_eq_false n2
    by_cases n0 : n < 0
    · obtain rfl : n = -1 := by omega
      rw [if_neg (by omega), if_pos (by omega)]
      clear hc
      go_enter Try.func65, Try.ntmps65
      go_wp2_with fail
      refine C1.out.mono ?_
      rintro e w1 ⟨rfl, rfl⟩
      go_wp2_with fail
      go_returns
      exact ⟨_, rfl, ownE, belE⟩
    obtain ⟨m, rfl⟩ := Int.eq_ofNat_of_zero_le (show 0 ≤ n by omega)
    rw [show max (m : Int) 0 = (m : Int) by omega]
    have hmx : ((m : Int) < 0) = False := by simp
    by_cases n3 : (xs.length : Int) < (q : Int) + (m : Int)
    · rw [if_pos n3]
      have d3 : decide ((xs.length : Int) < (q : Int) + (m : Int)) = true := decide_eq_true n3
      clear hc
      go_enter Try.func65, Try.ntmps65
      go_wp2_with fail
      refine C1.out.mono ?_
      rintro e w1 ⟨rfl, rfl⟩
      go_wp2_with fail
      all_goals go_returns
      all_goals exact ⟨_, rfl, ownE, belE⟩
    rw [if_neg n3, if_neg n0, Int.toNat_natCast, Int.toNat_natCast]
    have d3 : decide ((xs.length : Int) < (q : Int) + (m : Int)) = false := decide_eq_false n3
    have hqm : q + m ≤ xs.length := by omega
    have h0 : 0 < xs.length := by omega
    obtain ⟨b, off, rfl, hcell⟩ := hc h0
    clear hcell hc
    have fin : ∀ (u : Value), Ints w u ((xs.drop q).take m) → Ints (w.alloc (.cells #[] 3)) u ((xs.drop q).take m) := fun u hu => hu.below belE
    have Fin := Lib.hid fin
    have hlen : ((xs.drop q).take m).length ≤ 12 := by rw [List.length_take]; omega
    by_cases hm0 : m = 0
    · subst hm0
      rw [List.take_zero]
      rw [show ((0 : Nat) : Int) = 0 from rfl] at C1 ⊢
      rw [Int.add_zero]
      have d4 : decide ((xs.length : Int) < (q : Int)) = false := decide_eq_false (by omega)
      have d5 : decide ((xs.length : Int) < (q : Int) + 0) = false := decide_eq_false (by omega)
      have hp : Hid (∀ (ad : Option Addr) (cp : Nat), cp ≤ cap → Ints (w.alloc (.cells #[] 3)) (.slice ad 0 cp) []) := fun ad cp hcp => Ints.empty _ _ _ (by unfold maxLen; omega)
      clear Fin fin hlen d3 hmx
      by_cases hcq : cap = q
      · obtain rfl : q = cap := hcq.symm
        go_enter Try.func65, Try.ntmps65
        go_wp2_with fail
        refine C1.out.mono ?_
        rintro e w1 ⟨rfl, rfl⟩
        go_wp2_with (at_builtin; refine wp_appI rfl _ _ rfl w.heap.size _ _ [] [] rfl rfl ownE (hp.out _ _ (by omega)) (by simp) (by simp) ?_; intro v9 w9 own9 g9)
        all_goals go_returns
        all_goals exact ⟨_, rfl, own9, belE.grown g9 belE.size ownE.lt⟩
      · go_enter Try.func65, Try.ntmps65
        go_wp2_with fail
        refine C1.out.mono ?_
        rintro e w1 ⟨rfl, rfl⟩
        go_wp2_with (at_builtin; refine wp_appI rfl _ _ rfl w.heap.size _ _ [] [] rfl rfl ownE (hp.out _ _ (by omega)) (by simp) (by simp) ?_; intro v9 w9 own9 g9)
        all_goals go_returns
        all_goals exact ⟨_, rfl, own9, belE.grown g9 belE.size ownE.lt⟩
    · have hp := Fin.out _ ((hv.drop' q (by omega)).take m (by omega))
      obtain ⟨ys, hys⟩ : ∃ ys, (xs.drop q).take m = ys := ⟨_, rfl⟩
      rw [hys] at hp hlen ⊢
      rw [← Nat.add_sub_cancel_left (n := q) (m := m)] at hp
      have hmp : (0 : Int) < (m : Int) := by omega
      have hcq : ¬ cap = q := by omega
      clear Fin fin hys
      go_enter Try.func65, Try.ntmps65
      go_wp2_with fail
      refine C1.out.mono ?_
      rintro e w1 ⟨rfl, rfl⟩
      go_wp2_with (at_builtin; refine wp_appI rfl _ _ rfl w.heap.size (.slice (some ⟨w.heap.size, 0, none⟩) 0 0) (.slice (some ⟨b, off + q, none⟩) (q + m - q) (cap - q)) [] ys rfl rfl ownE hp (by simp; omega) (by simp) ?_; intro v9 w9 own9 g9)
      all_goals go_returns
      all_goals exact ⟨_, rfl, own9, belE.grown g9 belE.size ownE.lt⟩
end Go.Proofs.Ytkkfnpcldogglaa
