/- Chapter 13: the tree of entries, and the way down. -/
import Derived.Test.YtlifglljneaknaaT8b
import Derived.Test.YtlifglljneaknaaT9
import Derived.RegionTactic
import Derived.BigQuiet
namespace Go.Proofs.Ytlifglljneaknaa
open Go.ChangeShapes Go.WideShapes Go.ChangeAt Go.RowKit
set_option linter.unusedVariables false

theorem TreeAt.none {W : World} {xs : List Trm} {v : Value} (h : TreeAt W xs v) (h0 : xs.length = 0) : v = .pointer .none := by
  cases h with
  | nil => rfl
  | node _ _ _ _ h1 => omega
theorem TreeAt.parts {W : World} {xs : List Trm} {v : Value} (h : TreeAt W xs v) (h0 : 0 < xs.length) : ∃ B vl vr, v = .pointer (some ⟨B, 0, .none⟩) ∧ W.cell? ⟨B, 0, .none⟩ = some (.int .i64 (tAt xs (xs.length / 2)).num) ∧ W.cell? ⟨B, 1, .none⟩ = some (.int .i64 (tAt xs (xs.length / 2)).first) ∧
    W.cell? ⟨B, 2, .none⟩ = some vl ∧ W.cell? ⟨B, 3, .none⟩ = some vr ∧ TreeAt W (xs.take (xs.length / 2)) vl ∧ TreeAt W (xs.drop (xs.length / 2 + 1)) vr := by
  cases h with
  | nil => simp at h0
  | node _ B vl vr _ c0 c1 c2 c3 l r => exact ⟨B, vl, vr, rfl, c0, c1, c2, c3, l, r⟩
def TreeRes (w : World) (xs : List Trm) (e : Ending) (w' : World) : Prop := ∃ p, e = .returned (.pointer p) ∧ TreeAt w' xs (.pointer p) ∧ Below w.heap.size w w'

theorem treeOf_none (v : Value) (xs : List Trm) (w : World) (h0 : xs.length = 0) (h : Ts w v xs) : Calls Try.prog 18 #[v] w (TreeRes w xs) := by
  obtain ⟨a, cap, rfl, hl, hm, hc⟩ := h
  obtain rfl : xs = [] := List.eq_nil_of_length_eq_zero h0
  clear hc
  go_enter Try.func18, Try.ntmps18
  go_wp2_with fail
  go_ret
  exact ⟨_, rfl, .nil, Below.refl _ _⟩

set_option maxHeartbeats 2000000 in
theorem impl_treeOf (n : Nat) : ∀ (v : Value) (xs : List Trm) (w : World), xs.length ≤ n → Ts w v xs → Calls Try.prog 18 #[v] w (TreeRes w xs) := by
  induction n with
  | zero => exact fun v xs w hn h => treeOf_none v xs w (by omega) h
  | succ n ih =>
    intro v xs w hn h
    by_cases h0 : xs.length = 0
    · exact treeOf_none v xs w h0 h
    have hv := h
    obtain ⟨b, off, cp, rfl, hl, hm, hcell⟩ := h.form (by omega)
    unfold maxLen at hm
    obtain ⟨m, Hm⟩ : ∃ m, Hid (xs.length / 2 = m) := ⟨_, Lib.hid rfl⟩
    have hml : m < xs.length := by have := Hm.out; omega
    obtain ⟨c0, c1⟩ := hcell m hml
    have t1 : (xs.length : Int).tdiv 2 = (m : Int) := by rw [← Hm.out]; rfl
    have t2 : (xs.length : Int) / 2 = (m : Int) := by rw [← Hm.out]; rfl
    have s1 : IntKind.i64.wrap ((m : Int) + 1) = (m : Int) + 1 := IntWalk.i64_in _ ⟨by omega, by omega⟩
    have d0 : ((xs.length : Int) == 0) = false := by rw [beq_eq_false_iff_ne]; omega
    have d0n : (xs.length == 0) = false := by simp [h0]
    have i0 : (0 : Int) ≤ (m : Int) := by omega
    have i1 : (m : Int) < (xs.length : Int) := by omega
    have hs1 : ∀ W, (Instr.slice 23 (.slice (some ⟨b, off, none⟩) xs.length cp) none (some (.int .i64 (m : Int))) none).run Try.prog W = .ok (.slice (some ⟨b, off, none⟩) m cp) W := fun W => run_uptoT hv m (by omega) W
    obtain ⟨a2, c2, hs2, hp2⟩ := run_fromT hv (m + 1) (by omega)
    have hs2' : ∀ W, (Instr.slice 23 (.slice (some ⟨b, off, none⟩) xs.length cp) (some (.int .i64 ((m : Int) + 1))) none none).run Try.prog W = .ok (.slice a2 (xs.length - (m + 1)) c2) W := hs2
    have C1 : Hid (∀ W, Below w.heap.size w W → Calls Try.prog 18 #[.slice (some ⟨b, off, none⟩) m cp] W (TreeRes W (xs.take m))) := Lib.hid fun W hW => ih _ _ W (by rw [List.length_take]; omega) ((hv.below hW).take m (by omega))
    have C2 : Hid (∀ W, Below w.heap.size w W → Calls Try.prog 18 #[.slice a2 (xs.length - (m + 1)) c2] W (TreeRes W (xs.drop (m + 1)))) := Lib.hid fun W hW => ih _ _ W (by rw [List.length_drop]; omega) (hp2 W (hv.below hW))
    obtain ⟨⟨x, y⟩, Ht⟩ : ∃ t, Hid (tAt xs m = t) := ⟨_, Lib.hid rfl⟩
    rw [Ht.out] at c0 c1
    simp only at c0 c1
    have bdr : Below w.heap.size w w.drew := below_drewN (Below.refl _ _) 1
    have HS : Hid (∀ W, Below w.heap.size w W → W.cell? ⟨b, off + m * 2, none⟩ = some (.int .i64 x) ∧ W.cell? ⟨b, off + m * 2 + 1, none⟩ = some (.int .i64 y)) := Lib.hid fun W hW => ⟨(hW.cell (World.block_lt_of_cell? _ _ c0)).trans c0, (hW.cell (World.block_lt_of_cell? _ _ c1)).trans c1⟩
    have S1 := HS.out w.drew bdr
    clear hs2 hp2 hcell c0 c1 h0 ih
    go_enter Try.func18, Try.ntmps18
    go_upto_region 4 with (fail)
    go_region_held3 (fun W => W.cell? ⟨b, off + m * 2, none⟩ = some (.int .i64 x) ∧ W.cell? ⟨b, off + m * 2 + 1, none⟩ = some (.int .i64 y)) (first | with_reducible exact S1 | with_reducible exact HS.out _ G1 | with_reducible exact HS.out _ G2 | go_keep)
      (first
        | (go_at_call 18; ((with_reducible refine (C1.out _ bdr).mono ?_); rintro e w1 ⟨ul, rfl, tl, b1⟩; have G1 := Bstep bdr b1))
        | (go_at_call 18; ((with_reducible refine (C2.out _ G1).mono ?_); rintro e w2 ⟨ur, rfl, tr, b2⟩; have G2 := Bstep G1 b2; have tl2 := tl.keepB b2)))
    all_goals
      have bN := alloc_below' w2 (.cells #[.int .i64 x, .int .i64 y, .pointer ul, .pointer ur] 46)
      have nN := Blk.made w2 #[.int .i64 x, .int .i64 y, .pointer ul, .pointer ur] 46
      go_wp2_with fail
      go_ret
      exact ⟨_, rfl, .node xs w2.heap.size _ _ (by omega) (by rw [Hm.out, Ht.out]; exact nN.cell 0) (by rw [Hm.out, Ht.out]; exact nN.cell 1) (nN.cell 2) (nN.cell 3) (by rw [Hm.out]; exact tl2.keepB bN) (by rw [Hm.out]; exact tr.keepB bN), Bstep G2 bN⟩

set_option maxHeartbeats 2000000 in
/-- the way down: the last entry that is not behind an offset -/
theorem impl_lastUpTo (v : Value) (ts : List Trm) (o : Int) (w : World) (hok : tsOk ts = true) (h : TreeAt w ts v) :
    Calls Try.prog 19 #[v, .int .i64 o] w fun e w' => ∃ u, e = .returned u ∧ Below w.heap.size w w' ∧
      ((u = .pointer none ∧ ∀ i, i < ts.length → o < (tAt ts i).num) ∨ ∃ B i, u = .pointer (some ⟨B, 0, none⟩) ∧ w'.cell? ⟨B, 0, none⟩ = some (.int .i64 (tAt ts i).num) ∧ w'.cell? ⟨B, 1, none⟩ = some (.int .i64 (tAt ts i).first) ∧
        i < ts.length ∧ (tAt ts i).num ≤ o ∧ ∀ j, i < j → j < ts.length → o < (tAt ts j).num) := by
  have hup : Hid (∀ i j, i < j → j < ts.length → (tAt ts i).num < (tAt ts j).num) := Lib.hid fun i j hij hj => (tsOk_up hok hij hj).1
  go_enter Try.func19, Try.ntmps19
  go_wp2_with fail
  go_loopw [0, 5] (fun p f wr => ∃ lo n, lo + n ≤ ts.length ∧ TreeAt wr (segT ts lo n) p ∧ (∀ i, i < lo → (tAt ts i).num ≤ o) ∧ (∀ i, lo + n ≤ i → i < ts.length → o < (tAt ts i).num) ∧ Below w.heap.size w wr ∧
    ((lo = 0 ∧ f = .pointer none) ∨ (0 < lo ∧ ∃ B, f = .pointer (some ⟨B, 0, none⟩) ∧ wr.cell? ⟨B, 0, none⟩ = some (.int .i64 (tAt ts (lo - 1)).num) ∧ wr.cell? ⟨B, 1, none⟩ = some (.int .i64 (tAt ts (lo - 1)).first)))) (fun p _ wr => treeLen wr p)
  case atStart => exact ⟨0, ts.length, by omega, by rw [segT_all]; exact h, fun i hi => by omega, fun i hi hj => by omega, Below.refl _ _, .inl ⟨rfl, rfl⟩⟩
  case round =>
    obtain ⟨lo, n, hln, ht, hlo, hhi, bel, hf⟩ := hrel
    by_cases hn0 : n = 0
    · subst hn0
      have hs : segT ts lo 0 = [] := by unfold segT; simp
      obtain rfl := ht.none (by rw [hs]; rfl)
      rcases hf with ⟨rfl, rfl⟩ | ⟨hl0, B, rfl, b0, b1⟩
      · have H1 := Lib.hid fun i (hi : i < ts.length) => hhi i (by omega) hi
        clear hhi hlo
        go_wp2_with fail
        go_ret
        exact ⟨_, rfl, bel, .inl ⟨rfl, H1.out⟩⟩
      · have H1 := Lib.hid (hlo (lo - 1) (by omega))
        have H2 := Lib.hid fun j (hj : lo - 1 < j) (hj' : j < ts.length) => hhi j (by omega) hj'
        clear hhi hlo
        go_wp2_with fail
        go_ret
        exact ⟨_, rfl, bel, .inr ⟨B, lo - 1, rfl, b0, b1, by omega, H1.out, H2.out⟩⟩
    · have hsl := segT_len hln
      obtain ⟨xs, hxs⟩ : ∃ xs, segT ts lo n = xs := ⟨_, rfl⟩
      have HX := Lib.hid hxs
      have HM : Hid (treeLen wr u0 = n) := Lib.hid ((treeLen_eq ht).trans hsl)
      rw [hxs] at ht hsl
      clear hxs
      obtain ⟨B, vl, vr, rfl, c0, c1, c2, c3, tl, tr⟩ := ht.parts (by omega)
      have em : tAt xs (xs.length / 2) = tAt ts (lo + n / 2) := by rw [hsl, ← HX.out]; exact segT_at (by omega)
      have el : xs.take (xs.length / 2) = segT ts lo (n / 2) := by rw [hsl, ← HX.out]; exact segT_take (by omega)
      have er : xs.drop (xs.length / 2 + 1) = segT ts (lo + (n / 2 + 1)) (n - (n / 2 + 1)) := by rw [hsl, ← HX.out]; exact segT_drop
      rw [em] at c0 c1
      rw [el] at tl
      rw [er] at tr
      have hmid : lo + n / 2 < ts.length := by omega
      have HML := Lib.hid (treeLen_eq tl)
      have HMR := Lib.hid (treeLen_eq tr)
      rw [segT_len (by omega)] at HML
      rw [segT_len (by omega)] at HMR
      clear em el er hsl HX ht
      obtain ⟨⟨x, y⟩, Ht⟩ : ∃ t, Hid (tAt ts (lo + n / 2) = t) := ⟨_, Lib.hid rfl⟩
      have K0 := Lib.hid c0
      have K1 := Lib.hid c1
      rw [Ht.out] at c0 c1
      simp only at c0 c1
      by_cases hx : o < x
      · have d1 : decide (o < x) = true := decide_eq_true hx
        have H2 : Hid (∀ i, lo + n / 2 ≤ i → i < ts.length → o < (tAt ts i).num) := Lib.hid fun i hi hi' => by
          by_cases e : i = lo + n / 2
          · rw [e, Ht.out]; exact hx
          · have := hup.out (lo + n / 2) i (by omega) hi'
            rw [Ht.out] at this
            simp only at this
            omega
        have HLO := Lib.hid hlo
        clear hhi hlo hx
        go_wp2_with fail
        go_roundw
        case rel => exact ⟨lo, n / 2, by omega, tl, HLO.out, H2.out, bel, hf⟩
        case measure => rw [HM.out, HML.out]; omega
      · have d1 : decide (o < x) = false := decide_eq_false hx
        have H1 : Hid (∀ i, i < lo + (n / 2 + 1) → (tAt ts i).num ≤ o) := Lib.hid fun i hi => by
          by_cases e : i = lo + n / 2
          · rw [e, Ht.out]; simp only; omega
          · have := hup.out i (lo + n / 2) (by omega) hmid
            rw [Ht.out] at this
            simp only at this
            omega
        have HHI : Hid (∀ i, lo + (n / 2 + 1) + (n - (n / 2 + 1)) ≤ i → i < ts.length → o < (tAt ts i).num) := Lib.hid fun i hi hi' => hhi i (by omega) hi'
        clear hhi hlo hx
        go_wp2_with fail
        go_quiet (fail)
        go_wp2_with fail
        go_roundw
        case rel => exact ⟨lo + (n / 2 + 1), n - (n / 2 + 1), by omega, tr.keepB (below_drewN (Below.refl _ _) _), H1.out, HHI.out, below_drewN bel _, .inr ⟨by omega, B, rfl, K0.out, K1.out⟩⟩
        case measure => rw [HM.out, treeLen_eq (tr.keepB (below_drewN (Below.refl _ _) _)), segT_len (by omega)]; omega
end Go.Proofs.Ytlifglljneaknaa
