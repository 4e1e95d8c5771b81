/- The helpers of the laws on producers: rows are the same; they are marked, and held against their marks. -/
import Derived.Test.YtfapeppocfodpaaT12b
namespace Go.Proofs.Ytfapeppocfodpaa
open Go.ChangeShapes Go.WideShapes Go.ChangeAt Go.RowKit
set_option linter.unusedVariables false

theorem term_struct : Try.prog.underlying 61 = some (.struct (Try.prog.fieldsOf 61)) := by kernel_rfl
theorem term_plain : Try.prog.stoodInHeld 61 = false := by kernel_rfl
theorem term_guard : Try.prog.eqGuardType Try.prog.depth 61 = false := by kernel_rfl
theorem term_same (w : World) (a b e c d f : Int) : (Op.equalIn 10000 61 (.agg #[.int .i64 a, .int .i64 b, .int .i64 e]) (.agg #[.int .i64 c, .int .i64 d, .int .i64 f])).run Try.prog w = .ok (a == c && (b == d && e == f)) w := by
  have u3 := Try.underlying3
  rw [show (10000 : Nat) = 9999 + 1 from rfl, run_equalIn_agg w 9999 61 _ _ term_struct term_plain]
  simp only [Program.fieldsOf, Try.underlying61]
  go_simp
  by_cases h1 : a = c <;> by_cases h2 : b = d <;> by_cases h3 : e = f <;> simp [h1, h2, h3]
theorem term_neq (w : World) (a b e c d f : Int) : (binOp .neq 61 (.agg #[.int .i64 a, .int .i64 b, .int .i64 e]) (.agg #[.int .i64 c, .int .i64 d, .int .i64 f])).run Try.prog w = .ok (.bool (!(a == c && (b == d && e == f)))) w := by
  rw [run_neq_struct, term_same]
  rfl
theorem laws_sameProducers (v u : Value) (ts : List Trm) (w : World) (h : Ts w v ts) (g : Ts w u ts) : Calls Try.prog 22 #[v, u] w (Same w true) := by
  have hv := h
  have hu := g
  obtain ⟨a, cap, rfl, hl, hm, hc⟩ := h
  obtain ⟨a', cap', rfl, hl', hm', hc'⟩ := g
  unfold maxLen at hm hm'
  clear hc hc'
  have q0 : ((ts.length : Int) != (ts.length : Int)) = false := by simp
  have hgd := fun (w : World) (op : BinOp) (x y : Operand) (xs ys : Array Value) => run_eqGuard_agg (P := Try.prog) w op 61 x y xs ys term_guard
  go_enter Try.func22, Try.ntmps22
  go_wp2_with fail
  go_loopw [5] (fun i wr => ∃ k : Nat, k ≤ ts.length ∧ i = .int .i64 k ∧ Below w.heap.size w wr) (fun i _ => ts.length - (intOf i).toNat)
  case atStart => exact ⟨0, Nat.zero_le _, rfl, Below.refl _ _⟩
  case round =>
    obtain ⟨k, hk, rfl, bel⟩ := hrel
    by_cases hlt : k < ts.length
    · obtain ⟨b, off, cp, e, _, _, hcell⟩ := (hv.below bel).form (by omega)
      simp only [Value.slice.injEq, true_and] at e
      obtain ⟨rfl, rfl⟩ := e
      obtain ⟨b', off', cp', e, _, _, hcell'⟩ := (hu.below bel).form (by omega)
      simp only [Value.slice.injEq, true_and] at e
      obtain ⟨rfl, rfl⟩ := e
      obtain ⟨x0, x1, x2⟩ := hcell k hlt
      obtain ⟨y0, y1, y2⟩ := hcell' k hlt
      obtain ⟨t, Ht⟩ : ∃ t, Hid (tAt ts k = t) := ⟨_, Lib.hid rfl⟩
      rw [Ht.out] at x0 x1 x2 y0 y1 y2
      have hne : ∀ w : World, (binOp .neq 61 (.agg #[.int .i64 t.num, .int .i64 t.first, .int .i64 t.third]) (.agg #[.int .i64 t.num, .int .i64 t.first, .int .i64 t.third])).run Try.prog w = .ok (.bool false) w := fun w => by rw [term_neq]; simp
      clear hcell hcell' Ht
      have i0 : (0 : Int) ≤ (k : Int) := by omega
      have i1 : (k : Int) < (ts.length : Int) := by omega
      go_wp2_with fail
      go_quiet (fail)
      go_wp2_with fail
      go_roundw
      case rel => exact ⟨k + 1, by omega, by go_num, below_drewN bel _⟩
      case measure => simp [intOf]; omega
    · go_wp2_with fail
      go_ret
      exact ⟨rfl, bel⟩
theorem OwnT.cells3 {w : World} {base g n cap : Nat} {ts : List Trm} (h : OwnT w base (.slice (some ⟨g, 0, none⟩) n cap) ts) (i : Nat) (hi : i < ts.length) :
    (w.cell? ⟨g, i * 3, none⟩ = some (.int .i64 (tAt ts i).num) ∧ w.cell? ⟨g, i * 3 + 1, none⟩ = some (.int .i64 (tAt ts i).first) ∧ w.cell? ⟨g, i * 3 + 2, none⟩ = some (.int .i64 (tAt ts i).third)) ∧
      w.frozen? ⟨g, i * 3, none⟩ = false ∧ w.frozen? ⟨g, i * 3 + 1, none⟩ = false ∧ w.frozen? ⟨g, i * 3 + 2, none⟩ = false := by
  have hn : n = ts.length := h.ts.sizes.1
  subst hn
  have h' : Row2 w base (.slice (some ⟨g, 0, none⟩) ts.length cap) ts.length (rowT ts) := h
  refine ⟨⟨?_, ?_, ?_⟩, h'.frozen _, h'.frozen _, h'.frozen _⟩
  · rw [h'.cell (i * 3) (by omega), rowT_0]
  · rw [h'.cell (i * 3 + 1) (by omega), rowT_1]
  · rw [h'.cell (i * 3 + 2) (by omega), rowT_2]
theorem OwnT.store3 {w : World} {base g n cap : Nat} {ts ss : List Trm} (h : OwnT w base (.slice (some ⟨g, 0, none⟩) n cap) ts) (i : Nat) (hi : i < ts.length) (x y z : Int) (hl : ss.length = ts.length)
    (hat : tAt ss i = ⟨x, y, z⟩) (hne : ∀ j, j < ts.length → j ≠ i → tAt ss j = tAt ts j) :
    OwnT (((w.setCell ⟨g, i * 3, none⟩ (.int .i64 x)).setCell ⟨g, i * 3 + 1, none⟩ (.int .i64 y)).setCell ⟨g, i * 3 + 2, none⟩ (.int .i64 z)) base (.slice (some ⟨g, 0, none⟩) n cap) ss ∧
      w.grownBy (((w.setCell ⟨g, i * 3, none⟩ (.int .i64 x)).setCell ⟨g, i * 3 + 1, none⟩ (.int .i64 y)).setCell ⟨g, i * 3 + 2, none⟩ (.int .i64 z)) (some g) := by
  have hn : n = ts.length := h.ts.sizes.1
  subst hn
  have h' : Row2 w base (.slice (some ⟨g, 0, none⟩) ts.length cap) ts.length (rowT ts) := h
  refine ⟨?_, grown_trans' (grown_trans' (cell_grown _ _ _ _) (cell_grown _ _ _ _)) (cell_grown _ _ _ _)⟩
  unfold OwnT
  rw [hl]
  refine (((h'.set (i * 3) (by omega) (.int .i64 x)).set (i * 3 + 1) (by omega) (.int .i64 y)).set (i * 3 + 2) (by omega) (.int .i64 z)).congr fun j hj => ?_
  by_cases e2 : j = i * 3 + 2
  · subst e2
    rw [if_pos rfl, rowT_2, hat]
  · rw [if_neg e2]
    by_cases e1 : j = i * 3 + 1
    · subst e1
      rw [if_pos rfl, rowT_1, hat]
    · rw [if_neg e1]
      by_cases e0 : j = i * 3
      · subst e0
        rw [if_pos rfl, rowT_0, hat]
      · rw [if_neg e0]
        exact (rowT_eq (hne (j / 3) (by omega) (by omega))).symm
/-- the marks k, k + 1 .. of n terms -/
def marksT (k : Int) (n : Nat) : List Trm := (List.range n).map fun i : Nat => ⟨k + 3 * (i : Int), k + 3 * (i : Int) + 1, k + 3 * (i : Int) + 2⟩
theorem marksT_len (k : Int) (n : Nat) : (marksT k n).length = n := by simp [marksT]
theorem marksT_at (k : Int) (n i : Nat) (h : i < n) : tAt (marksT k n) i = ⟨k + 3 * (i : Int), k + 3 * (i : Int) + 1, k + 3 * (i : Int) + 2⟩ := by simp [marksT, tAt, List.getD, h]
def MarkT (w : World) (base : Nat) (v : Value) (k : Int) (n : Nat) (e : Ending) (w' : World) : Prop :=
  e = .returned (.int .i64 (k + 3 * (n : Int))) ∧ OwnT w' base v (marksT k n) ∧ w.grownBy w' v.ownBlock
theorem laws_markProducerS (v : Value) (base : Nat) (ts : List Trm) (k : Int) (w : World) (h : OwnT w base v ts) (hk0 : 0 ≤ k) (hk1 : k ≤ 1000000000000) (hs : ts.length ≤ 1000000000000) :
    Calls Try.prog 16 #[v, .int .i64 k] w (MarkT w base v k ts.length) := by
  have hs0 := World.grownBy.refl w v.ownBlock
  obtain ⟨a, cap, rfl, hl, hm, _⟩ := h.ts
  unfold maxLen at hm
  rcases Nat.eq_zero_or_pos ts.length with h0 | h0
  · have e : ts = [] := List.eq_nil_of_length_eq_zero h0
    subst e
    go_enter Try.func16, Try.ntmps16
    go_wp2_with fail
    refine wp_loop_rounds 1 ?_
    rw [rounds_succ]
    go_wp2_with fail
    go_ret
    exact ⟨ret_int (by simp), h, hs0⟩
  · obtain ⟨g, cap', e⟩ := h.form h0
    simp only [Value.slice.injEq, true_and] at e
    obtain ⟨rfl, rfl⟩ := e
    have Hlen : Hid (∀ j, j ≤ ts.length → (marksT k j ++ ts.drop j).length = ts.length) := Lib.hid fun j hj => by simp [marksT_len]; omega
    clear hs0
    go_enter Try.func16, Try.ntmps16
    go_wp2_with fail
    go_loopw [1, 5] (fun q i wr => ∃ j : Nat, j ≤ ts.length ∧ i = .int .i64 j ∧ q = .int .i64 (k + 3 * (j : Int)) ∧ OwnT wr base (.slice (some ⟨g, 0, none⟩) ts.length cap) (marksT k j ++ ts.drop j) ∧ w.grownBy wr (some g)) (fun _ i _ => ts.length - (intOf i).toNat)
    case atStart => exact ⟨0, Nat.zero_le _, rfl, by simp, by simpa [marksT] using h, World.grownBy.refl _ _⟩
    case round =>
      obtain ⟨j, hj, rfl, rfl, hown, hgr⟩ := hrel
      by_cases hlt : j < ts.length
      · have hL := Hlen.out j hj
        have hL2 := Hlen.out (j + 1) hlt
        obtain ⟨⟨c0, c1, c2⟩, f0, f1, f2⟩ := hown.cells3 j (by omega)
        have st := hown.store3 (ss := marksT k (j + 1) ++ ts.drop (j + 1)) j (by omega) (k + 3 * (j : Int)) (k + 3 * (j : Int) + 1) (k + 3 * (j : Int) + 2) (by omega)
          (by rw [tAt_app1 (by rw [marksT_len]; omega), marksT_at k (j + 1) j (by omega)])
          (fun i hi hne => by
            rw [hL] at hi
            by_cases q : i < j
            · rw [tAt_app1 (by rw [marksT_len]; omega), tAt_app1 (by rw [marksT_len]; omega), marksT_at k (j + 1) i (by omega), marksT_at k j i q]
            · have e1 : tAt (marksT k (j + 1) ++ ts.drop (j + 1)) i = tAt ts i := by
                unfold tAt List.getD
                rw [List.getElem?_append_right (by rw [marksT_len]; omega), marksT_len, List.getElem?_drop, show j + 1 + (i - (j + 1)) = i by omega]
              have e2 : tAt (marksT k j ++ ts.drop j) i = tAt ts i := by
                unfold tAt List.getD
                rw [List.getElem?_append_right (by rw [marksT_len]; omega), marksT_len, List.getElem?_drop, show j + (i - j) = i by omega]
              rw [e1, e2])
        obtain ⟨old0, o0⟩ : ∃ x, wr.cell? ⟨g, j * 3, none⟩ = some x := ⟨_, c0⟩
        obtain ⟨old1, o1⟩ : ∃ x, wr.cell? ⟨g, j * 3 + 1, none⟩ = some x := ⟨_, c1⟩
        obtain ⟨old2, o2⟩ : ∃ x, wr.cell? ⟨g, j * 3 + 2, none⟩ = some x := ⟨_, c2⟩
        have G := grown_trans' hgr st.2
        have N := st.1
        rw [show k + 3 * (j : Int) + 2 = k + 3 * (j : Int) + 1 + 1 by omega] at N G
        clear c0 c1 c2 st hL hL2 hown hgr
        go_wp2_with fail
        go_roundw
        case rel => exact ⟨j + 1, by omega, by go_num, by go_num, N, G⟩
        case measure => simp [intOf]; omega
      · obtain rfl : j = ts.length := by omega
        rw [List.drop_length, List.append_nil] at hown
        go_wp2_with fail
        go_ret
        exact ⟨rfl, hown, hgr⟩
theorem laws_heldProducerS (v : Value) (k : Int) (n : Nat) (w : World) (h : Ts w v (marksT k n)) (hk0 : 0 ≤ k) (hk1 : k ≤ 1000000000000) (hs : n ≤ 1000000000000) :
    Calls Try.prog 18 #[v, .int .i64 k] w fun e w' => e = .returned (.int .i64 (k + 3 * (n : Int))) ∧ w = w' := by
  obtain ⟨a, cap, rfl, hl, hm, hc⟩ := h
  rw [marksT_len] at hl hc ⊢
  unfold maxLen at hm
  have hc' := Lib.hid hc
  clear hc
  go_enter Try.func18, Try.ntmps18
  go_wp2_with fail
  go_loop [1, 5] (fun q i => ∃ j : Nat, j ≤ n ∧ i = .int .i64 j ∧ q = .int .i64 (k + 3 * (j : Int))) (fun _ i => n - (intOf i).toNat)
  case atStart => exact ⟨0, Nat.zero_le _, rfl, by simp⟩
  case round =>
    obtain ⟨j, hj, rfl, rfl⟩ := hrel
    by_cases hlt : j < n
    · obtain ⟨b, off, rfl, hcell⟩ := hc'.out (by omega)
      obtain ⟨x0, x1, x2⟩ := hcell j hlt
      clear hcell
      rw [marksT_at k n j hlt] at x0 x1 x2
      simp only at x0 x1 x2
      have q0 : (k + 3 * (j : Int) != k + 3 * (j : Int)) = false := by simp
      have q1 : (k + 3 * (j : Int) + 1 != k + 3 * (j : Int) + 1) = false := by simp
      have q2 : (k + 3 * (j : Int) + 2 != k + 3 * (j : Int) + 1 + 1) = false := by rw [bne_eq_false_iff_eq]; omega
      go_wp2_with fail
      go_round
      case rel => exact ⟨j + 1, by omega, by go_num, by go_num⟩
      case measure => simp [intOf]; omega
    · obtain rfl : j = n := by omega
      go_wp2_with fail
      go_ret
      exact ⟨rfl, rfl⟩
end Go.Proofs.Ytfapeppocfodpaa
