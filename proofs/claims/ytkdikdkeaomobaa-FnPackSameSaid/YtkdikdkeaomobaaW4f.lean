/- Chapter 4: how far two places match; the three bytes at a place. -/
import Derived.Test.YtkdikdkeaomobaaW4d
import Derived.StillTailTactics
namespace Go.Proofs.Ytkdikdkeaomobaa
open Go.ChangeShapes Go.WideShapes Go.ChangeAt Go.RowKit
set_option linter.unusedVariables false

theorem impl_matchSize (v : Value) (xs : List Int) (p j : Nat) (w : World) (h : Ints w v xs) (hp : p < j) (hj : j ≤ xs.length) (hl : xs.length ≤ 1000) :
    Calls Try.prog 41 #[v, .int .i64 (p : Int), .int .i64 (j : Int)] w (SaysN (mlen xs 66 p j : Nat) w) := by
  obtain ⟨a, cap, rfl, l1, m1, c0⟩ := h
  unfold maxLen at m1
  have HC := Lib.hid c0
  clear c0
  obtain ⟨M, hM⟩ : ∃ M, xs.length - j = M := ⟨_, rfl⟩
  have hml : j + M = xs.length := by omega
  have s0 : IntKind.i64.wrap ((xs.length : Int) - (j : Int)) = (M : Int) := by rw [IntWalk.i64_in _ ⟨by omega, by omega⟩]; omega
  clear hM
  by_cases h66 : M < 66
  · have hm1 : M ≤ 66 := by omega
    have hm2 : j + M ≤ xs.length := by omega
    have hm3 : Hid (M = 66 ∨ j + M = xs.length) := Lib.hid (by omega)
    go_enter Try.func41, Try.ntmps41
    go_wp2
    go_loopw [15] (fun i wr => ∃ n : Nat, i = .int .i64 n ∧ n ≤ M ∧ Hid (∀ k, k < n → j + k < xs.length ∧ xs.getD (p + k) 0 = xs.getD (j + k) 0) ∧ Below w.heap.size w wr) (fun i _ => M - (intOf i).toNat)
    case atStart => exact ⟨0, rfl, by omega, Lib.hid fun k hk => by omega, Below.refl _ _⟩
    case round =>
      obtain ⟨n, rfl, hn, hrun, hbel⟩ := hrel
      by_cases h1 : n < M
      · have d1 : decide ((n : Int) < (M : Int)) = true := decide_eq_true (by omega)
        obtain ⟨b, off, rfl, hcell⟩ := HC.out (by omega)
        have hx := (hbel.cell (World.block_lt_of_cell? w _ (hcell (j + n) (by omega)))).trans (hcell (j + n) (by omega))
        have hy := (hbel.cell (World.block_lt_of_cell? w _ (hcell (p + n) (by omega)))).trans (hcell (p + n) (by omega))
        obtain ⟨x, ex⟩ : ∃ x, xs.getD (j + n) 0 = x := ⟨_, rfl⟩
        obtain ⟨y, ey⟩ : ∃ y, xs.getD (p + n) 0 = y := ⟨_, rfl⟩
        rw [ex] at hx
        rw [ey] at hy
        have s1 : IntKind.i64.wrap ((j : Int) + (n : Int)) = (j : Int) + (n : Int) := IntWalk.i64_in _ ⟨by omega, by omega⟩
        have s2 : IntKind.i64.wrap ((p : Int) + (n : Int)) = (p : Int) + (n : Int) := IntWalk.i64_in _ ⟨by omega, by omega⟩
        have n1 : ((j : Int) + (n : Int)).toNat = j + n := by omega
        have n2 : ((p : Int) + (n : Int)).toNat = p + n := by omega
        have i0 : (0 : Int) ≤ (j : Int) + (n : Int) := by omega
        have i1 : (0 : Int) ≤ (p : Int) + (n : Int) := by omega
        have i2 : (p : Int) + (n : Int) < (xs.length : Int) := by omega
        have i3 : (j : Int) + (n : Int) < (xs.length : Int) := by omega
        have h4 : j + n < xs.length := by omega
        have Ex := Lib.hid ex
        have Ey := Lib.hid ey
        clear hcell ex ey
        by_cases hxy : y = x
        · have d3 : (y == x) = true := by rw [beq_iff_eq]; exact hxy
          have H1 : Hid (∀ k, k < n + 1 → j + k < xs.length ∧ xs.getD (p + k) 0 = xs.getD (j + k) 0) := Lib.hid fun k hk => by
            by_cases e : k = n
            · subst e; exact ⟨h4, by rw [Ex.out, Ey.out, hxy]⟩
            · exact hrun.out k (by omega)
          clear hxy
          go_wp2
          go_quiet (fail)
          go_wp2
          go_roundw
          case rel => exact ⟨n + 1, by go_num, by omega, H1, below_drewN hbel _⟩
          case measure => simp [intOf]; omega
        · have d3 : (y == x) = false := by rw [beq_eq_false_iff_ne]; exact hxy
          have e : mlen xs 66 p j = n := mlen_eq (by omega) hrun.out (.inr (fun hh => hxy (by have h2 := hh.2; rw [Ey.out, Ex.out] at h2; exact h2)))
          have E := Lib.hid e
          clear hxy e
          go_wp2
          go_quiet (fail)
          go_wp2
          go_ret
          rw [E.out]
          exact ⟨rfl, below_drewN hbel _⟩
      · have d1 : decide ((n : Int) < (M : Int)) = false := decide_eq_false (by omega)
        obtain rfl : n = M := by omega
        have e : mlen xs 66 p j = n := mlen_eq (by omega) hrun.out (hm3.out.imp id fun q hh => by omega)
        have E := Lib.hid e
        clear e
        go_wp2
        go_ret
        rw [E.out]
        exact ⟨rfl, hbel⟩
  · have hm1 : 66 ≤ 66 := by omega
    have hm2 : j + 66 ≤ xs.length := by omega
    have hm3 : Hid (66 = 66 ∨ j + 66 = xs.length) := Lib.hid (by omega)
    go_enter Try.func41, Try.ntmps41
    go_wp2
    go_loopw [15] (fun i wr => ∃ n : Nat, i = .int .i64 n ∧ n ≤ 66 ∧ Hid (∀ k, k < n → j + k < xs.length ∧ xs.getD (p + k) 0 = xs.getD (j + k) 0) ∧ Below w.heap.size w wr) (fun i _ => 66 - (intOf i).toNat)
    case atStart => exact ⟨0, rfl, by omega, Lib.hid fun k hk => by omega, Below.refl _ _⟩
    case round =>
      obtain ⟨n, rfl, hn, hrun, hbel⟩ := hrel
      by_cases h1 : n < 66
      · have d1 : decide ((n : Int) < 66) = true := decide_eq_true (by omega)
        obtain ⟨b, off, rfl, hcell⟩ := HC.out (by omega)
        have hx := (hbel.cell (World.block_lt_of_cell? w _ (hcell (j + n) (by omega)))).trans (hcell (j + n) (by omega))
        have hy := (hbel.cell (World.block_lt_of_cell? w _ (hcell (p + n) (by omega)))).trans (hcell (p + n) (by omega))
        obtain ⟨x, ex⟩ : ∃ x, xs.getD (j + n) 0 = x := ⟨_, rfl⟩
        obtain ⟨y, ey⟩ : ∃ y, xs.getD (p + n) 0 = y := ⟨_, rfl⟩
        rw [ex] at hx
        rw [ey] at hy
        have s1 : IntKind.i64.wrap ((j : Int) + (n : Int)) = (j : Int) + (n : Int) := IntWalk.i64_in _ ⟨by omega, by omega⟩
        have s2 : IntKind.i64.wrap ((p : Int) + (n : Int)) = (p : Int) + (n : Int) := IntWalk.i64_in _ ⟨by omega, by omega⟩
        have n1 : ((j : Int) + (n : Int)).toNat = j + n := by omega
        have n2 : ((p : Int) + (n : Int)).toNat = p + n := by omega
        have i0 : (0 : Int) ≤ (j : Int) + (n : Int) := by omega
        have i1 : (0 : Int) ≤ (p : Int) + (n : Int) := by omega
        have i2 : (p : Int) + (n : Int) < (xs.length : Int) := by omega
        have i3 : (j : Int) + (n : Int) < (xs.length : Int) := by omega
        have h4 : j + n < xs.length := by omega
        have Ex := Lib.hid ex
        have Ey := Lib.hid ey
        clear hcell ex ey
        by_cases hxy : y = x
        · have d3 : (y == x) = true := by rw [beq_iff_eq]; exact hxy
          have H1 : Hid (∀ k, k < n + 1 → j + k < xs.length ∧ xs.getD (p + k) 0 = xs.getD (j + k) 0) := Lib.hid fun k hk => by
            by_cases e : k = n
            · subst e; exact ⟨h4, by rw [Ex.out, Ey.out, hxy]⟩
            · exact hrun.out k (by omega)
          clear hxy
          go_wp2
          go_quiet (fail)
          go_wp2
          go_roundw
          case rel => exact ⟨n + 1, by go_num, by omega, H1, below_drewN hbel _⟩
          case measure => simp [intOf]; omega
        · have d3 : (y == x) = false := by rw [beq_eq_false_iff_ne]; exact hxy
          have e : mlen xs 66 p j = n := mlen_eq (by omega) hrun.out (.inr (fun hh => hxy (by have h2 := hh.2; rw [Ey.out, Ex.out] at h2; exact h2)))
          have E := Lib.hid e
          clear hxy e
          go_wp2
          go_quiet (fail)
          go_wp2
          go_ret
          rw [E.out]
          exact ⟨rfl, below_drewN hbel _⟩
      · have d1 : decide ((n : Int) < 66) = false := decide_eq_false (by omega)
        have hn66 : n = 66 := by omega
        have e : mlen xs 66 p j = n := mlen_eq (by omega) hrun.out (.inl (by omega))
        have E := Lib.hid e
        have Hn := Lib.hid hn66
        clear e hn66
        go_wp2
        go_ret
        rw [E.out, Hn.out]
        exact ⟨rfl, hbel⟩
/-- three bytes in a row, as a key -/
def trip (xs : List Int) (q : Nat) : Value := .agg #[.int .i64 (xs.getD q 0), .int .i64 (xs.getD (q + 1) 0), .int .i64 (xs.getD (q + 2) 0)]
theorem impl_tripleAt (v : Value) (xs : List Int) (j : Nat) (w : World) (h : Ints w v xs) (hj : j + 3 ≤ xs.length) (hl : xs.length ≤ 1000) :
    Calls Try.prog 40 #[v, .int .i64 (j : Int)] w (fun e w' => e = .returned (trip xs j) ∧ Below w.heap.size w w') := by
  obtain ⟨a, cap, rfl, l1, m1, c0⟩ := h
  unfold maxLen at m1
  obtain ⟨b, off, rfl, hcell⟩ := c0 (by omega)
  have hx := hcell j (by omega)
  have hy := hcell (j + 1) (by omega)
  have hz := hcell (j + 2) (by omega)
  unfold trip
  obtain ⟨x, ex⟩ : ∃ x, xs.getD j 0 = x := ⟨_, rfl⟩
  obtain ⟨y, ey⟩ : ∃ y, xs.getD (j + 1) 0 = y := ⟨_, rfl⟩
  obtain ⟨z, ez⟩ : ∃ z, xs.getD (j + 2) 0 = z := ⟨_, rfl⟩
  rw [ex] at hx ⊢
  rw [ey] at hy ⊢
  rw [ez] at hz ⊢
  have hb := World.block_lt_of_cell? w _ hx
  have s1 : IntKind.i64.wrap ((j : Int) + 1) = (j : Int) + 1 := IntWalk.i64_in _ ⟨by omega, by omega⟩
  have s2 : IntKind.i64.wrap ((j : Int) + 2) = (j : Int) + 2 := IntWalk.i64_in _ ⟨by omega, by omega⟩
  have n1 : ((j : Int) + 1).toNat = j + 1 := by omega
  have n2 : ((j : Int) + 2).toNat = j + 2 := by omega
  have i0 : (0 : Int) ≤ (j : Int) + 1 := by omega
  have i1 : (0 : Int) ≤ (j : Int) + 2 := by omega
  have i2 : (j : Int) + 1 < (xs.length : Int) := by omega
  have i3 : (j : Int) + 2 < (xs.length : Int) := by omega
  have i4 : (j : Int) < (xs.length : Int) := by omega
  clear hcell ex ey ez c0
  have bel := alloc_below' w (.cells #[.int .i64 0, .int .i64 0, .int .i64 0] 48)
  have bk := Blk.made w #[.int .i64 0, .int .i64 0, .int .i64 0] 48
  have hx1 := (bel.cell hb).trans hx
  have hy1 := (bel.cell (World.block_lt_of_cell? w _ hy)).trans hy
  have hz1 := (bel.cell (World.block_lt_of_cell? w _ hz)).trans hz
  have hlt := bk.lt
  have c0 := bk.cell 0
  have c1 := bk.cell 1
  have c2 := bk.cell 2
  have f0 := bk.free 0
  have f1 := bk.free 1
  have f2 := bk.free 2
  go_enter Try.func40, Try.ntmps40
  go_upto_region 1 with (fail)
  generalize hW : w.alloc (.cells #[.int .i64 0, .int .i64 0, .int .i64 0] 48) = w1 at bel bk hx1 hy1 hz1 hlt c0 c1 c2 f0 f1 f2 ⊢
  clear hW hx hy hz
  go_still_tail 15, (by kernel_rfl)
  change wpList _ _ _ _ _ (World.drew _)
  have bel2 : Below w.heap.size w w1.drew := Bstep bel (below_drewN (Below.refl _ _) 1)
  have bk2 : Blk w1.drew w.heap.size #[.int .i64 0, .int .i64 0, .int .i64 0] := bk.drew 1
  generalize w1.drew = w2 at bel2 bk2 ⊢
  clear c0 c1 c2 f0 f1 f2 hx1 hy1 hz1 bk bel
  have c0 := bk2.cell 0
  have c1 := bk2.cell 1
  have c2 := bk2.cell 2
  have f0 := bk2.free 0
  have f1 := bk2.free 1
  have f2 := bk2.free 2
  go_wp2
  have k3 := ((bk2.set 0 (.int .i64 x)).set 1 (.int .i64 y)).set 2 (.int .i64 z)
  have bel3 : Below w.heap.size w (((w2.setCell ⟨w.heap.size, 0, none⟩ (.int .i64 x)).setCell ⟨w.heap.size, 1, none⟩ (.int .i64 y)).setCell ⟨w.heap.size, 2, none⟩ (.int .i64 z)) := ((bel2.setCell (Nat.le_refl _) _).setCell (Nat.le_refl _) _).setCell (Nat.le_refl _) _
  generalize ((w2.setCell ⟨w.heap.size, 0, none⟩ (.int .i64 x)).setCell ⟨w.heap.size, 1, none⟩ (.int .i64 y)).setCell ⟨w.heap.size, 2, none⟩ (.int .i64 z) = W3 at k3 bel3 ⊢
  have d0 : W3.cell? ⟨w.heap.size, 0, none⟩ = some (.int .i64 x) := (k3.cell 0).trans (by simp)
  have d1 : W3.cell? ⟨w.heap.size, 1, none⟩ = some (.int .i64 y) := (k3.cell 1).trans (by simp)
  have d2 : W3.cell? ⟨w.heap.size, 2, none⟩ = some (.int .i64 z) := (k3.cell 2).trans (by simp)
  exact bodyPost_ret (v := .agg #[.int .i64 x, .int .i64 y, .int .i64 z]) (by simp [results, Try.results40, go_sem, d0, d1, d2]) rfl ⟨rfl, bel3⟩
end Go.Proofs.Ytkdikdkeaomobaa
