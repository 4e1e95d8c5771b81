/- Merged: B1 W4 W4c W4d W4f W4e M0 M1 W4g P4d W4h W4j W4i. -/
import Derived.Test.YtfapeppocfodpaaA1
import Derived.Test.YtfapeppocfodpaaB0
import Derived.Test.YtfapeppocfodpaaPX3
import Derived.Test.YtfapeppocfodpaaS0
import Derived.Deep.Cut
import Derived.Deep.RegionLaw
import Derived.StillTailTactics
import Derived.Maps.AppendAt
import Derived.WideKeyArr
import Derived.WideKeyEntry
import Derived.Maps.GroupsBeside
namespace Go.Proofs.Ytfapeppocfodpaa
open Go.ChangeShapes Go.WideShapes Go.ChangeAt Go.RowKit Go.WideMaps Go.WideElems Go.ChangeMaps
set_option linter.unusedVariables false
set_option maxRecDepth 100000

-- B1

theorem Ints.part {w : World} {a : Option Addr} {n cap : Nat} {xs : List Int} (h : Ints w (.slice a n cap) xs) (k m : Nat) (hkm : k + m ≤ n) : Ints w (.slice (if cap = k then a else a.map (·.add (k * 1))) (k + m - k) (cap - k)) ((xs.drop k).take m) := by
  obtain ⟨rfl, hl, hm⟩ := h.sizes
  have hlen : ((xs.drop k).take m).length = m := by rw [List.length_take, List.length_drop]; omega
  rw [Nat.add_sub_cancel_left]
  by_cases hm0 : m = 0
  · subst hm0
    rw [List.take_zero]
    exact Ints.empty _ _ _ (by omega)
  · obtain ⟨a', cap', e, _, _, hc⟩ := h
    simp only [Value.slice.injEq] at e
    obtain ⟨rfl, _, rfl⟩ := e
    obtain ⟨b, off, rfl, hcell⟩ := hc (by omega)
    rw [if_neg (by omega)]
    have h2 : Ints w (.slice (some ⟨b, off, none⟩) xs.length cap) xs := ⟨_, cap, rfl, hl, hm, fun _ => ⟨b, off, rfl, hcell⟩⟩
    have h3 := (h2.drop' k (by omega)).take m (by omega)
    by_cases hk0 : k = 0
    · subst hk0; simpa [Addr.add] using h3
    · simpa [Addr.add, hk0] using h3
/-- 's[k:k+m]' -/
theorem run_part {w : World} {a : Option Addr} {n cap : Nat} {xs : List Int} (h : Ints w (.slice a n cap) xs) (k m : Nat) (hkm : k + m ≤ n) :
    ∃ u, (∀ W, (Instr.slice 25 (.slice a n cap) (some (.int .i64 (k : Int))) (some (.int .i64 ((k : Int) + (m : Int)))) none).run Try.prog W = .ok u W) ∧ ∀ W, Ints W (.slice a n cap) xs → Ints W u ((xs.drop k).take m) := by
  obtain ⟨_, hl, hm⟩ := h.sizes
  refine ⟨_, fun W => ?_, fun W hW => hW.part k m hkm⟩
  simp [Instr.slice, run_underlying Try.underlying25, Instr.sliceBounds, Instr.sliceBound, asIntOf]
  rw [if_pos (by omega), if_pos (by omega), show ((k : Int) + (m : Int)).toNat - k = m by omega]

/-- 's[k:]' -/
theorem Ints.from' {w : World} {a : Option Addr} {n cap : Nat} {xs : List Int} (h : Ints w (.slice a n cap) xs) (k : Nat) (hk : k ≤ n) : Ints w (.slice (if cap = k then a else a.map (·.add (k * 1))) (n - k) (cap - k)) (xs.drop k) := by
  have h1 := h.part k (n - k) (by omega)
  obtain ⟨hn, _, _⟩ := h.sizes
  rw [List.take_of_length_le (by rw [List.length_drop]; omega), show k + (n - k) - k = n - k by omega] at h1
  exact h1
theorem run_from {w : World} {a : Option Addr} {n cap : Nat} {xs : List Int} (h : Ints w (.slice a n cap) xs) (k : Nat) (hk : k ≤ n) :
    ∃ a2 cap2, (∀ W, (Instr.slice 25 (.slice a n cap) (some (.int .i64 (k : Int))) none none).run Try.prog W = .ok (.slice a2 (n - k) cap2) W) ∧ ∀ W, Ints W (.slice a n cap) xs → Ints W (.slice a2 (n - k) cap2) (xs.drop k) := by
  obtain ⟨_, hl, hm⟩ := h.sizes
  refine ⟨_, _, fun W => ?_, fun W hW => hW.from' k hk⟩
  simp [Instr.slice, run_underlying Try.underlying25, Instr.sliceBounds, Instr.sliceBound, asIntOf]
  omega
theorem Ints.cons2 {w : World} {v : Value} {x : Int} {xs : List Int} (h : Ints w v (x :: xs)) : ∃ b off cap, v = .slice (some ⟨b, off, none⟩) (xs.length + 1) cap ∧ xs.length + 1 ≤ cap ∧ cap ≤ maxLen ∧
    ∀ i, i < xs.length + 1 → w.cell? ⟨b, off + i, none⟩ = some (.int .i64 ((x :: xs).getD i 0)) := by
  obtain ⟨a, cap, rfl, hl, hm, hc⟩ := h
  obtain ⟨b, off, rfl, hcell⟩ := hc (by simp)
  exact ⟨b, off, cap, rfl, by simpa using hl, hm, by simpa using hcell⟩
-- W4


/-- the first piece of a form: what has come with it, and how many bytes it has -/
def pieceP (form out : List Int) : Option (List Int × Nat) :=
  match form with
  | [] => none
  | x :: rest =>
    if x < 64 then (if rest.length < x.toNat + 1 then none else some (out ++ rest.take (x.toNat + 1), x.toNat + 2))
    else if x < 128 then
      (match rest with
       | [] => none
       | y :: _ => if y < 1 then none else if (out.length : Int) < y then none else some (repF (x - 61).toNat out y.toNat, 2))
    else none
theorem unpackG_piece {form out : List Int} (h : form ≠ []) : unpackG form out = match pieceP form out with
    | none => none
    | some (out2, k) => if 200 < out2.length then none else unpackG (form.drop k) out2 := by
  cases form with
  | nil => exact absurd rfl h
  | cons x rest =>
    unfold pieceP
    conv => lhs; unfold unpackG; rw [List.length_cons]; unfold unpackF
    simp only
    split
    · split
      · rfl
      · simp only
        split
        · rfl
        · exact unpackF_more _ _ _ _ (by rw [List.length_drop]; omega) (by rw [List.drop_succ_cons]; exact Nat.le_refl _)
    · split
      · cases rest with
        | nil => rfl
        | cons y rest2 =>
          simp only
          split
          · rfl
          · split
            · rfl
            · simp only [repF_len]
              split
              · rfl
              · exact unpackF_more _ _ _ _ (by simp) (Nat.le_refl _)
      · rfl
theorem pieceP_size {form out out2 : List Int} {k : Nat} (h : pieceP form out = some (out2, k)) (hok : okBs form = true) : 2 ≤ k ∧ k ≤ form.length ∧ out2.length ≤ out.length + 66 ∧ k ≤ 300 := by
  unfold pieceP at h
  split at h
  · cases h
  · rename_i x rest
    have hx := (okB_cons.1 hok).1
    split at h
    · split at h
      · cases h
      · simp only [Option.some.injEq, Prod.mk.injEq] at h
        obtain ⟨rfl, rfl⟩ := h
        simp only [List.length_append, List.length_take, List.length_cons]
        omega
    · split at h
      · split at h
        · cases h
        · split at h
          · cases h
          · split at h
            · cases h
            · simp only [Option.some.injEq, Prod.mk.injEq] at h
              obtain ⟨rfl, rfl⟩ := h
              rw [repF_len]
              simp only [List.length_cons]
              omega
      · cases h
def PieceRes (w : World) (base : Nat) (v : Value) (g : Option (List Int × Nat)) (e : Ending) (w' : World) : Prop :=
  match g with
  | none => e = .returned (.tuple #[v, .int .i64 0]) ∧ w = w'
  | some (ys, k) => ∃ u, e = .returned (.tuple #[u, .int .i64 (k : Int)]) ∧ Own w' base u ys ∧ Below base w w'

/-- what unpacking answers -/
def unpI (form : List Int) : List Int := (unpackP form).getD []
def unpB (form : List Int) : Bool := okBs form && (unpackP form).isSome
def unpL (form : List Int) : List Int := if okBs form = true then unpI form else []
/-- a function that reads numbers and answers one -/
def SaysN (n : Int) (w : World) (e : Ending) (w' : World) : Prop := e = .returned (.int .i64 n) ∧ Below w.heap.size w w'

theorem spec_l4Long (v : Value) (xs : List Int) (j back : Nat) (w : World) (h : Ints w v xs) (hb1 : 1 ≤ back) (hb2 : back ≤ j) (hj : j ≤ 1000) (hl : xs.length ≤ 1000) :
    Calls Try.prog 96 #[v, .int .i64 (j : Int), .int .i64 (back : Int)] w (SaysN (mlen xs 66 (j - back) j : Nat) w) := by
  obtain ⟨a, cap, rfl, l1, m1, c0⟩ := h
  unfold maxLen at m1
  have HC := Lib.hid c0
  clear c0
  go_enter Try.func96, Try.ntmps96
  go_wp2
  go_loopw [7] (fun i wr => ∃ n : Nat, i = .int .i64 n ∧ n ≤ 66 ∧ Hid (∀ k, k < n → j + k < xs.length ∧ xs.getD (j - back + k) 0 = xs.getD (j + k) 0) ∧ Below w.heap.size w wr) (fun i _ => 66 - (intOf i).toNat)
  case atStart => exact ⟨0, rfl, by omega, Lib.hid fun k hk => by omega, Below.refl _ _⟩
  case round =>
    obtain ⟨n, rfl, hn, hrun, hbel⟩ := hrel
    have s1 : IntKind.i64.wrap ((j : Int) + (n : Int)) = (j : Int) + (n : Int) := IntWalk.i64_in _ ⟨by omega, by omega⟩
    by_cases h1 : j + n < xs.length
    · have d1 : decide ((j : Int) + (n : Int) < (xs.length : Int)) = true := decide_eq_true (by omega)
      by_cases h2 : n < 66
      · have d2 : decide ((n : Int) < 66) = true := decide_eq_true (by omega)
        obtain ⟨b, off, rfl, hcell⟩ := HC.out (by omega)
        have hx := (hbel.cell (World.block_lt_of_cell? w _ (hcell (j + n) h1))).trans (hcell (j + n) h1)
        have hy := (hbel.cell (World.block_lt_of_cell? w _ (hcell (j - back + n) (by omega)))).trans (hcell (j - back + n) (by omega))
        obtain ⟨q, hq⟩ : ∃ q, j - back + n = q := ⟨_, rfl⟩
        obtain ⟨x, ex⟩ : ∃ x, xs.getD (j + n) 0 = x := ⟨_, rfl⟩
        obtain ⟨y, ey⟩ : ∃ y, xs.getD (j - back + n) 0 = y := ⟨_, rfl⟩
        rw [ex] at hx
        rw [ey] at hy
        rw [hq] at hy ey
        have s2 : IntKind.i64.wrap ((j : Int) + (n : Int) - (back : Int)) = (q : Int) := by rw [IntWalk.i64_in _ ⟨by omega, by omega⟩]; omega
        have n1 : ((j : Int) + (n : Int)).toNat = j + n := by omega
        have i0 : (0 : Int) ≤ (j : Int) + (n : Int) := by omega
        have i1 : (0 : Int) ≤ (q : Int) := by omega
        have i2 : (q : Int) < (xs.length : Int) := by omega
        have i3 : (j : Int) + (n : Int) < (xs.length : Int) := by omega
        have Ex := Lib.hid ex
        have Ey := Lib.hid ey
        have Hq := Lib.hid hq
        clear hcell ex ey hq
        by_cases hxy : x = y
        · have d3 : (x == y) = true := by rw [beq_iff_eq]; exact hxy
          have H1 : Hid (∀ k, k < n + 1 → j + k < xs.length ∧ xs.getD (j - back + k) 0 = xs.getD (j + k) 0) := Lib.hid fun k hk => by
            by_cases e : k = n
            · subst e; rw [Hq.out]; exact ⟨h1, by rw [Ex.out, Ey.out, hxy]⟩
            · exact hrun.out k (by omega)
          clear hxy
          go_wp2
          go_quiet (fail)
          go_wp2
          go_roundw
          case rel => exact ⟨n + 1, by go_num, by omega, H1, below_drewN hbel _⟩
          case measure => simp [intOf]; omega
        · have d3 : (x == y) = false := by rw [beq_eq_false_iff_ne]; exact hxy
          have e : mlen xs 66 (j - back) j = n := mlen_eq hn hrun.out (.inr (fun hh => hxy (by have h2 := hh.2; rw [Hq.out, Ey.out, Ex.out] at h2; exact h2.symm)))
          have E := Lib.hid e
          clear hxy e
          go_wp2
          go_quiet (fail)
          go_wp2
          go_ret
          rw [E.out]
          exact ⟨rfl, below_drewN hbel _⟩
      · have d2 : decide ((n : Int) < 66) = false := decide_eq_false (by omega)
        have e : mlen xs 66 (j - back) j = n := mlen_eq hn hrun.out (.inl (by omega))
        have E := Lib.hid e
        clear e
        go_wp2
        go_quiet (fail)
        go_wp2
        go_ret
        rw [E.out]
        exact ⟨rfl, below_drewN hbel _⟩
    · have d1 : decide ((j : Int) + (n : Int) < (xs.length : Int)) = false := decide_eq_false (by omega)
      have e : mlen xs 66 (j - back) j = n := mlen_eq hn hrun.out (.inr (fun hh => h1 hh.1))
      have E := Lib.hid e
      clear e
      go_wp2
      go_quiet (fail)
      go_wp2
      go_ret
      rw [E.out]
      exact ⟨rfl, below_drewN hbel _⟩

def BestRes (g : Nat × Nat) (w : World) (e : Ending) (w' : World) : Prop := e = .returned (.tuple #[.int .i64 (g.1 : Nat), .int .i64 (g.2 : Nat)]) ∧ Below w.heap.size w w'
theorem spec_l4Best (v : Value) (xs : List Int) (j : Nat) (w : World) (h : Ints w v xs) (hj : j ≤ 200) (hl : xs.length ≤ 1000) :
    Calls Try.prog 88 #[v, .int .i64 (j : Int)] w (BestRes (bestB xs j (min j 200)) w) := by
  have C1 : Hid (∀ wn (b : Nat), 1 ≤ b → b ≤ j → Below w.heap.size w wn → Calls Try.prog 96 #[v, .int .i64 (j : Int), .int .i64 (b : Int)] wn (SaysN (mlen xs 66 (j - b) j : Nat) wn)) := fun wn b h1 h2 hw => spec_l4Long v xs j b wn (h.below hw) h1 h2 (by omega) hl
  rw [show min j 200 = j by omega]
  have hM2 : min (j : Int) 200 = (j : Int) := by omega
  clear h
  go_enter Try.func88, Try.ntmps88
  go_wp2
  go_loopw [6, 7, 8] (fun bs lg i wr => ∃ b : Nat, i = .int .i64 ((b : Int) + 1) ∧ b ≤ j ∧ lg = .int .i64 ((bestB xs j b).1 : Nat) ∧ bs = .int .i64 ((bestB xs j b).2 : Nat) ∧ Below w.heap.size w wr) (fun _ _ i _ => j + 1 - (intOf i).toNat)
  case atStart => exact ⟨0, by go_num, by omega, rfl, rfl, Below.refl _ _⟩
  case round =>
    obtain ⟨b, rfl, hb, rfl, rfl, hbel⟩ := hrel
    by_cases hlt : b < j
    · have d1 : decide ((b : Int) + 1 ≤ (j : Int)) = true := decide_eq_true (by omega)
      have C2' := C1.out wr (b + 1) (by omega) (by omega) hbel
      rw [show ((b + 1 : Nat) : Int) = (b : Int) + 1 by omega] at C2'
      have C2 := Lib.hid C2'
      have hm66 := mlen_le xs 66 (j - (b + 1)) j
      obtain ⟨n, hn⟩ : ∃ n, mlen xs 66 (j - (b + 1)) j = n := ⟨_, rfl⟩
      have hbb := (bestB_le xs j b)
      have hstep : bestB xs j (b + 1) = if (bestB xs j b).1 < mlen xs 66 (j - (b + 1)) j then (mlen xs 66 (j - (b + 1)) j, b + 1) else bestB xs j b := rfl
      rw [hn] at C2 hm66 hstep
      obtain ⟨⟨p1, p2⟩, hp⟩ : ∃ p, bestB xs j b = p := ⟨_, rfl⟩
      rw [hp] at hbb hstep ⊢
      simp only at hbb hstep ⊢
      obtain ⟨hb1, hb2, _⟩ := hbb
      clear C2' hn hp
      by_cases hgt : p1 < n
      · rw [if_pos hgt] at hstep
        have d2 : decide ((p1 : Int) < (n : Int)) = true := decide_eq_true (by omega)
        have d3 : decide (p1 < n) = true := decide_eq_true hgt
        have HS := Lib.hid hstep
        clear hstep
        go_wp2_with fail
        refine C2.out.mono ?_
        rintro e w2 ⟨rfl, b2⟩
        go_wp2_with fail
        go_roundw
        case rel => exact ⟨b + 1, by go_num, by omega, by rw [HS.out], by rw [HS.out]; go_num, Bstep hbel b2⟩
        case measure => simp [intOf]; omega
      · rw [if_neg hgt] at hstep
        have d2 : decide ((p1 : Int) < (n : Int)) = false := decide_eq_false (by omega)
        have d3 : decide (p1 < n) = false := decide_eq_false hgt
        have HS := Lib.hid hstep
        clear hstep
        go_wp2_with fail
        refine C2.out.mono ?_
        rintro e w2 ⟨rfl, b2⟩
        go_wp2_with fail
        go_roundw
        case rel => exact ⟨b + 1, by go_num, by omega, by rw [HS.out], by rw [HS.out], Bstep hbel b2⟩
        case measure => simp [intOf]; omega
    · obtain rfl : b = j := by omega
      have d1 : decide ((b : Int) + 1 ≤ (b : Int)) = false := decide_eq_false (by omega)
      go_wp2_with fail
      go_ret2
      exact ⟨rfl, hbel⟩
-- W4d

/-- 'append(s, n)' as a step of a region that draws, behind the making of its one cell -/
theorem step_app1D {w : World} {ops : Array Oper} {o : Oper} {a : Act} {K : Act → World → Prop} {Q : Exit → Act → World → Prop} {E : Prop}
    (hg : o.guard = none) (s x : Operand) (hop : o.op = Op.call { callee := Callee.builtin Builtin.append, args := #[s, x], argTypes := #[25, 25] })
    (base : Nat) (v : Value) (xs : List Int) (n : Int) (hs : a.eval s = v) (hx : a.eval x = .slice (some ⟨w.heap.size, 0, none⟩) 1 1)
    (hown : Own w base v xs) (hlen : xs.length < 1000000) (hb : base ≤ w.heap.size)
    (hK : ∀ v' w', Own w' base v' (xs ++ [n]) → w.grownBy w' v.ownBlock → K (a.put o.dst v') w') :
    if Region.wanted o (yielded ops a.tmps) = true then Oper.wp Try.prog o a (w.alloc (.cells #[.int .i64 n] 3)).drew K Q else E := by
  have bel : Below w.heap.size w (w.alloc (.cells #[.int .i64 n] 3)).drew := Bstep (alloc_below' _ _) (below_drewN (Below.refl _ _) 1)
  have hi : Ints (w.alloc (.cells #[.int .i64 n] 3)).drew (.slice (some ⟨w.heap.size, 0, none⟩) 1 1) [n] :=
    ⟨_, 1, rfl, by simp, by unfold maxLen; omega, fun _ => ⟨_, 0, rfl, fun i hi => by
      have : i = 0 := by simpa using hi
      subst this
      exact (Blk.made w #[.int .i64 n] 3).cell 0⟩⟩
  refine step_appI hg s x hop base v _ xs [n] hs hx (hown.below bel) hi (by simp; omega) (Nat.le_trans hb bel.size) fun v' w' ho hg' => ?_
  refine hK v' w' ho ⟨hg'.os.trans bel.os, hg'.tape.trans bel.tape, hg'.output.trans bel.output, Nat.le_trans bel.size hg'.size, fun k hk hne => (hg'.block k (Nat.lt_of_lt_of_le hk bel.size) hne).trans (bel.block k hk)⟩

set_option maxHeartbeats 1000000 in
theorem spec_l4Plain (v : Value) (xs : List Int) (w : World) (h : Ints w v xs) (hl : xs.length ≤ 1000) :
    Calls Try.prog 89 #[v] w (NewInts1 w (plainP xs)) := by
  obtain ⟨R, hR⟩ : ∃ R, plainP xs = R := ⟨_, rfl⟩
  rw [hR]
  have H0 : Hid ([] ++ plainP (xs.drop 0) = R) := Lib.hid (by rw [List.drop_zero, List.nil_append]; exact hR)
  have HR : Hid (R.length ≤ 2000) := Lib.hid (by rw [← hR, plainP_len]; omega)
  clear hR
  have hv := h
  obtain ⟨a, cap, rfl, l1, m1, c0⟩ := h
  unfold maxLen at m1
  have own0 := own_empty w w.heap.size (Nat.le_refl _)
  have b0 := alloc_below' w (.cells #[] 3)
  clear c0
  go_enter Try.func89, Try.ntmps89
  go_wp2
  go_loopw [3, 4] (fun r i wr => ∃ (f : Nat) (cur : List Int), i = .int .i64 f ∧ f ≤ xs.length + 64 ∧ Own wr w.heap.size r cur ∧ Hid (cur ++ plainP (xs.drop f) = R) ∧ Below w.heap.size w wr) (fun _ i _ => xs.length + 64 - (intOf i).toNat)
  case atStart => exact ⟨0, [], rfl, by omega, own0, H0, b0⟩
  case round =>
    obtain ⟨f, cur, rfl, hf, hown, heq, hbel⟩ := hrel
    have hsz := hbel.size
    by_cases hlt : f < xs.length
    · have hne : xs.drop f ≠ [] := fun e => by have := congrArg List.length e; rw [List.length_drop] at this; simp at this; omega
      have hpc := plainP_cons hne
      have hdl : (xs.drop f).length = xs.length - f := List.length_drop
      have hq := heq.out
      rw [hpc, hdl, List.drop_drop] at hq
      by_cases h64 : f + 64 ≤ xs.length
      · have htk : (xs.drop f).take 64 = (xs.drop f).take 64 := rfl
        rw [show min 64 (xs.length - f) = 64 by omega, htk] at hq
        obtain ⟨us, hs, is⟩ := run_part hv f 64 (by omega)
        have hs' : ∀ W, (Instr.slice 25 (.slice a xs.length cap) (some (.int .i64 (f : Int))) (some (.int .i64 ((f : Int) + 64))) none).run Try.prog W = .ok us W := hs
        have is2 := is wr (hv.below hbel)
        have hyl : ((xs.drop f).take 64).length ≤ 64 := by rw [List.length_take]; omega
        obtain ⟨ys, hys⟩ : ∃ ys, (xs.drop f).take 64 = ys := ⟨_, rfl⟩
        rw [hys] at is2 hq hyl
        simp only [hys] at is
        have IS := Lib.hid is
        have hcl : cur.length ≤ 2000 := by have := HR.out; rw [← hq] at this; simp at this; omega
        have e1 : (((64 - 1 : Nat)) : Int) = 63 := by omega
        rw [e1] at hq
        have HQ := Lib.hid hq
        have s1 : IntKind.i64.wrap ((f : Int) + 64 - (f : Int)) = 64 := by rw [IntWalk.i64_in _ ⟨by omega, by omega⟩]; try omega
        have s2 : IntKind.i64.wrap (64 - 1) = 63 := by rw [IntWalk.i64_in _ ⟨by omega, by omega⟩]; try omega
        have f0 : (0 : Int) ≤ (f : Int) := by omega
        clear hne hpc hdl hq htk is hys hs e1
        go_wp2
        go_region_law (first
          | (refine step_app1D rfl (.tmp 18) (.tmp 23) rfl w.heap.size u3 cur _ rfl rfl hown (by omega) hsz ?_; intro v2 w2 own2 g2)
          | (refine step_appI rfl (.tmp 24) (.tmp 28) rfl w.heap.size v2 us _ ys rfl rfl own2 (IS.out w2 (hv.below (hbel.grown g2 hsz hown.lt))) (by simp; omega) (Nat.le_trans hsz g2.size) ?_; intro v3 w3 own3 g3))
        go_wp2
        go_roundw
        case rel =>
          refine ⟨f + 64, _, by go_num, by omega, own3, ?_, (hbel.grown g2 hsz hown.lt).grown g3 (Nat.le_trans hsz g2.size) own2.lt⟩
          have hh := HQ.out
          unfold Hid
          rw [← hh]
          simp
          try rfl
        case measure => simp [intOf]; omega
      · have htk : (xs.drop f).take 64 = (xs.drop f).take (xs.length - f) := by rw [List.take_of_length_le (by omega), List.take_of_length_le (by omega)]
        rw [show min 64 (xs.length - f) = (xs.length - f) by omega, htk] at hq
        obtain ⟨us, hs, is⟩ := run_part hv f (xs.length - f) (by omega)
        have hs' : ∀ W, (Instr.slice 25 (.slice a xs.length cap) (some (.int .i64 (f : Int))) (some (.int .i64 ((xs.length : Int)))) none).run Try.prog W = .ok us W := fun W => by have := hs W; rwa [show (f : Int) + ((xs.length - f : Nat) : Int) = (xs.length : Int) by omega] at this
        have is2 := is wr (hv.below hbel)
        have hyl : ((xs.drop f).take (xs.length - f)).length ≤ 64 := by rw [List.length_take]; omega
        obtain ⟨ys, hys⟩ : ∃ ys, (xs.drop f).take (xs.length - f) = ys := ⟨_, rfl⟩
        rw [hys] at is2 hq hyl
        simp only [hys] at is
        have IS := Lib.hid is
        have hcl : cur.length ≤ 2000 := by have := HR.out; rw [← hq] at this; simp at this; omega
        have e1 : (((xs.length - f - 1 : Nat)) : Int) = ((xs.length : Int) - (f : Int) - 1) := by omega
        rw [e1] at hq
        have HQ := Lib.hid hq
        have s1 : IntKind.i64.wrap ((xs.length : Int) - (f : Int)) = ((xs.length : Int) - (f : Int)) := by rw [IntWalk.i64_in _ ⟨by omega, by omega⟩]; try omega
        have s2 : IntKind.i64.wrap (((xs.length : Int) - (f : Int)) - 1) = ((xs.length : Int) - (f : Int) - 1) := by rw [IntWalk.i64_in _ ⟨by omega, by omega⟩]; try omega
        have f0 : (0 : Int) ≤ (f : Int) := by omega
        clear hne hpc hdl hq htk is hys hs e1
        go_wp2
        go_region_law (first
          | (refine step_app1D rfl (.tmp 18) (.tmp 23) rfl w.heap.size u3 cur _ rfl rfl hown (by omega) hsz ?_; intro v2 w2 own2 g2)
          | (refine step_appI rfl (.tmp 24) (.tmp 28) rfl w.heap.size v2 us _ ys rfl rfl own2 (IS.out w2 (hv.below (hbel.grown g2 hsz hown.lt))) (by simp; omega) (Nat.le_trans hsz g2.size) ?_; intro v3 w3 own3 g3))
        go_wp2
        go_roundw
        case rel =>
          refine ⟨f + 64, _, by go_num, by omega, own3, ?_, (hbel.grown g2 hsz hown.lt).grown g3 (Nat.le_trans hsz g2.size) own2.lt⟩
          have hh := HQ.out
          unfold Hid
          rw [← hh]
          simp
          try rfl
        case measure => simp [intOf]; omega
    · have hh := heq.out
      rw [List.drop_eq_nil_of_le (by omega), plainP_nil, List.append_nil] at hh
      subst hh
      go_wp2
      go_ret
      exact ⟨_, rfl, hown, hbel⟩
/-- 's[:m]' -/
theorem run_upto {w : World} {a : Option Addr} {n cap : Nat} {xs : List Int} (h : Ints w (.slice a n cap) xs) (m : Nat) (hm : m ≤ n) (W : World) :
    (Instr.slice 25 (.slice a n cap) none (some (.int .i64 (m : Int))) none).run Try.prog W = .ok (.slice a m cap) W := by
  obtain ⟨_, hl, _⟩ := h.sizes
  have e : (if cap = 0 then a else Option.map (fun x : Addr => x.add 0) a) = a := by
    split
    · rfl
    · cases a with
      | none => rfl
      | some a => simp [Addr.add]
  simp [Instr.slice, run_underlying Try.underlying25, Instr.sliceBounds, Instr.sliceBound, asIntOf]
  rw [if_pos (by omega)]
  try simp only [Nat.sub_zero]
  try rw [e]
set_option maxHeartbeats 2000000 in
theorem impl_withPlain (v u : Value) (out ys : List Int) (base : Nat) (w : World) (h : Own w base v out) (hd : ∀ W : World, Below base w W → Ints W u ys) (hb : base ≤ w.heap.size) (hl : out.length ≤ 2000) (hy : ys.length ≤ 1000) :
    Calls Try.prog 113 #[v, u] w (AppRes w base (out ++ plainP ys)) := by
  obtain ⟨R, hR⟩ : ∃ R, out ++ plainP ys = R := ⟨_, rfl⟩
  rw [hR]
  have HR : Hid (R.length ≤ 10000) := Lib.hid (by rw [← hR, List.length_append, plainP_len]; omega)
  have H0 : Hid (out ++ plainP ys = R) := Lib.hid hR
  have HD0 : Hid (∀ W : World, Below base w W → Ints W u ys) := Lib.hid hd
  obtain ⟨au, capu, rfl, lu, mu, _⟩ := hd w (Below.refl _ _)
  clear hR hd
  go_enter Try.func113, Try.ntmps113
  go_wp2
  go_loopw [0, 1] (fun r b wr => ∃ (cur rest : List Int), Own wr base r cur ∧ (∃ a cap, b = .slice a rest.length cap) ∧ Hid (∀ W : World, Below base w W → Ints W b rest) ∧ Hid (cur ++ plainP rest = R) ∧ Below base w wr) (fun _ b _ => match b with | .slice _ n _ => n | _ => 0)
  case atStart => exact ⟨out, ys, h, ⟨_, _, rfl⟩, HD0, H0, Below.refl _ _⟩
  case round =>
    obtain ⟨cur, rest, hown, ⟨a, cap, rfl⟩, hin, heq, hbel⟩ := hrel
    have hsz := Nat.le_trans hb hbel.size
    have i0 := hin.out wr hbel
    have hss := i0.sizes
    have hs2 := hss.2.1
    have hs3 := hss.2.2
    unfold maxLen at hs3
    clear hss i0
    by_cases hne : rest = []
    · subst hne
      have hh := heq.out
      rw [plainP_nil, List.append_nil] at hh
      subst hh
      go_wp2
      go_ret
      exact ⟨_, rfl, hown, hbel⟩
    · have hlt : 0 < rest.length := List.length_pos_iff.2 hne
      have hpc := plainP_cons hne
      have hq := heq.out
      rw [hpc] at hq
      by_cases h64 : 64 ≤ rest.length
      · have htk : rest.take 64 = rest.take (64) := rfl
        rw [show min 64 rest.length = (64) by omega, htk] at hq
        have hrd : rest.drop 64 = rest.drop (64) := rfl
        rw [hrd] at hq
        have i1 := hin.out wr hbel
        obtain ⟨a2, cap2, hs2, is2⟩ := run_from i1 (64) (by omega)
        have hs1 : ∀ W, (Instr.slice 25 (.slice a rest.length cap) none (some (.int .i64 (64))) none).run Try.prog W = .ok (.slice a (64) cap) W := fun W => run_upto i1 (64) (by omega) W
        have hs2' : ∀ W, (Instr.slice 25 (.slice a rest.length cap) (some (.int .i64 (64))) none none).run Try.prog W = .ok (.slice a2 (rest.length - (64)) cap2) W := hs2
        have IS1 : Hid (∀ W, Below base w W → Ints W (.slice a (64) cap) (rest.take (64))) := Lib.hid fun W hW => (hin.out W hW).take (64) (by omega)
        have IS2 : Hid (∀ W, Below base w W → Ints W (.slice a2 (rest.length - (64)) cap2) (rest.drop (64))) := Lib.hid fun W hW => is2 W (hin.out W hW)
        have hyl : (rest.take (64)).length ≤ 64 := by rw [List.length_take]; omega
        obtain ⟨ys, hys⟩ : ∃ ys, rest.take (64) = ys := ⟨_, rfl⟩
        rw [hys] at hq hyl IS1
        have hcl : cur.length ≤ 20000 := by have := HR.out; rw [← hq] at this; simp at this; omega
        have e1 : (((64) - 1 : Nat) : Int) = 63 := by omega
        rw [e1] at hq
        have HQ := Lib.hid hq
        have HD : Hid ((rest.drop (64)).length = rest.length - (64)) := Lib.hid List.length_drop
        have s2 : IntKind.i64.wrap (64 - 1) = 63 := by rw [IntWalk.i64_in _ ⟨by omega, by omega⟩]; try omega
        clear hne hpc hq htk hrd hys e1 hs2 is2 i1 hin
        go_wp2
        go_region_law (first
          | (refine step_app1D rfl (.tmp 12) (.tmp 15) rfl base u0 cur _ rfl rfl hown (by omega) hsz ?_; intro v2 w2 own2 g2)
          | (refine step_appI rfl (.tmp 16) (.tmp 19) rfl base v2 (.slice a (64) cap) _ ys rfl rfl own2 (IS1.out w2 (hbel.grown g2 hsz hown.lt)) (by simp; omega) (Nat.le_trans hsz g2.size) ?_; intro v3 w3 own3 g3))
        go_wp2
        go_roundw
        case rel =>
          refine ⟨_, rest.drop (64), own3, by rw [HD.out]; exact ⟨_, _, rfl⟩, IS2, ?_, (hbel.grown g2 hsz hown.lt).grown g3 (Nat.le_trans hsz g2.size) own2.lt⟩
          have hh := HQ.out
          unfold Hid
          rw [← hh]
          simp
          try rfl
        case measure => simp; omega
      · have htk : rest.take 64 = rest.take (rest.length) := by rw [List.take_of_length_le (by omega), List.take_of_length_le (by omega)]
        rw [show min 64 rest.length = (rest.length) by omega, htk] at hq
        have hrd : rest.drop 64 = rest.drop (rest.length) := by rw [List.drop_eq_nil_of_le (by omega), List.drop_eq_nil_of_le (by omega)]
        rw [hrd] at hq
        have i1 := hin.out wr hbel
        obtain ⟨a2, cap2, hs2, is2⟩ := run_from i1 (rest.length) (by omega)
        have hs1 : ∀ W, (Instr.slice 25 (.slice a rest.length cap) none (some (.int .i64 ((rest.length : Int)))) none).run Try.prog W = .ok (.slice a (rest.length) cap) W := fun W => run_upto i1 (rest.length) (by omega) W
        have hs2' : ∀ W, (Instr.slice 25 (.slice a rest.length cap) (some (.int .i64 ((rest.length : Int)))) none none).run Try.prog W = .ok (.slice a2 (rest.length - (rest.length)) cap2) W := hs2
        have IS1 : Hid (∀ W, Below base w W → Ints W (.slice a (rest.length) cap) (rest.take (rest.length))) := Lib.hid fun W hW => (hin.out W hW).take (rest.length) (by omega)
        have IS2 : Hid (∀ W, Below base w W → Ints W (.slice a2 0 cap2) []) := Lib.hid fun W hW => by
          have := is2 W (hin.out W hW)
          rwa [Nat.sub_self, List.drop_length] at this
        have hyl : (rest.take (rest.length)).length ≤ 64 := by rw [List.length_take]; omega
        obtain ⟨ys, hys⟩ : ∃ ys, rest.take (rest.length) = ys := ⟨_, rfl⟩
        rw [hys] at hq hyl IS1
        have hcl : cur.length ≤ 20000 := by have := HR.out; rw [← hq] at this; simp at this; omega
        have e1 : (((rest.length) - 1 : Nat) : Int) = ((rest.length : Int) - 1) := by omega
        rw [e1, List.drop_length] at hq
        have HQ := Lib.hid hq
        have HD : Hid ((rest.drop (rest.length)).length = rest.length - (rest.length)) := Lib.hid List.length_drop
        have s2 : IntKind.i64.wrap ((rest.length : Int) - 1) = ((rest.length : Int) - 1) := by rw [IntWalk.i64_in _ ⟨by omega, by omega⟩]; try omega
        clear hne hpc hq htk hrd hys e1 hs2 is2 i1 hin
        go_wp2
        go_region_law (first
          | (refine step_app1D rfl (.tmp 12) (.tmp 15) rfl base u0 cur _ rfl rfl hown (by omega) hsz ?_; intro v2 w2 own2 g2)
          | (refine step_appI rfl (.tmp 16) (.tmp 19) rfl base v2 (.slice a (rest.length) cap) _ ys rfl rfl own2 (IS1.out w2 (hbel.grown g2 hsz hown.lt)) (by simp; omega) (Nat.le_trans hsz g2.size) ?_; intro v3 w3 own3 g3))
        go_wp2
        go_roundw
        case rel =>
          refine ⟨_, [], own3, ⟨_, _, rfl⟩, IS2, ?_, (hbel.grown g2 hsz hown.lt).grown g3 (Nat.le_trans hsz g2.size) own2.lt⟩
          have hh := HQ.out
          unfold Hid
          rw [← hh]
          simp
          try rfl
        case measure => simp; omega
-- W4f

theorem impl_matchSize (v : Value) (xs : List Int) (p j : Nat) (w : World) (h : Ints w v xs) (hp : p < j) (hj : j ≤ xs.length) (hl : xs.length ≤ 1000) :
    Calls Try.prog 118 #[v, .int .i64 (p : Int), .int .i64 (j : Int)] w (SaysN (mlen xs 66 p j : Nat) w) := by
  obtain ⟨a, cap, rfl, l1, m1, c0⟩ := h
  unfold maxLen at m1
  have HC := Lib.hid c0
  clear c0
  obtain ⟨M, hM⟩ : ∃ M, xs.length - j = M := ⟨_, rfl⟩
  have hml : j + M = xs.length := by omega
  have s0 : IntKind.i64.wrap ((xs.length : Int) - (j : Int)) = (M : Int) := by rw [IntWalk.i64_in _ ⟨by omega, by omega⟩]; omega
  clear hM
  by_cases h66 : M < 66
  · have hm1 : M ≤ 66 := by omega
    have hm2 : j + M ≤ xs.length := by omega
    have hm3 : Hid (M = 66 ∨ j + M = xs.length) := Lib.hid (by omega)
    go_enter Try.func118, Try.ntmps118
    go_wp2
    go_loopw [15] (fun i wr => ∃ n : Nat, i = .int .i64 n ∧ n ≤ M ∧ Hid (∀ k, k < n → j + k < xs.length ∧ xs.getD (p + k) 0 = xs.getD (j + k) 0) ∧ Below w.heap.size w wr) (fun i _ => M - (intOf i).toNat)
    case atStart => exact ⟨0, rfl, by omega, Lib.hid fun k hk => by omega, Below.refl _ _⟩
    case round =>
      obtain ⟨n, rfl, hn, hrun, hbel⟩ := hrel
      by_cases h1 : n < M
      · have d1 : decide ((n : Int) < (M : Int)) = true := decide_eq_true (by omega)
        obtain ⟨b, off, rfl, hcell⟩ := HC.out (by omega)
        have hx := (hbel.cell (World.block_lt_of_cell? w _ (hcell (j + n) (by omega)))).trans (hcell (j + n) (by omega))
        have hy := (hbel.cell (World.block_lt_of_cell? w _ (hcell (p + n) (by omega)))).trans (hcell (p + n) (by omega))
        obtain ⟨x, ex⟩ : ∃ x, xs.getD (j + n) 0 = x := ⟨_, rfl⟩
        obtain ⟨y, ey⟩ : ∃ y, xs.getD (p + n) 0 = y := ⟨_, rfl⟩
        rw [ex] at hx
        rw [ey] at hy
        have s1 : IntKind.i64.wrap ((j : Int) + (n : Int)) = (j : Int) + (n : Int) := IntWalk.i64_in _ ⟨by omega, by omega⟩
        have s2 : IntKind.i64.wrap ((p : Int) + (n : Int)) = (p : Int) + (n : Int) := IntWalk.i64_in _ ⟨by omega, by omega⟩
        have n1 : ((j : Int) + (n : Int)).toNat = j + n := by omega
        have n2 : ((p : Int) + (n : Int)).toNat = p + n := by omega
        have i0 : (0 : Int) ≤ (j : Int) + (n : Int) := by omega
        have i1 : (0 : Int) ≤ (p : Int) + (n : Int) := by omega
        have i2 : (p : Int) + (n : Int) < (xs.length : Int) := by omega
        have i3 : (j : Int) + (n : Int) < (xs.length : Int) := by omega
        have h4 : j + n < xs.length := by omega
        have Ex := Lib.hid ex
        have Ey := Lib.hid ey
        clear hcell ex ey
        by_cases hxy : y = x
        · have d3 : (y == x) = true := by rw [beq_iff_eq]; exact hxy
          have H1 : Hid (∀ k, k < n + 1 → j + k < xs.length ∧ xs.getD (p + k) 0 = xs.getD (j + k) 0) := Lib.hid fun k hk => by
            by_cases e : k = n
            · subst e; exact ⟨h4, by rw [Ex.out, Ey.out, hxy]⟩
            · exact hrun.out k (by omega)
          clear hxy
          go_wp2
          go_quiet (fail)
          go_wp2
          go_roundw
          case rel => exact ⟨n + 1, by go_num, by omega, H1, below_drewN hbel _⟩
          case measure => simp [intOf]; omega
        · have d3 : (y == x) = false := by rw [beq_eq_false_iff_ne]; exact hxy
          have e : mlen xs 66 p j = n := mlen_eq (by omega) hrun.out (.inr (fun hh => hxy (by have h2 := hh.2; rw [Ey.out, Ex.out] at h2; exact h2)))
          have E := Lib.hid e
          clear hxy e
          go_wp2
          go_quiet (fail)
          go_wp2
          go_ret
          rw [E.out]
          exact ⟨rfl, below_drewN hbel _⟩
      · have d1 : decide ((n : Int) < (M : Int)) = false := decide_eq_false (by omega)
        obtain rfl : n = M := by omega
        have e : mlen xs 66 p j = n := mlen_eq (by omega) hrun.out (hm3.out.imp id fun q hh => by omega)
        have E := Lib.hid e
        clear e
        go_wp2
        go_ret
        rw [E.out]
        exact ⟨rfl, hbel⟩
  · have hm1 : 66 ≤ 66 := by omega
    have hm2 : j + 66 ≤ xs.length := by omega
    have hm3 : Hid (66 = 66 ∨ j + 66 = xs.length) := Lib.hid (by omega)
    go_enter Try.func118, Try.ntmps118
    go_wp2
    go_loopw [15] (fun i wr => ∃ n : Nat, i = .int .i64 n ∧ n ≤ 66 ∧ Hid (∀ k, k < n → j + k < xs.length ∧ xs.getD (p + k) 0 = xs.getD (j + k) 0) ∧ Below w.heap.size w wr) (fun i _ => 66 - (intOf i).toNat)
    case atStart => exact ⟨0, rfl, by omega, Lib.hid fun k hk => by omega, Below.refl _ _⟩
    case round =>
      obtain ⟨n, rfl, hn, hrun, hbel⟩ := hrel
      by_cases h1 : n < 66
      · have d1 : decide ((n : Int) < 66) = true := decide_eq_true (by omega)
        obtain ⟨b, off, rfl, hcell⟩ := HC.out (by omega)
        have hx := (hbel.cell (World.block_lt_of_cell? w _ (hcell (j + n) (by omega)))).trans (hcell (j + n) (by omega))
        have hy := (hbel.cell (World.block_lt_of_cell? w _ (hcell (p + n) (by omega)))).trans (hcell (p + n) (by omega))
        obtain ⟨x, ex⟩ : ∃ x, xs.getD (j + n) 0 = x := ⟨_, rfl⟩
        obtain ⟨y, ey⟩ : ∃ y, xs.getD (p + n) 0 = y := ⟨_, rfl⟩
        rw [ex] at hx
        rw [ey] at hy
        have s1 : IntKind.i64.wrap ((j : Int) + (n : Int)) = (j : Int) + (n : Int) := IntWalk.i64_in _ ⟨by omega, by omega⟩
        have s2 : IntKind.i64.wrap ((p : Int) + (n : Int)) = (p : Int) + (n : Int) := IntWalk.i64_in _ ⟨by omega, by omega⟩
        have n1 : ((j : Int) + (n : Int)).toNat = j + n := by omega
        have n2 : ((p : Int) + (n : Int)).toNat = p + n := by omega
        have i0 : (0 : Int) ≤ (j : Int) + (n : Int) := by omega
        have i1 : (0 : Int) ≤ (p : Int) + (n : Int) := by omega
        have i2 : (p : Int) + (n : Int) < (xs.length : Int) := by omega
        have i3 : (j : Int) + (n : Int) < (xs.length : Int) := by omega
        have h4 : j + n < xs.length := by omega
        have Ex := Lib.hid ex
        have Ey := Lib.hid ey
        clear hcell ex ey
        by_cases hxy : y = x
        · have d3 : (y == x) = true := by rw [beq_iff_eq]; exact hxy
          have H1 : Hid (∀ k, k < n + 1 → j + k < xs.length ∧ xs.getD (p + k) 0 = xs.getD (j + k) 0) := Lib.hid fun k hk => by
            by_cases e : k = n
            · subst e; exact ⟨h4, by rw [Ex.out, Ey.out, hxy]⟩
            · exact hrun.out k (by omega)
          clear hxy
          go_wp2
          go_quiet (fail)
          go_wp2
          go_roundw
          case rel => exact ⟨n + 1, by go_num, by omega, H1, below_drewN hbel _⟩
          case measure => simp [intOf]; omega
        · have d3 : (y == x) = false := by rw [beq_eq_false_iff_ne]; exact hxy
          have e : mlen xs 66 p j = n := mlen_eq (by omega) hrun.out (.inr (fun hh => hxy (by have h2 := hh.2; rw [Ey.out, Ex.out] at h2; exact h2)))
          have E := Lib.hid e
          clear hxy e
          go_wp2
          go_quiet (fail)
          go_wp2
          go_ret
          rw [E.out]
          exact ⟨rfl, below_drewN hbel _⟩
      · have d1 : decide ((n : Int) < 66) = false := decide_eq_false (by omega)
        have hn66 : n = 66 := by omega
        have e : mlen xs 66 p j = n := mlen_eq (by omega) hrun.out (.inl (by omega))
        have E := Lib.hid e
        have Hn := Lib.hid hn66
        clear e hn66
        go_wp2
        go_ret
        rw [E.out, Hn.out]
        exact ⟨rfl, hbel⟩
/-- three bytes in a row, as a key -/
def trip (xs : List Int) (q : Nat) : Value := .agg #[.int .i64 (xs.getD q 0), .int .i64 (xs.getD (q + 1) 0), .int .i64 (xs.getD (q + 2) 0)]
set_option maxRecDepth 100000 in
theorem impl_tripleAt (v : Value) (xs : List Int) (j : Nat) (w : World) (h : Ints w v xs) (hj : j + 3 ≤ xs.length) (hl : xs.length ≤ 1000) :
    Calls Try.prog 117 #[v, .int .i64 (j : Int)] w (fun e w' => e = .returned (trip xs j) ∧ Below w.heap.size w w') := by
  obtain ⟨a, cap, rfl, l1, m1, c0⟩ := h
  unfold maxLen at m1
  obtain ⟨b, off, rfl, hcell⟩ := c0 (by omega)
  have hx := hcell j (by omega)
  have hy := hcell (j + 1) (by omega)
  have hz := hcell (j + 2) (by omega)
  unfold trip
  obtain ⟨x, ex⟩ : ∃ x, xs.getD j 0 = x := ⟨_, rfl⟩
  obtain ⟨y, ey⟩ : ∃ y, xs.getD (j + 1) 0 = y := ⟨_, rfl⟩
  obtain ⟨z, ez⟩ : ∃ z, xs.getD (j + 2) 0 = z := ⟨_, rfl⟩
  rw [ex] at hx ⊢
  rw [ey] at hy ⊢
  rw [ez] at hz ⊢
  have hb := World.block_lt_of_cell? w _ hx
  have s1 : IntKind.i64.wrap ((j : Int) + 1) = (j : Int) + 1 := IntWalk.i64_in _ ⟨by omega, by omega⟩
  have s2 : IntKind.i64.wrap ((j : Int) + 2) = (j : Int) + 2 := IntWalk.i64_in _ ⟨by omega, by omega⟩
  have n1 : ((j : Int) + 1).toNat = j + 1 := by omega
  have n2 : ((j : Int) + 2).toNat = j + 2 := by omega
  have i0 : (0 : Int) ≤ (j : Int) + 1 := by omega
  have i1 : (0 : Int) ≤ (j : Int) + 2 := by omega
  have i2 : (j : Int) + 1 < (xs.length : Int) := by omega
  have i3 : (j : Int) + 2 < (xs.length : Int) := by omega
  have i4 : (j : Int) < (xs.length : Int) := by omega
  clear hcell ex ey ez c0
  have bel := alloc_below' w (.cells #[.int .i64 0, .int .i64 0, .int .i64 0] 137)
  have bk := Blk.made w #[.int .i64 0, .int .i64 0, .int .i64 0] 137
  have hx1 := (bel.cell hb).trans hx
  have hy1 := (bel.cell (World.block_lt_of_cell? w _ hy)).trans hy
  have hz1 := (bel.cell (World.block_lt_of_cell? w _ hz)).trans hz
  have hlt := bk.lt
  have c0 := bk.cell 0
  have c1 := bk.cell 1
  have c2 := bk.cell 2
  have f0 := bk.free 0
  have f1 := bk.free 1
  have f2 := bk.free 2
  go_enter Try.func117, Try.ntmps117
  go_upto_region 1 with (fail)
  generalize hW : w.alloc (.cells #[.int .i64 0, .int .i64 0, .int .i64 0] 137) = w1 at bel bk hx1 hy1 hz1 hlt c0 c1 c2 f0 f1 f2 ⊢
  clear hW hx hy hz
  go_still_tail 15, (by kernel_rfl)
  change wpList _ _ _ _ _ (World.drew _)
  have bel2 : Below w.heap.size w w1.drew := Bstep bel (below_drewN (Below.refl _ _) 1)
  have bk2 : Blk w1.drew w.heap.size #[.int .i64 0, .int .i64 0, .int .i64 0] := bk.drew 1
  generalize w1.drew = w2 at bel2 bk2 ⊢
  clear c0 c1 c2 f0 f1 f2 hx1 hy1 hz1 bk bel
  have c0 := bk2.cell 0
  have c1 := bk2.cell 1
  have c2 := bk2.cell 2
  have f0 := bk2.free 0
  have f1 := bk2.free 1
  have f2 := bk2.free 2
  go_wp2
  have k3 := ((bk2.set 0 (.int .i64 x)).set 1 (.int .i64 y)).set 2 (.int .i64 z)
  have bel3 : Below w.heap.size w (((w2.setCell ⟨w.heap.size, 0, none⟩ (.int .i64 x)).setCell ⟨w.heap.size, 1, none⟩ (.int .i64 y)).setCell ⟨w.heap.size, 2, none⟩ (.int .i64 z)) := ((bel2.setCell (Nat.le_refl _) _).setCell (Nat.le_refl _) _).setCell (Nat.le_refl _) _
  generalize ((w2.setCell ⟨w.heap.size, 0, none⟩ (.int .i64 x)).setCell ⟨w.heap.size, 1, none⟩ (.int .i64 y)).setCell ⟨w.heap.size, 2, none⟩ (.int .i64 z) = W3 at k3 bel3 ⊢
  have d0 : W3.cell? ⟨w.heap.size, 0, none⟩ = some (.int .i64 x) := (k3.cell 0).trans (by simp)
  have d1 : W3.cell? ⟨w.heap.size, 1, none⟩ = some (.int .i64 y) := (k3.cell 1).trans (by simp)
  have d2 : W3.cell? ⟨w.heap.size, 2, none⟩ = some (.int .i64 z) := (k3.cell 2).trans (by simp)
  exact bodyPost_ret (v := .agg #[.int .i64 x, .int .i64 y, .int .i64 z]) (by simp [results, Try.results117, go_sem, d0, d1, d2]) rfl ⟨rfl, bel3⟩
-- W4e

/-- 'append(s, u...)', with where the new slice lies -/
theorem wp_appW {w : World} {ops : Array Oper} {rest : List Oper} {o : Oper} {a : Act} {Q : Exit → Act → World → Prop}
    (hg : o.guard = none) (s x : Operand) (hop : o.op = Op.call { callee := Callee.builtin Builtin.append, args := #[s, x], argTypes := #[25, 25] })
    (base : Nat) (v u : Value) (xs ys : List Int) (hs : a.eval s = v) (hx : a.eval x = u)
    (hown : Own w base v xs) (hsrc : Ints w u ys) (hlen : xs.length + ys.length < 10000000000) (hb : base ≤ w.heap.size)
    (hK : ∀ v' w', Own w' base v' (xs ++ ys) → w.grownBy w' v.ownBlock → (v'.ownBlock = v.ownBlock ∨ v'.ownBlock = some w.heap.size) → wpList Try.prog ops Q rest (a.put o.dst v') w') :
    wpList Try.prog ops Q (o :: rest) a w := by
  obtain ⟨i0, hi, hz0, hz1, hz2⟩ := info_parts info_int
  obtain ⟨ad, cap, rfl, hl, hm, hc⟩ := hsrc
  cases ad with
  | none =>
    have h0 : ys = [] := by
      rcases Nat.eq_zero_or_pos ys.length with h | h
      · exact List.eq_nil_of_length_eq_zero h
      · obtain ⟨b, off, e, _⟩ := hc h; cases e
    subst h0
    refine wpList_append_own_any hg s x 25 hop base 3 i0 1 Try.underlying25 hi v xs.length _ hs hown cap hx ?_
    exact hK v w (by simpa using hown) (World.grownBy.refl _ _) (.inl rfl)
  | some ad =>
    refine wpList_append_own_at w hg s x 25 hop base 3 i0 (.int .i64 0) 1 8 Try.underlying25 hi hz0 hz1 hz2 rfl (by decide) v xs.length _ hs hown ad ys.length cap (ys.map (Value.int .i64)) hx (by simp) ?_ (ints_oneCell _ _) ?_ ?_ hb ?_
    · intro j u hu
      have hj : j < ys.length := by
        rcases Nat.lt_or_ge j ys.length with h | h
        · exact h
        · simp [List.getElem?_eq_none (show (ys.map (Value.int .i64)).length ≤ j by simpa using h)] at hu
      obtain ⟨b, off, e, hcell⟩ := hc (by omega)
      simp only [Option.some.injEq] at e
      subst e
      rw [Addr.add_lit, hcell j hj]
      simp [hj] at hu
      simp [List.getD, hj, hu]
    · unfold maxLen; omega
    · omega
    · intro v' w' hown' hgrow _ hat
      refine hK v' w' ?_ hgrow hat
      unfold Own
      simpa using hown'
theorem lit1 (w : World) (x : Int) : Ints (w.alloc (.cells #[.int .i64 x] 3)) (.slice (some ⟨w.heap.size, 0, none⟩) 1 1) [x] :=
  ⟨_, 1, rfl, by simp, by unfold maxLen; omega, fun _ => ⟨_, 0, rfl, fun i hi => by
    have : i = 0 := by simpa using hi
    subst this
    exact (Blk.made w #[.int .i64 x] 3).cell 0⟩⟩
theorem lit2 (w : World) (x y : Int) : Ints (w.alloc (.cells #[.int .i64 x, .int .i64 y] 3)) (.slice (some ⟨w.heap.size, 0, none⟩) 2 2) [x, y] :=
  ⟨_, 2, rfl, by simp, by unfold maxLen; omega, fun _ => ⟨_, 0, rfl, fun i hi => by
    match i, hi with
    | 0, _ => exact (Blk.made w #[.int .i64 x, .int .i64 y] 3).cell 0
    | 1, _ => exact (Blk.made w #[.int .i64 x, .int .i64 y] 3).cell 1
    | n + 2, hi => simp at hi; omega⟩⟩
/-- two values lie in different blocks -/
def Apart (u v : Value) : Prop := ∀ k, v.ownBlock = some k → u.ownBlock ≠ some k
theorem Apart.comm {u v : Value} (h : Apart u v) : Apart v u := fun k hk e => h k e hk
theorem Own.growA {w w' : World} {base : Nat} {u v : Value} {xs : List Int} (h : Own w base u xs) (hg : w.grownBy w' v.ownBlock) (ha : Apart u v) : Own w' base u xs := h.grown hg (by
  cases e : u.ownBlock with
  | none => exact .inl rfl
  | some q => exact .inr fun e2 => ha q e2.symm e)
/-- what was appended to lies apart from what lay apart -/
theorem Apart.step {w : World} {base : Nat} {u v v' : Value} {xs : List Int} {n : Nat} (ha : Apart u v) (hu : Own w base u xs) (hn : w.heap.size ≤ n) (hat : v'.ownBlock = v.ownBlock ∨ v'.ownBlock = some n) : Apart u v' := fun k hk e => by
  rcases hat with h | h
  · exact ha k (h ▸ hk) e
  · have h1 := hu.lt2 k e
    rw [h] at hk
    simp only [Option.some.injEq] at hk
    omega

set_option maxHeartbeats 2000000 in
theorem spec_l4Pack (v : Value) (xs : List Int) (w : World) (h : Ints w v xs) (hl : xs.length ≤ 200) :
    Calls Try.prog 75 #[v] w (NewInts1 w (packP xs)) := by
  obtain ⟨R, hR⟩ : ∃ R, packP xs = R := ⟨_, rfl⟩
  rw [hR]
  have H0 : Hid ([] ++ packF xs (xs.length - 0) 0 [] = R) := Lib.hid hR
  have HR : Hid (R.length ≤ 210) := Lib.hid (by rw [← hR]; have := packP_len xs; omega)
  have C1 : Hid (∀ wn (j : Nat), j ≤ 200 → Below w.heap.size w wn → Calls Try.prog 88 #[v, .int .i64 (j : Int)] wn (BestRes (bestB xs j (min j 200)) wn)) := fun wn j hj hw => spec_l4Best v xs j wn (h.below hw) hj (by omega)
  have C2 : Hid (∀ wn u ys, Ints wn u ys → ys.length ≤ 1000 → Calls Try.prog 89 #[u] wn (NewInts1 wn (plainP ys))) := fun wn u ys hu hy => spec_l4Plain u ys wn hu hy
  have hv := h
  obtain ⟨a, cap, rfl, l1, m1, c0⟩ := h
  unfold maxLen at m1
  have HC := Lib.hid c0
  have own0 : Own ((w.alloc (.cells #[] 3)).alloc (.cells #[] 3)) w.heap.size (.slice (some ⟨w.heap.size, 0, none⟩) 0 0) [] := (own_empty w _ (Nat.le_refl _)).below (alloc_below' _ _)
  have own1 : Own ((w.alloc (.cells #[] 3)).alloc (.cells #[] 3)) w.heap.size (.slice (some ⟨w.heap.size + 1, 0, none⟩) 0 0) [] := by
    have := own_empty (w.alloc (.cells #[] 3)) w.heap.size (by simp)
    have e : (w.alloc (.cells #[] 3)).heap.size = w.heap.size + 1 := by simp
    rwa [e] at this
  have ap0 : Apart (.slice (some ⟨w.heap.size, 0, none⟩) 0 0) (.slice (some ⟨w.heap.size + 1, 0, none⟩) 0 0) := fun k hk e => by
    simp only [Value.ownBlock, Option.some.injEq] at hk e
    omega
  have b0 := Bstep (alloc_below' w (.cells #[] 3)) (alloc_below' _ (.cells #[] 3))
  clear c0 hR
  go_enter Try.func75, Try.ntmps75
  go_wp2_with fail
  go_loopw [3, 4, 5] (fun r p i wr => ∃ (j : Nat) (cur pl : List Int), i = .int .i64 j ∧ j ≤ xs.length ∧ Own wr w.heap.size r cur ∧ Own wr w.heap.size p pl ∧ Apart r p ∧ pl.length ≤ j ∧ Hid (cur ++ packF xs (xs.length - j) j pl = R) ∧ Below w.heap.size w wr) (fun _ _ i _ => xs.length - (intOf i).toNat)
  case atStart => exact ⟨0, [], [], rfl, Nat.zero_le _, own0, own1, ap0, Nat.le_refl _, H0, b0⟩
  case round =>
    obtain ⟨j, cur, pl, rfl, hj, hor, hop, hap, hpl, heq, hbel⟩ := hrel
    have hsz := hbel.size
    have hcl : cur.length ≤ 210 := by have h1 := HR.out; rw [← heq.out, List.length_append] at h1; omega
    by_cases hlt : j < xs.length
    · obtain ⟨b, off, rfl, hcell0⟩ := HC.out (by omega)
      have hx := (hbel.cell (World.block_lt_of_cell? w _ (hcell0 j hlt))).trans (hcell0 j hlt)
      have hq := heq.out
      rw [show xs.length - j = (xs.length - (j + 1)) + 1 by omega] at hq
      unfold packF at hq
      rw [if_pos hlt] at hq
      have D1' := C1.out wr j (by omega) hbel
      obtain ⟨q1, q2, q3⟩ := bestB_le xs j (min j 200)
      obtain ⟨⟨L, B⟩, hLB⟩ : ∃ g, bestB xs j (min j 200) = g := ⟨_, rfl⟩
      rw [hLB] at D1' hq q1 q2 q3
      simp only at hq q1 q2 q3
      have D1 := Lib.hid D1'
      obtain ⟨x, ex⟩ : ∃ x, xs.getD j 0 = x := ⟨_, rfl⟩
      rw [ex] at hx hq
      clear D1' hLB hcell0 ex
      by_cases hL : L < 3
      · rw [if_pos hL] at hq
        have d1 : decide ((L : Int) < 3) = true := decide_eq_true (by omega)
        have d2 : decide (L < 3) = true := decide_eq_true hL
        have HQ := Lib.hid hq
        clear hq
        go_wp2_with fail
        refine D1.out.mono ?_
        rintro e w2 ⟨rfl, b2⟩
        have hor2 := hor.below b2
        have hop2 := hop.below b2
        have hbel2 := Bstep hbel b2
        have hbl : b < wr.heap.size := World.block_lt_of_cell? wr _ hx
        have hx2 := (b2.cell (p := ⟨b, off + j, none⟩) hbl).trans hx
        have B3 := alloc_below' w2 (.cells #[.int .i64 x] 3)
        have hsz3 : w.heap.size ≤ (w2.alloc (.cells #[.int .i64 x] 3)).heap.size := Nat.le_trans hbel2.size B3.size
        have hop3 := hop2.below B3
        have hor3 := hor2.below B3
        clear hx hor hop
        go_wp2_with (at_builtin; refine wp_appW rfl _ _ rfl w.heap.size _ (.slice (some ⟨w2.heap.size, 0, none⟩) 1 1) pl [x] rfl rfl hop3 (lit1 w2 x) (by simp; omega) hsz3 ?_; intro v4 w4 own4 g4 at4)
        go_roundw
        case rel =>
          exact ⟨j + 1, cur, pl ++ [x], by go_num, by omega, hor3.growA g4 hap, own4, hap.step hor3 (Nat.le_refl _) at4, by rw [List.length_append, List.length_singleton]; omega, HQ, (Bstep hbel2 B3).grown g4 hsz3 hop3.lt⟩
        case measure => simp [intOf]; omega
      · rw [if_neg hL] at hq
        have d1 : decide ((L : Int) < 3) = false := decide_eq_false (by omega)
        have d2 : decide (L < 3) = false := decide_eq_false hL
        have e1 : ((61 + L : Nat) : Int) = 61 + (L : Int) := by omega
        rw [e1, packF_more xs (xs.length - (j + 1)) (xs.length - (j + L)) (j + L) [] (by omega) (by omega)] at hq
        have HQ := Lib.hid hq
        have hplen := plainP_len pl
        obtain ⟨pp, hpp⟩ : ∃ pp, plainP pl = pp := ⟨_, rfl⟩
        rw [hpp] at hplen
        have HPP := Lib.hid hpp
        have hppl : pp.length ≤ 300 := by omega
        have s1 : IntKind.i64.wrap (64 + (L : Int)) = 64 + (L : Int) := IntWalk.i64_in _ ⟨by omega, by omega⟩
        have s2 : IntKind.i64.wrap (64 + (L : Int) - 3) = 61 + (L : Int) := by rw [IntWalk.i64_in _ ⟨by omega, by omega⟩]; omega
        have s3 : 64 + (L : Int) - 3 = 61 + (L : Int) := by omega
        clear hq e1 hpp hplen hx
        go_wp2_with fail
        refine D1.out.mono ?_
        rintro e w2 ⟨rfl, b2⟩
        have hor2 := hor.below b2
        have hop2 := hop.below b2
        have hbel2 := Bstep hbel b2
        have D2' := C2.out w2 _ pl hop2.ints (by omega)
        rw [HPP.out] at D2'
        have D2 := Lib.hid D2'
        clear hor hop D2'
        go_wp2_with fail
        refine D2.out.mono ?_
        rintro e w3 ⟨v3, rfl, own3, b3⟩
        have hor3 := hor2.below b3
        have hbel3 := Bstep hbel2 b3
        have hsz3 := hbel3.size
        go_wp2_with (first
          | (at_builtin; refine wp_appW rfl _ _ rfl w.heap.size u3 v3 cur pp rfl rfl hor3 own3.ints (by omega) hsz3 ?_; intro v4 w4 own4 g4 at4; have hbel4 := hbel3.grown g4 hsz3 hor3.lt; have B5 := alloc_below' w4 (.cells #[.int .i64 (61 + (L : Int)), .int .i64 (B : Int)] 3); have own5 := own4.below B5; have hsz5 : w.heap.size ≤ (w4.alloc (.cells #[.int .i64 (61 + (L : Int)), .int .i64 (B : Int)] 3)).heap.size := Nat.le_trans hbel4.size B5.size)
          | (at_builtin; refine wp_appW rfl _ _ rfl w.heap.size v4 (.slice (some ⟨w4.heap.size, 0, none⟩) 2 2) (cur ++ pp) [61 + (L : Int), (B : Int)] rfl rfl own5 (lit2 w4 _ _) (by simp; omega) hsz5 ?_; intro v6 w6 own6 g6 at6))
        have hbel6 : Below w.heap.size w w6 := (Bstep hbel4 B5).grown g6 hsz5 own5.lt
        refine ⟨⟨j + L, cur ++ pp ++ [61 + (L : Int), (B : Int)], [], by go_num, by omega, own6.below (alloc_below' _ _), own_empty w6 _ hbel6.size, ?_, Nat.zero_le _, ?_, Bstep hbel6 (alloc_below' _ _)⟩, by simp [intOf]; omega⟩
        · intro k hk e
          have h1 := own6.lt2 k e
          simp only [Value.ownBlock, Option.some.injEq] at hk
          omega
        · have hh := HQ.out
          rw [HPP.out] at hh
          unfold Hid
          rw [← hh]
          simp
    · obtain rfl : j = xs.length := by omega
      have hq := heq.out
      rw [Nat.sub_self] at hq
      have hq2 : cur ++ plainP pl = R := hq
      have D2' := C2.out wr _ pl hop.ints (by omega)
      have hplen := plainP_len pl
      obtain ⟨pp, hpp⟩ : ∃ pp, plainP pl = pp := ⟨_, rfl⟩
      rw [hpp] at D2' hq2 hplen
      have D2 := Lib.hid D2'
      have HQ := Lib.hid hq2
      have hppl : pp.length ≤ 300 := by omega
      clear D2' hpp hq hq2 hplen
      go_wp2_with fail
      refine D2.out.mono ?_
      rintro e w3 ⟨v3, rfl, own3, b3⟩
      have hor3 := hor.below b3
      have hbel3 := Bstep hbel b3
      have hsz3 := hbel3.size
      go_wp2_with (at_builtin; refine wp_appW rfl _ _ rfl w.heap.size u3 v3 cur pp rfl rfl hor3 own3.ints (by omega) hsz3 ?_; intro v4 w4 own4 g4 at4)
      go_ret
      rw [HQ.out] at own4
      exact ⟨_, rfl, own4, hbel3.grown g4 hsz3 hor3.lt⟩

/-- what packing answers -/
def pckB (xs : List Int) : Bool := okBs xs && decide (xs.length ≤ 200)
def pckL (xs : List Int) : List Int := if pckB xs = true then packP xs else []
theorem pckL_len (xs : List Int) : (pckL xs).length ≤ 210 := by
  unfold pckL pckB
  split
  · rename_i h
    have h2 := of_decide_eq_true (Bool.and_eq_true_iff.1 h).2
    have := packP_len xs
    omega
  · simp
theorem pckB_iff {xs : List Int} : pckB xs = true ↔ okBs xs = true ∧ xs.length ≤ 200 := by unfold pckB; rw [Bool.and_eq_true, decide_eq_true_eq]
/-- how many bytes a packed form is shorter -/
def gainN (xs : List Int) : Int := if pckB xs = true then (xs.length : Int) - ((packP xs).length : Int) else 0
theorem tri_arr : ArrKey Try.prog 137 3 3 := ⟨Try.underlying137, by kernel_rfl, by kernel_rfl, by kernel_rfl⟩
theorem tri_law : KeyLaw Try.prog 137 := tri_arr.law
theorem tri_key {a b c : Int} (wa : (Lit.int .i64 a).wf = true) (wb : (Lit.int .i64 b).wf = true) (wc : (Lit.int .i64 c).wf = true) : ∃ l, keyOf Try.prog 137 (.agg #[.int .i64 a, .int .i64 b, .int .i64 c]) = some l := by
  have hsz : ∃ m, Try.prog.types.size = m + 1 := ⟨_, Nat.succ_pred_eq_of_pos (by decide +kernel) |>.symm⟩
  have hkt := tri_arr.keyType hsz
  obtain ⟨m, hm⟩ := hsz
  unfold keyOf
  simp only [tri_arr.hu]
  rw [if_pos (by simp [hkt, Value.formed, tri_arr.hu, tri_arr.size]), hm]
  unfold Program.keyLits
  simp only [tri_arr.hu, Value.cells]
  rw [if_pos (by rw [tri_arr.size]; rfl), show List.range 3 = [0, 1, 2] from rfl]
  simp [tri_arr.one, Program.keyLits, Try.underlying3, wa, wb, wc]
/-- numbers that fit -/
def Fits (xs : List Int) : Prop := ∀ i, (Lit.int .i64 (xs.getD i 0)).wf = true
theorem trip_key {xs : List Int} (h : Fits xs) (q : Nat) : ∃ l, keyOf Try.prog 137 (trip xs q) = some l := tri_key (h _) (h _) (h _)
theorem tri_zero (w : World) : (zeroValue 25).run Try.prog w = .ok (.slice none 0 0) w := by kernel_rfl

theorem key_at {l : List MapEntry} (hn : (l.map (·.key)).Nodup) {i j : Nat} {a b : MapEntry} (ha : l[i]? = some a) (hb : l[j]? = some b) (h : a.key = b.key) : i = j := by
  have hi : i < l.length := (List.getElem?_eq_some_iff.1 ha).1
  exact (List.getElem?_inj (l := l.map (·.key)) (by simpa using hi) hn).1 (by simp [ha, hb, h])
/-- 'm[k] = ..' with the old element read first, as two operations -/
theorem entry_two {w : World} {b : Nat} {es : Array MapEntry} {clock : Nat} {key : Value} {kl : Lit} (hb : w.heap[b]? = some (.map es clock)) (hs : MapKept.Stamped es clock) (hsz : es.size ≤ maxLen)
    (hks : ∀ x ∈ es.toList, ∃ l, keyOf Try.prog 137 x.key = some l) (hkey : keyOf Try.prog 137 key = some kl) :
    ∃ (v0 : Value) (st : Nat) (es1 : Array MapEntry) (c1 : Nat), (Instr.mapEntry 129 (.map (some b)) key).run Try.prog w = .ok (.tuple #[v0, goInt st]) (setBlock w b (.map es1 c1)) ∧
      ((∃ e0 ∈ es.toList, e0.key = key ∧ v0 = e0.val) ∨ ((∀ x ∈ es.toList, x.key ≠ key) ∧ v0 = .slice none 0 0)) ∧
      ∀ val, ∃ es2 c2, MapKept.Stamped es2 c2 ∧ es2.size ≤ es.size + 1 ∧ (∀ w2 : World, w2.heap[b]? = some (.map es1 c1) → (Instr.entryStore 129 (.map (some b)) (goInt st) val).run Try.prog w2 = .ok () (setBlock w2 b (.map es2 c2))) ∧
        (∀ y ∈ es2.toList, (y ∈ es.toList ∧ y.key ≠ key) ∨ (y.key = key ∧ y.val = val)) ∧ (∀ x ∈ es.toList, x.key ≠ key → x ∈ es2.toList) ∧ ∃ y ∈ es2.toList, y.key = key := by
  have F : Fit Try.prog 137 (fun _ => some ((.nil : DataW Unit), ([] : List MemPlace))) es clock := ⟨hsz, hs, fun x hx => by
    obtain ⟨l, hl⟩ := hks x hx
    exact ⟨(l, .nil), by simp [Go.WideElems.rd, hl]⟩⟩
  obtain ⟨v0, st, es1, c1, r1, r2, r3⟩ := entry_then_store tri_law Try.underlying129 tri_zero hb F hkey
  refine ⟨v0, st, es1, c1, r1, r2, fun val => ?_⟩
  have same : ∀ {es2 c2}, (Instr.mapUpdate 129 (.map (some b)) key val).run Try.prog w = .ok () (setBlock w b (.map es2 c2)) → ∀ w2 : World, w2.heap[b]? = some (.map es1 c1) → (Instr.entryStore 129 (.map (some b)) (goInt st) val).run Try.prog w2 = .ok () (setBlock w2 b (.map es2 c2)) := by
    intro es2 c2 hu w2 hw2
    obtain ⟨es', c', q1, q2⟩ := r3 w2 val hw2
    rw [hu] at q2
    have e : setBlock w b (.map es2 c2) = setBlock w b (.map es' c') := by simpa using q2
    have e1 := congrArg (fun W : World => W.heap[b]?) e
    simp only [heap_setBlock_same hb, Option.some.injEq, Obj.map.injEq] at e1
    obtain ⟨rfl, rfl⟩ := e1
    exact q1
  rcases tri_law.find w hkey es.toList hks with ⟨h1, h2⟩ | ⟨j, e0, h1, h2, h3⟩
  · refine ⟨es.push ⟨key, val, clock⟩, clock + 1, MapKept.stamped_push hs h2, by simp, same ?_, ?_, ?_, ?_⟩
    · simp [Instr.mapUpdate, run_underlying Try.underlying129, MapKept.run_getObj_map hb, tri_law.check w false hkey, h1, MapKept.run_setObj_map _ hb, Result.andThen, setBlock]
    · intro y hy
      simp only [Array.toList_push, List.mem_append, List.mem_singleton] at hy
      rcases hy with hy | rfl
      · exact .inl ⟨hy, h2 y hy⟩
      · exact .inr ⟨rfl, rfl⟩
    · intro x hx hne
      rw [Array.toList_push]
      exact List.mem_append_left _ hx
    · exact ⟨⟨key, val, clock⟩, by simp, rfl⟩
  · have hj : es[j]? = some e0 := by simpa using h2
    have hjl : j < es.toList.length := (List.getElem?_eq_some_iff.1 h2).1
    have hlist : (es.modify j (fun e' => { e' with key := key, val := val })).toList = es.toList.set j { e0 with key := key, val := val } := by
      rw [Array.toList_modify, modify_eq_set _ _ _ _ h2]
    refine ⟨es.modify j (fun e' => { e' with key := key, val := val }), clock, MapKept.stamped_modify hs j _ (fun _ _ => rfl) (fun e he hje => ?_), by simp, same ?_, ?_, ?_, ?_⟩
    · rw [hj] at hje
      obtain rfl := Option.some.inj hje
      exact h3.symm
    · simp [Instr.mapUpdate, run_underlying Try.underlying129, MapKept.run_getObj_map hb, tri_law.check w false hkey, h1, hj, h3, tri_law.stays w hkey, MapKept.run_setObj_map _ hb, Result.andThen, setBlock]
    · intro y hy
      rw [hlist] at hy
      obtain ⟨i, hi⟩ := List.mem_iff_getElem?.1 hy
      by_cases hij : j = i
      · subst hij
        rw [List.getElem?_set_self hjl] at hi
        obtain rfl := Option.some.inj hi
        exact .inr ⟨rfl, rfl⟩
      · rw [List.getElem?_set_ne hij] at hi
        exact .inl ⟨List.mem_of_getElem? hi, fun hk => hij (key_at hs.2.2 h2 hi (h3.trans hk.symm))⟩
    · intro x hx hne
      rw [hlist]
      obtain ⟨i, hi⟩ := List.mem_iff_getElem?.1 hx
      have hij : j ≠ i := fun e => by
        subst e
        rw [h2] at hi
        obtain rfl := Option.some.inj hi
        exact hne h3
      exact List.mem_of_getElem? ((List.getElem?_set_ne hij).trans hi)
    · exact ⟨{ e0 with key := key, val := val }, by rw [hlist]; exact List.mem_of_getElem? (List.getElem?_set_self hjl), rfl⟩

/-- three numbers at two places are the same -/
def plcOf (xs : List Int) (n q : Nat) : List Nat := (List.range n).filter (fun p => decide (p + 3 ≤ xs.length ∧ xs.getD p 0 = xs.getD q 0 ∧ xs.getD (p + 1) 0 = xs.getD (q + 1) 0 ∧ xs.getD (p + 2) 0 = xs.getD (q + 2) 0))
theorem trip_eq {xs : List Int} {p q : Nat} : trip xs p = trip xs q ↔ xs.getD p 0 = xs.getD q 0 ∧ xs.getD (p + 1) 0 = xs.getD (q + 1) 0 ∧ xs.getD (p + 2) 0 = xs.getD (q + 2) 0 := by
  simp [trip]
theorem plcOf_congr {xs : List Int} {n p q : Nat} (h : trip xs p = trip xs q) : plcOf xs n p = plcOf xs n q := by
  obtain ⟨h1, h2, h3⟩ := trip_eq.1 h
  unfold plcOf
  rw [h1, h2, h3]
theorem plcOf_here {xs : List Int} {n q : Nat} (hn : n + 3 ≤ xs.length) (h : trip xs n = trip xs q) : plcOf xs (n + 1) q = plcOf xs n q ++ [n] := by
  unfold plcOf
  rw [List.range_succ, List.filter_append]
  have hd : decide (n + 3 ≤ xs.length ∧ xs.getD n 0 = xs.getD q 0 ∧ xs.getD (n + 1) 0 = xs.getD (q + 1) 0 ∧ xs.getD (n + 2) 0 = xs.getD (q + 2) 0) = true := decide_eq_true ⟨hn, trip_eq.1 h⟩
  congr 1
  simp only [List.filter, hd]
theorem plcOf_other {xs : List Int} {n q : Nat} (h : ¬ (n + 3 ≤ xs.length) ∨ trip xs n ≠ trip xs q) : plcOf xs (n + 1) q = plcOf xs n q := by
  unfold plcOf
  rw [List.range_succ, List.filter_append]
  have : ¬ (n + 3 ≤ xs.length ∧ xs.getD n 0 = xs.getD q 0 ∧ xs.getD (n + 1) 0 = xs.getD (q + 1) 0 ∧ xs.getD (n + 2) 0 = xs.getD (q + 2) 0) := fun hh => by
    rcases h with h | h
    · exact h hh.1
    · exact h (trip_eq.2 hh.2)
  rw [List.filter_cons_of_neg (by simpa using this), List.filter_nil, List.append_nil]
theorem plcOf_none {xs : List Int} {n q : Nat} (h : ∀ p, p < n → p + 3 ≤ xs.length → trip xs p ≠ trip xs q) : plcOf xs n q = [] := by
  unfold plcOf
  rw [List.filter_eq_nil_iff]
  intro p hp hh
  simp only [decide_eq_true_eq] at hh
  exact h p (List.mem_range.1 hp) hh.1 (trip_eq.2 hh.2)
theorem plcOf_len (xs : List Int) (n q : Nat) : (plcOf xs n q).length ≤ n := by
  unfold plcOf
  have := List.length_filter_le (fun p => decide (p + 3 ≤ xs.length ∧ xs.getD p 0 = xs.getD q 0 ∧ xs.getD (p + 1) 0 = xs.getD (q + 1) 0 ∧ xs.getD (p + 2) 0 = xs.getD (q + 2) 0)) (List.range n)
  simpa using this
/-- places as numbers -/
def nums (l : List Nat) : List Int := l.map (fun p : Nat => (p : Int))

/-- block b tells, for each three numbers that begin ahead of place n, where; none of its rows lies where r does -/
def Plc (w : World) (b : Nat) (xs : List Int) (n : Nat) (r : Value) : Prop :=
  ∃ es clock, w.heap[b]? = some (.map es clock) ∧ MapKept.Stamped es clock ∧ es.size ≤ n ∧ (∀ x ∈ es.toList, ∃ q, x.key = trip xs q ∧ Own w (b + 1) x.val (nums (plcOf xs n q))) ∧
    (∀ q, q < n → q + 3 ≤ xs.length → ∃ x ∈ es.toList, x.key = trip xs q) ∧ (∀ x ∈ es.toList, ∀ y ∈ es.toList, x.key ≠ y.key → Apart x.val y.val) ∧ ∀ x ∈ es.toList, Apart x.val r
theorem grown_noneB {a b : World} (h : Below a.heap.size a b) : a.grownBy b none := ⟨h.os, h.tape, h.output, h.size, fun i hi _ => h.block i hi⟩
theorem Plc.made (w : World) (xs : List Int) (r : Value) : Plc (w.alloc (.map #[] 0)) w.heap.size xs 0 r := ⟨#[], 0, heap_alloc_new w _, MapKept.stamped_empty 0, by simp, by simp, by omega, by simp, by simp⟩
theorem Plc.lt {w : World} {b n : Nat} {xs : List Int} {r : Value} (h : Plc w b xs n r) : b < w.heap.size := by
  obtain ⟨es, clock, hb, _⟩ := h
  exact (Array.getElem?_eq_some_iff.1 hb).1
theorem Plc.grown {w w' : World} {b n : Nat} {xs : List Int} {r : Value} {row : Option Nat} (h : Plc w b xs n r) (hg : w.grownBy w' row) (hr : ∀ k, row = some k → k < b ∨ (r.ownBlock = some k ∧ k ≠ b)) : Plc w' b xs n r := by
  have hlt := h.lt
  obtain ⟨es, clock, hb, h1, h2, h3, h4, h5, h6⟩ := h
  refine ⟨es, clock, (hg.block b hlt fun e => ?_).trans hb, h1, h2, fun x hx => ?_, h4, h5, h6⟩
  · rcases hr b e.symm with h | ⟨_, h⟩
    · omega
    · exact h rfl
  · obtain ⟨q, e, ho⟩ := h3 x hx
    refine ⟨q, e, ho.grown hg ?_⟩
    cases ex : x.val.ownBlock with
    | none => exact .inl rfl
    | some k =>
      refine .inr fun e2 => ?_
      have hk := ho.lt k ex
      rcases hr k e2.symm with h | ⟨h, _⟩
      · omega
      · exact h6 x hx k h ex
theorem Plc.below {w w' : World} {b n : Nat} {xs : List Int} {r : Value} (h : Plc w b xs n r) (hb : Below w.heap.size w w') : Plc w' b xs n r := h.grown (row := none) (grown_noneB hb) (fun k e => by cases e)
/-- what is shunned may move to where nothing was -/
theorem Plc.move {w : World} {b n : Nat} {xs : List Int} {r r' : Value} (h : Plc w b xs n r) (hr : r'.ownBlock = r.ownBlock ∨ ∀ k, r'.ownBlock = some k → w.heap.size ≤ k) : Plc w b xs n r' := by
  obtain ⟨es, clock, hb, h1, h2, h3, h4, h5, h6⟩ := h
  refine ⟨es, clock, hb, h1, h2, h3, h4, h5, fun x hx k hk e => ?_⟩
  rcases hr with h | h
  · exact h6 x hx k (h ▸ hk) e
  · obtain ⟨q, _, ho⟩ := h3 x hx
    have := ho.lt2 k e
    have := h k hk
    omega
/-- 'm[k]' -/
theorem Plc.look {w : World} {b n : Nat} {xs : List Int} {r : Value} (h : Plc w b xs n r) (hf : Fits xs) (hn : n ≤ 100000) (q : Nat) :
    ∃ u, (Instr.lookup 129 (.map (some b)) (trip xs q) false).run Try.prog w = .ok u w ∧ Own w (b + 1) u (nums (plcOf xs n q)) := by
  obtain ⟨es, clock, hb, h1, h2, h3, h4, h5, _⟩ := h
  obtain ⟨kl, hkey⟩ := trip_key hf q
  have hks : ∀ x ∈ es.toList, ∃ l, keyOf Try.prog 137 x.key = some l := fun x hx => by
    obtain ⟨p, e, _⟩ := h3 x hx
    rw [e]
    exact trip_key hf p
  have F : Fit Try.prog 137 (fun _ => some ((.nil : DataW Unit), ([] : List MemPlace))) es clock := ⟨by unfold maxLen; omega, h1, fun x hx => by
    obtain ⟨l, hl⟩ := hks x hx
    exact ⟨(l, .nil), by simp [Go.WideElems.rd, hl]⟩⟩
  rcases Maps.fit_look false (Go.Maps.Keyed.of_law tri_law) Try.underlying129 (tri_zero w) hb F hkey with ⟨hrun, hno, _⟩ | ⟨e0, y, he0, hk, hrun, _⟩
  · refine ⟨.slice none 0 0, by simpa using hrun, ?_⟩
    rw [plcOf_none (fun p hp hp3 e => by
      obtain ⟨x, hx, hxk⟩ := h4 p hp hp3
      exact hno x hx (hxk.trans e))]
    exact own_nil w (b + 1)
  · refine ⟨e0.val, by simpa using hrun, ?_⟩
    obtain ⟨p, e, ho⟩ := h3 e0 he0
    rw [plcOf_congr (show trip xs q = trip xs p from (hk.symm.trans e))]
    exact ho
-- M1

theorem grown_setBlock {w : World} {b : Nat} {es : Array MapEntry} {clock : Nat} (hb : w.heap[b]? = some (.map es clock)) (o : Obj) : w.grownBy (setBlock w b o) (some b) :=
  ⟨rfl, rfl, rfl, by simp [setBlock], fun k hk hne => heap_setBlock_other hb o (fun e => hne (by rw [e]))⟩
theorem Own.byRow {w w' : World} {base b : Nat} {v : Value} {xs : List Int} (h : Own w base v xs) (hb : b < base) (hg : w.grownBy w' (some b)) : Own w' base v xs :=
  h.grown hg (by
    cases e : v.ownBlock with
    | none => exact .inl rfl
    | some k => refine .inr fun e2 => ?_; have := h.lt k e; simp only [Option.some.injEq] at e2; omega)

theorem Plc.put {w : World} {b n : Nat} {xs : List Int} {r : Value} (h : Plc w b xs n r) (hf : Fits xs) (hn : n + 3 ≤ xs.length) (hsz : n ≤ 100000) (hr : ∀ k, r.ownBlock = some k → k < w.heap.size) :
    ∃ (v0 : Value) (st : Nat) (w2 : World), (Instr.mapEntry 129 (.map (some b)) (trip xs n)).run Try.prog w = .ok (.tuple #[v0, .int .i64 (st : Int)]) w2 ∧ Own w2 (b + 1) v0 (nums (plcOf xs n n)) ∧ w.grownBy w2 (some b) ∧ w2.heap.size = w.heap.size ∧ Apart v0 r ∧
      ∀ (v' : Value) (w3 : World), Own w3 (b + 1) v' (nums (plcOf xs n n) ++ [(n : Int)]) → w2.grownBy w3 v0.ownBlock → (v'.ownBlock = v0.ownBlock ∨ v'.ownBlock = some w2.heap.size) →
        ∃ w4, (Instr.entryStore 129 (.map (some b)) (.int .i64 (st : Int)) v').run Try.prog w3 = .ok () w4 ∧ Plc w4 b xs (n + 1) r ∧ w3.grownBy w4 (some b) := by
  have hlt := h.lt
  obtain ⟨es, clock, hb, h1, h2, h3, h4, h5, h6⟩ := h
  obtain ⟨kl, hkey⟩ := trip_key hf n
  have hks : ∀ x ∈ es.toList, ∃ l, keyOf Try.prog 137 x.key = some l := fun x hx => by
    obtain ⟨p, e, _⟩ := h3 x hx
    rw [e]
    exact trip_key hf p
  obtain ⟨v0, st, es1, c1, run1, hv0, hst⟩ := entry_two hb h1 (by unfold maxLen; omega) hks hkey
  have g1 := grown_setBlock hb (.map es1 c1)
  have own0 : Own w (b + 1) v0 (nums (plcOf xs n n)) := by
    rcases hv0 with ⟨e0, he0, hk, rfl⟩ | ⟨hno, rfl⟩
    · obtain ⟨p, e, ho⟩ := h3 e0 he0
      rw [plcOf_congr (show trip xs n = trip xs p from hk.symm.trans e)]
      exact ho
    · rw [plcOf_none (fun p hp hp3 e => by
        obtain ⟨x, hx, hxk⟩ := h4 p hp hp3
        exact hno x hx (hxk.trans e))]
      exact own_nil w (b + 1)
  have ap0 : Apart v0 r := by
    rcases hv0 with ⟨e0, he0, hk, rfl⟩ | ⟨hno, rfl⟩
    · exact h6 e0 he0
    · exact fun k _ e => by simp [Value.ownBlock] at e
  have apo : ∀ x ∈ es.toList, x.key ≠ trip xs n → Apart x.val v0 := by
    intro x hx hne
    rcases hv0 with ⟨e0, he0, hk, rfl⟩ | ⟨hno, rfl⟩
    · exact h5 x hx e0 he0 (fun e => hne (e.trans hk))
    · exact fun k e _ => by simp [Value.ownBlock] at e
  refine ⟨v0, st, _, run1, own0.byRow (Nat.lt_succ_self b) g1, g1, by simp [setBlock], ap0, fun v' w3 own3 g3 hat => ?_⟩
  obtain ⟨es2, c2, s1, s2, s3, s4, s5, s6⟩ := hst v'
  have hb1 : (setBlock w b (.map es1 c1)).heap[b]? = some (.map es1 c1) := heap_setBlock_same hb _
  have hsz1 : (setBlock w b (.map es1 c1)).heap.size = w.heap.size := by simp [setBlock]
  have hb3 : w3.heap[b]? = some (.map es1 c1) := (g3.block b (by rw [hsz1]; exact hlt) (fun e => by have := own0.lt b e.symm; omega)).trans hb1
  have g4 := grown_setBlock hb3 (.map es2 c2)
  have old : ∀ x ∈ es.toList, x.key ≠ trip xs n → ∀ q, Own w (b + 1) x.val (nums (plcOf xs n q)) → Own (setBlock w3 b (.map es2 c2)) (b + 1) x.val (nums (plcOf xs n q)) := by
    intro x hx hne q ho
    refine ((ho.byRow (Nat.lt_succ_self b) g1).grown g3 ?_).byRow (Nat.lt_succ_self b) g4
    cases ex : x.val.ownBlock with
    | none => exact .inl rfl
    | some k => exact .inr fun e2 => apo x hx hne k e2.symm ex
  have apn : ∀ x ∈ es.toList, x.key ≠ trip xs n → Apart x.val v' := by
    intro x hx hne k hk e
    rcases hat with h | h
    · exact apo x hx hne k (h ▸ hk) e
    · obtain ⟨q, _, ho⟩ := h3 x hx
      have := ho.lt2 k e
      rw [h, hsz1] at hk
      simp only [Option.some.injEq] at hk
      omega
  refine ⟨_, s3 w3 hb3, ⟨es2, c2, heap_setBlock_same hb3 _, s1, by omega, ?_, ?_, ?_, ?_⟩, g4⟩
  · intro y hy
    rcases s4 y hy with ⟨hy0, hne⟩ | ⟨hk, rfl⟩
    · obtain ⟨q, e, ho⟩ := h3 y hy0
      exact ⟨q, e, by rw [plcOf_other (.inr fun e2 => hne (e.trans e2.symm))]; exact old y hy0 hne q ho⟩
    · refine ⟨n, hk, ?_⟩
      rw [plcOf_here hn rfl]
      have : nums (plcOf xs n n ++ [n]) = nums (plcOf xs n n) ++ [(n : Int)] := by simp [nums]
      rw [this]
      exact own3.byRow (Nat.lt_succ_self b) g4
  · intro q hq hq3
    by_cases e : trip xs q = trip xs n
    · obtain ⟨y, hy, hk⟩ := s6
      exact ⟨y, hy, hk.trans e.symm⟩
    · have hqn : q ≠ n := fun e2 => e (by rw [e2])
      obtain ⟨x, hx, hk⟩ := h4 q (by omega) hq3
      exact ⟨x, s5 x hx (fun e2 => e (hk.symm.trans e2)), hk⟩
  · intro x hx y hy hne
    rcases s4 x hx with ⟨hx0, hxk⟩ | ⟨hxk, hxv⟩
    · rcases s4 y hy with ⟨hy0, hyk⟩ | ⟨hyk, hyv⟩
      · exact h5 x hx0 y hy0 hne
      · rw [hyv]; exact apn x hx0 hxk
    · rcases s4 y hy with ⟨hy0, hyk⟩ | ⟨hyk, hyv⟩
      · rw [hxv]; exact (apn y hy0 hyk).comm
      · exact absurd (hxk.trans hyk.symm) hne
  · intro x hx
    rcases s4 x hx with ⟨hx0, hxk⟩ | ⟨hxk, hxv⟩
    · exact h6 x hx0
    · rw [hxv]
      intro k hk e
      rcases hat with h | h
      · exact ap0 k hk (h ▸ e)
      · rw [h, hsz1] at e
        simp only [Option.some.injEq] at e
        have := hr k hk
        omega
-- W4g

/-- what lies ahead of block b, and where r lies, has not turned -/
def KeptP (w w' : World) (b : Nat) (r : Value) : Prop := w'.os = w.os ∧ w'.tape = w.tape ∧ w'.output = w.output ∧ w.heap.size ≤ w'.heap.size ∧ ∀ k, k < w.heap.size → (k < b ∨ (r.ownBlock = some k ∧ k ≠ b)) → w'.heap[k]? = w.heap[k]?
theorem KeptP.refl (w : World) (b : Nat) (r : Value) : KeptP w w b r := ⟨rfl, rfl, rfl, Nat.le_refl _, fun _ _ _ => rfl⟩
theorem KeptP.trans {a c d : World} {b : Nat} {r : Value} (h : KeptP a c b r) (k : KeptP c d b r) : KeptP a d b r :=
  ⟨k.1.trans h.1, k.2.1.trans h.2.1, k.2.2.1.trans h.2.2.1, Nat.le_trans h.2.2.2.1 k.2.2.2.1, fun i hi hk => (k.2.2.2.2 i (Nat.lt_of_lt_of_le hi h.2.2.2.1) hk).trans (h.2.2.2.2 i hi hk)⟩
theorem KeptP.of_below {w w' : World} {b : Nat} {r : Value} (h : Below w.heap.size w w') : KeptP w w' b r := ⟨h.os, h.tape, h.output, h.size, fun k hk _ => h.block k hk⟩
theorem KeptP.of_map {w w' : World} {b : Nat} {r : Value} (h : w.grownBy w' (some b)) : KeptP w w' b r := ⟨h.os, h.tape, h.output, h.size, fun k hk hb => h.block k hk fun e => by
  simp only [Option.some.injEq] at e
  rcases hb with h | ⟨_, h⟩
  · omega
  · exact h e⟩
theorem KeptP.of_row {w w' : World} {b : Nat} {r v : Value} (h : w.grownBy w' v.ownBlock) (hv : ∀ k, v.ownBlock = some k → b < k) (ha : Apart v r) : KeptP w w' b r := ⟨h.os, h.tape, h.output, h.size, fun k hk hb => h.block k hk fun e => by
  rcases hb with h | ⟨h, _⟩
  · have := hv k e.symm; omega
  · exact ha k h e.symm⟩
theorem Plc.skip {w : World} {b n : Nat} {xs : List Int} {r : Value} (h : Plc w b xs n r) (hn : ¬ (n + 3 ≤ xs.length)) : Plc w b xs (n + 1) r := by
  obtain ⟨es, clock, hb, h1, h2, h3, h4, h5, h6⟩ := h
  refine ⟨es, clock, hb, h1, by omega, fun x hx => ?_, fun q hq hq3 => h4 q (by omega) hq3, h5, h6⟩
  obtain ⟨q, e, ho⟩ := h3 x hx
  exact ⟨q, e, by rw [plcOf_other (.inl hn)]; exact ho⟩
def AddRes (w : World) (b : Nat) (xs : List Int) (n : Nat) (r : Value) (e : Ending) (w' : World) : Prop := e = .returned (.tuple #[]) ∧ Plc w' b xs (n + 1) r ∧ KeptP w w' b r

set_option maxHeartbeats 1000000 in
theorem impl_add (b n : Nat) (v r : Value) (xs : List Int) (w : World) (hv : Ints w v xs) (hP : Plc w b xs n r) (hf : Fits xs) (hl : xs.length ≤ 1000) (hn : n ≤ xs.length) (hr : ∀ k, r.ownBlock = some k → k < w.heap.size) :
    Calls Try.prog 112 #[.map (some b), v, .int .i64 (n : Int)] w (AddRes w b xs n r) := by
  by_cases h3 : n + 3 ≤ xs.length
  · have d1 : decide ((n : Int) + 3 ≤ (xs.length : Int)) = true := decide_eq_true (by omega)
    have C1 := Lib.hid (impl_tripleAt v xs n w hv h3 hl)
    obtain ⟨a, cap, rfl, _, _, _⟩ := hv
    go_enter Try.func112, Try.ntmps112
    go_wp2_with fail
    refine C1.out.mono ?_
    rintro e w1 ⟨rfl, b1⟩
    have P1 := hP.below b1
    have hb1 := P1.lt
    clear hP
    have hT : trip xs n = .agg #[.int .i64 (xs.getD n 0), .int .i64 (xs.getD (n + 1) 0), .int .i64 (xs.getD (n + 2) 0)] := rfl
    have key := trip_key hf n
    unfold trip
    obtain ⟨x, ex⟩ : ∃ x, xs.getD n 0 = x := ⟨_, rfl⟩
    obtain ⟨y, ey⟩ : ∃ x, xs.getD (n + 1) 0 = x := ⟨_, rfl⟩
    obtain ⟨z, ez⟩ : ∃ x, xs.getD (n + 2) 0 = x := ⟨_, rfl⟩
    rw [ex, ey, ez] at hT ⊢
    clear ex ey ez
    have bk := Blk.made w1 #[.int .i64 x, .int .i64 y, .int .i64 z] 137
    have ba := alloc_below' w1 (.cells #[.int .i64 x, .int .i64 y, .int .i64 z] 137)
    have hbA : b < w1.heap.size := hb1
    obtain ⟨A, hA⟩ : ∃ A, w1.heap.size = A := ⟨_, rfl⟩
    go_upto_region 2 with (fail)
    have kb := (KeptP.of_below (b := b) (r := r) b1).trans (KeptP.of_below ba)
    have PW := P1.below ba
    rw [hA] at bk hbA
    generalize hW : w1.alloc (.cells #[.int .i64 x, .int .i64 y, .int .i64 z] 137) = W at bk kb PW ⊢
    clear hW ba P1 b1 hb1 C1 hA
    have hrW : ∀ k, r.ownBlock = some k → k < W.heap.size := fun k hk => Nat.lt_of_lt_of_le (hr k hk) kb.2.2.2.1
    have bl := alloc_below' W (.cells #[.int .i64 (n : Int)] 3)
    obtain ⟨v0, st, w2, run1, own0, g1, sz1, ap0, put⟩ := (PW.below bl).put hf h3 (by omega) (fun k hk => Nat.lt_of_lt_of_le (hrW k hk) bl.size)
    rw [hT] at run1
    have hbW := PW.lt
    have li : Ints w2 (.slice (some ⟨W.heap.size, 0, none⟩) 1 1) [(n : Int)] := (lit1 W (n : Int)).grown g1 fun k hk e => by
      simp only [Value.ownBlock, Option.some.injEq] at hk e
      omega
    have hlen := plcOf_len xs n n
    have hlen2 : (nums (plcOf xs n n)).length = (plcOf xs n n).length := by simp [nums]
    have hsz2 : b + 1 ≤ w2.heap.size := by rw [sz1]; have := bl.size; omega
    have k2 := kb.trans ((KeptP.of_below bl).trans (KeptP.of_map g1))
    have PUT := Lib.hid put
    have c0 := bk.cell 0
    have c1 := bk.cell 1
    have c2 := bk.cell 2
    clear put bk kb PW bl g1 sz1 hT key
    go_wp2_with (at_builtin; refine wp_appW rfl _ _ rfl (b + 1) v0 _ (nums (plcOf xs n n)) [(n : Int)] rfl rfl own0 li (by simp; omega) hsz2 ?_; intro v' w3 own3 g3 hat; obtain ⟨w4, run4, P4, g4⟩ := PUT.out v' w3 own3 g3 hat)
    refine bodyPost_end (results_none rfl _ _ _) rfl ?_
    exact ⟨rfl, P4, k2.trans ((KeptP.of_row g3 (fun k hk => own0.lt k hk) ap0).trans (KeptP.of_map g4))⟩
  · have d1 : decide ((n : Int) + 3 ≤ (xs.length : Int)) = false := decide_eq_false (by omega)
    have hs := hP.skip h3
    obtain ⟨a, cap, rfl, _, _, _⟩ := hv
    go_enter Try.func112, Try.ntmps112
    go_wp2_with fail
    refine bodyPost_end (results_none rfl _ _ _) rfl ?_
    exact ⟨rfl, hs, KeptP.refl w b r⟩
-- P4d

/-- one further place -/
def stepP (xs : List Int) (j : Nat) (g : Nat × Nat) (p : Nat) : Nat × Nat := if g.1 ≤ mlen xs 66 p j then (mlen xs 66 p j, j - p) else g
def BestOf (xs : List Int) (j : Nat) (seen : List Nat) (g : Nat × Nat) : Prop :=
  (seen = [] ∧ g = (0, 0)) ∨ ∃ p ∈ seen, g = (mlen xs 66 p j, j - p) ∧ ∀ q ∈ seen, mlen xs 66 q j ≤ mlen xs 66 p j ∧ (p < q → mlen xs 66 q j < mlen xs 66 p j)
theorem bestOf_step {xs : List Int} {j : Nat} {seen : List Nat} {g : Nat × Nat} {a : Nat} (h : BestOf xs j seen g) (ha : ∀ q ∈ seen, q < a) : BestOf xs j (seen ++ [a]) (stepP xs j g a) := by
  unfold stepP
  by_cases hg : g.1 ≤ mlen xs 66 a j
  · rw [if_pos hg]
    refine .inr ⟨a, by simp, rfl, fun q hq => ?_⟩
    rcases List.mem_append.1 hq with hq | hq
    · have hqa := ha q hq
      rcases h with ⟨rfl, _⟩ | ⟨p, hp, rfl, hall⟩
      · simp at hq
      · have := (hall q hq).1
        simp only at hg
        exact ⟨by omega, fun _ => by omega⟩
    · obtain rfl : q = a := by simpa using hq
      exact ⟨Nat.le_refl _, fun _ => by omega⟩
  · rw [if_neg hg]
    rcases h with ⟨rfl, rfl⟩ | ⟨p, hp, rfl, hall⟩
    · simp at hg
    · refine .inr ⟨p, List.mem_append_left _ hp, rfl, fun q hq => ?_⟩
      rcases List.mem_append.1 hq with hq | hq
      · exact hall q hq
      · obtain rfl : q = a := by simpa using hq
        simp only at hg
        exact ⟨by omega, fun _ => by omega⟩
theorem bestOf_fold {xs : List Int} {j : Nat} : ∀ (ps seen : List Nat) (g : Nat × Nat), (seen ++ ps).Pairwise (· < ·) → BestOf xs j seen g → BestOf xs j (seen ++ ps) (ps.foldl (stepP xs j) g)
  | [], seen, g, _, h => by simpa using h
  | a :: ps, seen, g, hp, h => by
    have e : seen ++ a :: ps = (seen ++ [a]) ++ ps := by simp
    rw [e] at hp ⊢
    refine bestOf_fold ps (seen ++ [a]) _ hp (bestOf_step h fun q hq => ?_)
    have h1 := (List.pairwise_append.1 hp).1
    exact (List.pairwise_append.1 h1).2.2 q hq a (by simp)
theorem plcOf_mem {xs : List Int} {n q p : Nat} : p ∈ plcOf xs n q ↔ p < n ∧ p + 3 ≤ xs.length ∧ xs.getD p 0 = xs.getD q 0 ∧ xs.getD (p + 1) 0 = xs.getD (q + 1) 0 ∧ xs.getD (p + 2) 0 = xs.getD (q + 2) 0 := by
  unfold plcOf
  rw [List.mem_filter, List.mem_range, decide_eq_true_eq]
theorem plcOf_sorted (xs : List Int) (n q : Nat) : (plcOf xs n q).Pairwise (· < ·) := List.Pairwise.filter _ List.pairwise_lt_range
/-- the best match at a place that the program finds: how long, how far back -/
def lngI (xs : List Int) (j : Nat) : Nat × Nat := if j + 3 ≤ xs.length then (plcOf xs j j).foldl (stepP xs j) (0, 0) else (0, 0)
theorem mlen_three {xs : List Int} {p j : Nat} (hj : j + 3 ≤ xs.length) : 3 ≤ mlen xs 66 p j ↔ xs.getD p 0 = xs.getD j 0 ∧ xs.getD (p + 1) 0 = xs.getD (j + 1) 0 ∧ xs.getD (p + 2) 0 = xs.getD (j + 2) 0 := by
  constructor
  · intro h
    exact ⟨(mlen_at xs 66 p j 0 (by omega)).2, (mlen_at xs 66 p j 1 (by omega)).2, (mlen_at xs 66 p j 2 (by omega)).2⟩
  · rintro ⟨h0, h1, h2⟩
    unfold mlen
    rw [if_pos ⟨by omega, h0⟩]
    unfold mlen
    rw [if_pos ⟨by omega, h1⟩]
    unfold mlen
    rw [if_pos ⟨by omega, h2⟩]
    omega
theorem lng_best (xs : List Int) (j : Nat) : ((bestB xs j j).1 < 3 ∧ lngI xs j = (0, 0)) ∨ (3 ≤ (bestB xs j j).1 ∧ lngI xs j = bestB xs j j) := by
  unfold lngI
  by_cases hj : j + 3 ≤ xs.length
  · rw [if_pos hj]
    have hf := bestOf_fold (xs := xs) (j := j) (plcOf xs j j) [] (0, 0) (by simpa using plcOf_sorted xs j j) (.inl ⟨rfl, rfl⟩)
    rw [List.nil_append] at hf
    rcases hf with ⟨h0, h1⟩ | ⟨p, hp, he, hall⟩
    · refine .inl ⟨bestB_none (fun q hq1 hq2 => ?_) (by omega), h1⟩
      rcases Nat.lt_or_ge (mlen xs 66 (j - q) j) 3 with h | h
      · exact h
      · have : j - q ∈ plcOf xs j j := plcOf_mem.2 ⟨by omega, by omega, (mlen_three hj).1 h⟩
        rw [h0] at this
        simp at this
    · obtain ⟨q1, q2, q3⟩ := plcOf_mem.1 hp
      have h3 := (mlen_three hj).2 q3
      have e : j - (j - p) = p := by omega
      have hb : bestB xs j j = (mlen xs 66 (j - (j - p)) j, j - p) := by
        refine bestB_eq (by omega) (by omega) (by rw [e]; omega) (fun q hq1 hq2 => ?_) (fun q hq1 hq2 => ?_)
        · rw [e]
          rcases Nat.lt_or_ge (mlen xs 66 (j - q) j) 3 with h | h
          · omega
          · exact (hall (j - q) (plcOf_mem.2 ⟨by omega, by omega, (mlen_three hj).1 h⟩)).1
        · rw [e]
          rcases Nat.lt_or_ge (mlen xs 66 (j - q) j) 3 with h | h
          · omega
          · exact (hall (j - q) (plcOf_mem.2 ⟨by omega, by omega, (mlen_three hj).1 h⟩)).2 (by omega)
      rw [e] at hb
      rw [hb]
      exact .inr ⟨h3, he⟩
  · rw [if_neg hj]
    refine .inl ⟨bestB_none (fun q hq1 hq2 => ?_) (by omega), rfl⟩
    have := mlen_in xs 66 (j - q) j
    omega
-- W4h

def LngRes (g : Nat × Nat) (w : World) (e : Ending) (w' : World) : Prop := e = .returned (.tuple #[.int .i64 (g.2 : Nat), .int .i64 (g.1 : Nat)]) ∧ Below w.heap.size w w'
set_option maxHeartbeats 1000000 in
theorem impl_longestMatch (b j : Nat) (v r : Value) (xs : List Int) (w : World) (hv : Ints w v xs) (hP : Plc w b xs j r) (hf : Fits xs) (hl : xs.length ≤ 1000) (hj : j ≤ xs.length) :
    Calls Try.prog 111 #[.map (some b), v, .int .i64 (j : Int)] w (LngRes (lngI xs j) w) := by
  by_cases h3 : j + 3 ≤ xs.length
  · have d1 : decide ((xs.length : Int) < (j : Int) + 3) = false := decide_eq_false (by omega)
    have C1 := Lib.hid (impl_tripleAt v xs j w hv h3 hl)
    have C2 : Hid (∀ wn (p : Nat), p < j → Below w.heap.size w wn → Calls Try.prog 118 #[v, .int .i64 (p : Int), .int .i64 (j : Int)] wn (SaysN (mlen xs 66 p j : Nat) wn)) := fun wn p hp hb => impl_matchSize v xs p j wn (hv.below hb) hp hj hl
    obtain ⟨a, cap, rfl, _, _, _⟩ := hv
    obtain ⟨ps, hps⟩ : ∃ ps, plcOf xs j j = ps := ⟨_, rfl⟩
    have hL : lngI xs j = ps.foldl (stepP xs j) (0, 0) := by unfold lngI; rw [if_pos h3, hps]
    obtain ⟨G, hG⟩ : ∃ G, lngI xs j = G := ⟨_, rfl⟩
    rw [hG] at hL ⊢
    have HL := Lib.hid hL
    have hmem : Hid (∀ k (h : k < ps.length), ps[k] < j) := Lib.hid fun k h => by
      have h1 : ps[k] ∈ plcOf xs j j := by rw [hps]; exact List.getElem_mem h
      exact (plcOf_mem.1 h1).1
    have hpl : ps.length ≤ 1000 := by rw [← hps]; have := plcOf_len xs j j; omega
    clear hL hG
    go_enter Try.func111, Try.ntmps111
    go_wp2_with fail
    refine C1.out.mono ?_
    rintro e w1 ⟨rfl, b1⟩
    obtain ⟨u, hrun, own⟩ := (hP.below b1).look hf (by omega) j
    rw [hps] at own
    have hnl : (nums ps).length = ps.length := by simp [nums]
    have hi := own.ints
    obtain ⟨a2, cap2, rfl, l2, m2, hcell⟩ := hi
    rw [hnl] at hrun l2 hcell
    unfold maxLen at m2
    have HC := Lib.hid hcell
    clear own hcell hps hP C1
    go_wp2_with fail
    go_loopw [8, 9, 24] (fun bk lg i wr => ∃ k : Nat, i = .int .i64 k ∧ k ≤ ps.length ∧ lg = .int .i64 (((ps.take k).foldl (stepP xs j) (0, 0)).1 : Nat) ∧ bk = .int .i64 (((ps.take k).foldl (stepP xs j) (0, 0)).2 : Nat) ∧ Below w1.heap.size w1 wr) (fun _ _ i _ => ps.length - (intOf i).toNat)
    case atStart => exact ⟨0, rfl, Nat.zero_le _, rfl, rfl, Below.refl _ _⟩
    case round =>
      obtain ⟨k, rfl, hk, rfl, rfl, hbel⟩ := hrel
      obtain ⟨⟨g1, g2⟩, hg⟩ : ∃ g, (ps.take k).foldl (stepP xs j) (0, 0) = g := ⟨_, rfl⟩
      rw [hg]
      by_cases hlt : k < ps.length
      · have d2 : decide ((k : Int) < (ps.length : Int)) = true := decide_eq_true (by omega)
        have hp := hmem.out k hlt
        have hst : (ps.take (k + 1)).foldl (stepP xs j) (0, 0) = stepP xs j (g1, g2) ps[k] := by
          rw [List.take_succ_eq_append_getElem hlt, List.foldl_append, hg]
          rfl
        obtain ⟨b2, off, rfl, hc⟩ := HC.out (by omega)
        have hx := (hbel.cell (World.block_lt_of_cell? w1 _ (hc k hlt))).trans (hc k hlt)
        have hv : (nums ps).getD k 0 = ((ps[k] : Nat) : Int) := by simp [nums, List.getD, hlt]
        rw [hv] at hx
        obtain ⟨p, ep⟩ : ∃ p, ps[k] = p := ⟨_, rfl⟩
        rw [ep] at hx hp hst
        have D := Lib.hid (C2.out wr p hp (Bstep b1 hbel))
        obtain ⟨m, hm⟩ : ∃ m, mlen xs 66 p j = m := ⟨_, rfl⟩
        rw [show stepP xs j (g1, g2) p = if g1 ≤ mlen xs 66 p j then (mlen xs 66 p j, j - p) else (g1, g2) from rfl] at hst
        rw [hm] at D hst
        clear hg hc hv ep hm
        by_cases hle : g1 ≤ m
        · rw [if_pos hle] at hst
          have d3 : decide ((g1 : Int) ≤ (m : Int)) = true := decide_eq_true (by omega)
          have HS := Lib.hid hst
          clear hst
          go_wp2_with fail
          refine D.out.mono ?_
          rintro e w2 ⟨rfl, b3⟩
          go_wp2_with fail
          go_roundw
          case rel => exact ⟨k + 1, by go_num, by omega, by rw [HS.out], by rw [HS.out]; go_num, Bstep hbel b3⟩
          case measure => simp [intOf]; omega
        · rw [if_neg hle] at hst
          have d3 : decide ((g1 : Int) ≤ (m : Int)) = false := decide_eq_false (by omega)
          have HS := Lib.hid hst
          clear hst
          go_wp2_with fail
          refine D.out.mono ?_
          rintro e w2 ⟨rfl, b3⟩
          go_wp2_with fail
          go_roundw
          case rel => exact ⟨k + 1, by go_num, by omega, by rw [HS.out], by rw [HS.out], Bstep hbel b3⟩
          case measure => simp [intOf]; omega
      · have d2 : decide ((k : Int) < (ps.length : Int)) = false := decide_eq_false (by omega)
        have e : G = (g1, g2) := by rw [HL.out, ← hg, List.take_of_length_le (by omega)]
        have E := Lib.hid e
        clear e hg
        go_wp2_with fail
        go_returns
        rw [E.out]
        exact ⟨rfl, Bstep b1 hbel⟩
  · have d1 : decide ((xs.length : Int) < (j : Int) + 3) = true := decide_eq_true (by omega)
    have e : lngI xs j = (0, 0) := by unfold lngI; rw [if_neg h3]
    rw [e]
    obtain ⟨a, cap, rfl, _, _, _⟩ := hv
    clear e
    go_enter Try.func111, Try.ntmps111
    go_wp2_with fail
    go_returns
    exact ⟨rfl, Below.refl _ _⟩
-- W4j

/-- v' lies where v lay, or where nothing was -/
def Moved (w : World) (v v' : Value) : Prop := v'.ownBlock = v.ownBlock ∨ ∀ k, v'.ownBlock = some k → w.heap.size ≤ k
theorem Moved.at {w : World} {v v' : Value} (h : v'.ownBlock = v.ownBlock ∨ v'.ownBlock = some w.heap.size) : Moved w v v' := h.imp id fun h k hk => by
  rw [h] at hk
  simp only [Option.some.injEq] at hk
  omega
/-- only where v lay has anything turned, and r lies there or where nothing was -/
def Mv (w : World) (v : Value) (wr : World) (r : Value) : Prop := w.grownBy wr v.ownBlock ∧ Moved w v r
theorem Mv.refl (w : World) (v : Value) : Mv w v w v := ⟨World.grownBy.refl _ _, .inl rfl⟩
theorem Mv.step {w wr w2 : World} {v r r2 : Value} (h : Mv w v wr r) (g : wr.grownBy w2 r.ownBlock) (m : Moved wr r r2) : Mv w v w2 r2 := by
  obtain ⟨g0, m0⟩ := h
  refine ⟨⟨g.os.trans g0.os, g.tape.trans g0.tape, g.output.trans g0.output, Nat.le_trans g0.size g.size, fun k hk hne => (g.block k (Nat.lt_of_lt_of_le hk g0.size) fun e => ?_).trans (g0.block k hk hne)⟩, ?_⟩
  · rcases m0 with h | h
    · exact hne (e.trans h)
    · have := h k e.symm
      omega
  · rcases m with h | h
    · rcases m0 with h0 | h0
      · exact .inl (h.trans h0)
      · exact .inr fun k hk => h0 k (h ▸ hk)
    · exact .inr fun k hk => Nat.le_trans g0.size (h k hk)
def AppRes2 (w : World) (base : Nat) (v : Value) (ys : List Int) (e : Ending) (w' : World) : Prop := ∃ v', e = .returned v' ∧ Own w' base v' ys ∧ w.grownBy w' v.ownBlock ∧ Moved w v v'

/-- 'append(s, u...)' as a step of a region that draws -/
theorem step_appA {w : World} {ops : Array Oper} {o : Oper} {a : Act} {K : Act → World → Prop} {Q : Exit → Act → World → Prop} {E : Prop}
    (hg : o.guard = none) (s x : Operand) (hop : o.op = Op.call { callee := Callee.builtin Builtin.append, args := #[s, x], argTypes := #[25, 25] })
    (base : Nat) (v u : Value) (xs ys : List Int) (hs : a.eval s = v) (hx : a.eval x = u)
    (hown : Own w base v xs) (hsrc : Ints w u ys) (hlen : xs.length + ys.length < 10000000000) (hb : base ≤ w.heap.size)
    (hK : ∀ v' w', Own w' base v' (xs ++ ys) → w.grownBy w' v.ownBlock → Moved w v v' → K (a.put o.dst v') w') :
    if Region.wanted o (yielded ops a.tmps) = true then Oper.wp Try.prog o a w K Q else E := by
  obtain ⟨i0, hi, hz0, hz1, hz2⟩ := info_parts info_int
  have hw : Region.wanted o (yielded ops a.tmps) = true := by simp [Region.wanted, hg]
  rw [if_pos hw]
  obtain ⟨ad, cap, rfl, hl, hm, hc⟩ := hsrc
  cases ad with
  | none =>
    have h0 : ys = [] := by
      rcases Nat.eq_zero_or_pos ys.length with h | h
      · exact List.eq_nil_of_length_eq_zero h
      · obtain ⟨b, off, e, _⟩ := hc h; cases e
    subst h0
    have hrun := run_append_none_any (P := Try.prog) (w := w) base 25 o.type 3 i0 1 Try.underlying25 hi v xs.length _ hown cap
    unfold Oper.wp
    simp [execOp, hop, resolve, invoke, builtin, hs, hx, hrun, Result.andThen]
    exact hK v w (by simpa using hown) (World.grownBy.refl _ _) (.inl rfl)
  | some ad =>
    obtain ⟨v', w', hrun, r1, r2, _, r3⟩ := run_append_own_at (P := Try.prog) w base 25 o.type 3 i0 (.int .i64 0) 1 8 Try.underlying25 hi hz0 hz1 hz2 rfl (by decide) v xs.length _ hown ad ys.length cap (ys.map (Value.int .i64)) (by simp) (by
      intro j u hu
      have hj : j < ys.length := by
        rcases Nat.lt_or_ge j ys.length with h | h
        · exact h
        · simp [List.getElem?_eq_none (show (ys.map (Value.int .i64)).length ≤ j by simpa using h)] at hu
      obtain ⟨b, off, e, hcell⟩ := hc (by omega)
      simp only [Option.some.injEq] at e
      subst e
      rw [Addr.add_lit, hcell j hj]
      simp [hj] at hu
      simp [List.getD, hj, hu]) (ints_oneCell _ _) (by unfold maxLen; omega) (by omega) hb
    unfold Oper.wp
    simp [execOp, hop, resolve, invoke, builtin, hs, hx, hrun, Result.andThen]
    refine hK v' w' ?_ r2 (Moved.at r3)
    unfold Own
    simpa using r1

/-- 'append(s, n)' as a step of a region that draws, behind the making of its one cell -/
theorem step_app1A {w : World} {ops : Array Oper} {o : Oper} {a : Act} {K : Act → World → Prop} {Q : Exit → Act → World → Prop} {E : Prop}
    (hg : o.guard = none) (s x : Operand) (hop : o.op = Op.call { callee := Callee.builtin Builtin.append, args := #[s, x], argTypes := #[25, 25] })
    (base : Nat) (v : Value) (xs : List Int) (n : Int) (hs : a.eval s = v) (hx : a.eval x = .slice (some ⟨w.heap.size, 0, none⟩) 1 1)
    (hown : Own w base v xs) (hlen : xs.length < 1000000) (hb : base ≤ w.heap.size)
    (hK : ∀ v' w', Own w' base v' (xs ++ [n]) → w.grownBy w' v.ownBlock → Moved w v v' → K (a.put o.dst v') w') :
    if Region.wanted o (yielded ops a.tmps) = true then Oper.wp Try.prog o a (w.alloc (.cells #[.int .i64 n] 3)).drew K Q else E := by
  have bel : Below w.heap.size w (w.alloc (.cells #[.int .i64 n] 3)).drew := Bstep (alloc_below' _ _) (below_drewN (Below.refl _ _) 1)
  have hi : Ints (w.alloc (.cells #[.int .i64 n] 3)).drew (.slice (some ⟨w.heap.size, 0, none⟩) 1 1) [n] :=
    ⟨_, 1, rfl, by simp, by unfold maxLen; omega, fun _ => ⟨_, 0, rfl, fun i hi => by
      have : i = 0 := by simpa using hi
      subst this
      exact (Blk.made w #[.int .i64 n] 3).cell 0⟩⟩
  refine step_appA hg s x hop base v _ xs [n] hs hx (hown.below bel) hi (by simp; omega) (Nat.le_trans hb bel.size) fun v' w' ho hg' mv => ?_
  refine hK v' w' ho ⟨hg'.os.trans bel.os, hg'.tape.trans bel.tape, hg'.output.trans bel.output, Nat.le_trans bel.size hg'.size, fun k hk hne => (hg'.block k (Nat.lt_of_lt_of_le hk bel.size) hne).trans (bel.block k hk)⟩ (mv.imp id fun h k hk => Nat.le_trans bel.size (h k hk))

set_option maxHeartbeats 2000000 in
theorem impl_withPlain2 (v u : Value) (out ys : List Int) (base : Nat) (w : World) (h : Own w base v out) (hd : ∀ W : World, Below base w W → Ints W u ys) (hb : base ≤ w.heap.size) (hl : out.length ≤ 2000) (hy : ys.length ≤ 1000) :
    Calls Try.prog 113 #[v, u] w (AppRes2 w base v (out ++ plainP ys)) := by
  obtain ⟨R, hR⟩ : ∃ R, out ++ plainP ys = R := ⟨_, rfl⟩
  rw [hR]
  have HR : Hid (R.length ≤ 10000) := Lib.hid (by rw [← hR, List.length_append, plainP_len]; omega)
  have H0 : Hid (out ++ plainP ys = R) := Lib.hid hR
  have HD0 : Hid (∀ W : World, Below base w W → Ints W u ys) := Lib.hid hd
  obtain ⟨au, capu, rfl, lu, mu, _⟩ := hd w (Below.refl _ _)
  clear hR hd
  go_enter Try.func113, Try.ntmps113
  go_wp2
  go_loopw [0, 1] (fun r b wr => ∃ (cur rest : List Int), Own wr base r cur ∧ (∃ a cap, b = .slice a rest.length cap) ∧ Hid (∀ W : World, Below base w W → Ints W b rest) ∧ Hid (cur ++ plainP rest = R) ∧ Below base w wr ∧ Mv w v wr r) (fun _ b _ => match b with | .slice _ n _ => n | _ => 0)
  case atStart => exact ⟨out, ys, h, ⟨_, _, rfl⟩, HD0, H0, Below.refl _ _, Mv.refl _ _⟩
  case round =>
    obtain ⟨cur, rest, hown, ⟨a, cap, rfl⟩, hin, heq, hbel, hmv⟩ := hrel
    have hsz := Nat.le_trans hb hbel.size
    have i0 := hin.out wr hbel
    have hss := i0.sizes
    have hs2 := hss.2.1
    have hs3 := hss.2.2
    unfold maxLen at hs3
    clear hss i0
    by_cases hne : rest = []
    · subst hne
      have hh := heq.out
      rw [plainP_nil, List.append_nil] at hh
      subst hh
      go_wp2
      go_ret
      exact ⟨_, rfl, hown, hmv.1, hmv.2⟩
    · have hlt : 0 < rest.length := List.length_pos_iff.2 hne
      have hpc := plainP_cons hne
      have hq := heq.out
      rw [hpc] at hq
      by_cases h64 : 64 ≤ rest.length
      · have htk : rest.take 64 = rest.take (64) := rfl
        rw [show min 64 rest.length = (64) by omega, htk] at hq
        have hrd : rest.drop 64 = rest.drop (64) := rfl
        rw [hrd] at hq
        have i1 := hin.out wr hbel
        obtain ⟨a2, cap2, hs2, is2⟩ := run_from i1 (64) (by omega)
        have hs1 : ∀ W, (Instr.slice 25 (.slice a rest.length cap) none (some (.int .i64 (64))) none).run Try.prog W = .ok (.slice a (64) cap) W := fun W => run_upto i1 (64) (by omega) W
        have hs2' : ∀ W, (Instr.slice 25 (.slice a rest.length cap) (some (.int .i64 (64))) none none).run Try.prog W = .ok (.slice a2 (rest.length - (64)) cap2) W := hs2
        have IS1 : Hid (∀ W, Below base w W → Ints W (.slice a (64) cap) (rest.take (64))) := Lib.hid fun W hW => (hin.out W hW).take (64) (by omega)
        have IS2 : Hid (∀ W, Below base w W → Ints W (.slice a2 (rest.length - (64)) cap2) (rest.drop (64))) := Lib.hid fun W hW => is2 W (hin.out W hW)
        have hyl : (rest.take (64)).length ≤ 64 := by rw [List.length_take]; omega
        obtain ⟨ys, hys⟩ : ∃ ys, rest.take (64) = ys := ⟨_, rfl⟩
        rw [hys] at hq hyl IS1
        have hcl : cur.length ≤ 20000 := by have := HR.out; rw [← hq] at this; simp at this; omega
        have e1 : (((64) - 1 : Nat) : Int) = 63 := by omega
        rw [e1] at hq
        have HQ := Lib.hid hq
        have HD : Hid ((rest.drop (64)).length = rest.length - (64)) := Lib.hid List.length_drop
        have s2 : IntKind.i64.wrap (64 - 1) = 63 := by rw [IntWalk.i64_in _ ⟨by omega, by omega⟩]; try omega
        clear hne hpc hq htk hrd hys e1 hs2 is2 i1 hin
        go_wp2
        go_region_law (first
          | (refine step_app1A rfl (.tmp 12) (.tmp 15) rfl base u0 cur _ rfl rfl hown (by omega) hsz ?_; intro v2 w2 own2 g2 mv2)
          | (refine step_appA rfl (.tmp 16) (.tmp 19) rfl base v2 (.slice a (64) cap) _ ys rfl rfl own2 (IS1.out w2 (hbel.grown g2 hsz hown.lt)) (by simp; omega) (Nat.le_trans hsz g2.size) ?_; intro v3 w3 own3 g3 mv3))
        go_wp2
        go_roundw
        case rel =>
          refine ⟨_, rest.drop (64), own3, by rw [HD.out]; exact ⟨_, _, rfl⟩, IS2, ?_, (hbel.grown g2 hsz hown.lt).grown g3 (Nat.le_trans hsz g2.size) own2.lt, (hmv.step g2 mv2).step g3 mv3⟩
          have hh := HQ.out
          unfold Hid
          rw [← hh]
          simp
          try rfl
        case measure => simp; omega
      · have htk : rest.take 64 = rest.take (rest.length) := by rw [List.take_of_length_le (by omega), List.take_of_length_le (by omega)]
        rw [show min 64 rest.length = (rest.length) by omega, htk] at hq
        have hrd : rest.drop 64 = rest.drop (rest.length) := by rw [List.drop_eq_nil_of_le (by omega), List.drop_eq_nil_of_le (by omega)]
        rw [hrd] at hq
        have i1 := hin.out wr hbel
        obtain ⟨a2, cap2, hs2, is2⟩ := run_from i1 (rest.length) (by omega)
        have hs1 : ∀ W, (Instr.slice 25 (.slice a rest.length cap) none (some (.int .i64 ((rest.length : Int)))) none).run Try.prog W = .ok (.slice a (rest.length) cap) W := fun W => run_upto i1 (rest.length) (by omega) W
        have hs2' : ∀ W, (Instr.slice 25 (.slice a rest.length cap) (some (.int .i64 ((rest.length : Int)))) none none).run Try.prog W = .ok (.slice a2 (rest.length - (rest.length)) cap2) W := hs2
        have IS1 : Hid (∀ W, Below base w W → Ints W (.slice a (rest.length) cap) (rest.take (rest.length))) := Lib.hid fun W hW => (hin.out W hW).take (rest.length) (by omega)
        have IS2 : Hid (∀ W, Below base w W → Ints W (.slice a2 0 cap2) []) := Lib.hid fun W hW => by
          have := is2 W (hin.out W hW)
          rwa [Nat.sub_self, List.drop_length] at this
        have hyl : (rest.take (rest.length)).length ≤ 64 := by rw [List.length_take]; omega
        obtain ⟨ys, hys⟩ : ∃ ys, rest.take (rest.length) = ys := ⟨_, rfl⟩
        rw [hys] at hq hyl IS1
        have hcl : cur.length ≤ 20000 := by have := HR.out; rw [← hq] at this; simp at this; omega
        have e1 : (((rest.length) - 1 : Nat) : Int) = ((rest.length : Int) - 1) := by omega
        rw [e1, List.drop_length] at hq
        have HQ := Lib.hid hq
        have HD : Hid ((rest.drop (rest.length)).length = rest.length - (rest.length)) := Lib.hid List.length_drop
        have s2 : IntKind.i64.wrap ((rest.length : Int) - 1) = ((rest.length : Int) - 1) := by rw [IntWalk.i64_in _ ⟨by omega, by omega⟩]; try omega
        clear hne hpc hq htk hrd hys e1 hs2 is2 i1 hin
        go_wp2
        go_region_law (first
          | (refine step_app1A rfl (.tmp 12) (.tmp 15) rfl base u0 cur _ rfl rfl hown (by omega) hsz ?_; intro v2 w2 own2 g2 mv2)
          | (refine step_appA rfl (.tmp 16) (.tmp 19) rfl base v2 (.slice a (rest.length) cap) _ ys rfl rfl own2 (IS1.out w2 (hbel.grown g2 hsz hown.lt)) (by simp; omega) (Nat.le_trans hsz g2.size) ?_; intro v3 w3 own3 g3 mv3))
        go_wp2
        go_roundw
        case rel =>
          refine ⟨_, [], own3, ⟨_, _, rfl⟩, IS2, ?_, (hbel.grown g2 hsz hown.lt).grown g3 (Nat.le_trans hsz g2.size) own2.lt, (hmv.step g2 mv2).step g3 mv3⟩
          have hh := HQ.out
          unfold Hid
          rw [← hh]
          simp
          try rfl
        case measure => simp; omega
-- W4i

theorem fits_of_ok {xs : List Int} (h : okBs xs = true) : Fits xs := fun i => by
  obtain ⟨h0, h1⟩ := okB_getD h i
  have hmin : IntKind.i64.min ≤ 0 := by decide
  have hmax : (255 : Int) ≤ IntKind.i64.max := by decide
  unfold Lit.wf
  simp only [Bool.and_eq_true, decide_eq_true_eq]
  exact ⟨Int.le_trans hmin h0, Int.le_trans h1 hmax⟩
theorem Own.keptP {w w' : World} {base b : Nat} {r : Value} {xs : List Int} (h : Own w base r xs) (hk : KeptP w w' b r) (hb : r.ownBlock ≠ some b) : Own w' base r xs := by
  refine ⟨h.1, ?_⟩
  have hlt := h.lt2
  rcases h.2 with h0 | ⟨g, cap, cur, e, hg, h1, rest⟩
  · exact .inl h0
  · have e1 : r.ownBlock = some g := by rw [e]; rfl
    exact .inr ⟨g, cap, cur, e, hg, (hk.2.2.2.2 g (hlt g e1) (.inr ⟨e1, fun e2 => hb (by rw [e1, e2])⟩)).trans h1, rest⟩
theorem Below.keptP {n b : Nat} {w a c : World} {r : Value} (h : Below n w a) (hk : KeptP a c b r) (hb : n ≤ b) (hn : n ≤ a.heap.size) : Below n w c :=
  ⟨hk.1.trans h.os, hk.2.1.trans h.tape, hk.2.2.1.trans h.output, Nat.le_trans h.size hk.2.2.2.1, fun k hlt => (hk.2.2.2.2 k (Nat.lt_of_lt_of_le hlt hn) (.inl (by omega))).trans (h.block k hlt)⟩
theorem drop_take_more (xs : List Int) {t j : Nat} (ht : t ≤ j) (hj : j < xs.length) : (xs.drop t).take (j - t) ++ [xs.getD j 0] = (xs.drop t).take (j + 1 - t) := by
  rw [show j + 1 - t = (j - t) + 1 by omega, List.take_add_one]
  congr 1
  rw [List.getElem?_drop, show t + (j - t) = j by omega, List.getElem?_eq_getElem hj]
  simp [List.getD, hj]
theorem Plc.moveG {w w' : World} {b n : Nat} {xs : List Int} {r r' : Value} (h : Plc w b xs n r) (hg : w.grownBy w' r.ownBlock) (hm : Moved w r r') (hb : r.ownBlock ≠ some b) : Plc w' b xs n r' := by
  have hlt := h.lt
  obtain ⟨es, clock, hbk, h1, h2, h3, h4, h5, h6⟩ := h
  refine ⟨es, clock, (hg.block b hlt fun e => hb e.symm).trans hbk, h1, h2, fun x hx => ?_, h4, h5, fun x hx k hk e => ?_⟩
  · obtain ⟨q, e, ho⟩ := h3 x hx
    refine ⟨q, e, ho.grown hg ?_⟩
    cases ex : x.val.ownBlock with
    | none => exact .inl rfl
    | some k => exact .inr fun e2 => h6 x hx k e2.symm ex
  · rcases hm with h | h
    · exact h6 x hx k (h ▸ hk) e
    · obtain ⟨q, _, ho⟩ := h3 x hx
      have h8 := ho.lt2 k e
      have h9 := h k hk
      omega
theorem Moved.ne {w : World} {b : Nat} {r r' : Value} (h : Moved w r r') (hr : r.ownBlock ≠ some b) (hb : b < w.heap.size) : r'.ownBlock ≠ some b := fun e => by
  rcases h with h | h
  · exact hr (h ▸ e)
  · have := h b e
    omega
set_option maxHeartbeats 4000000 in
theorem impl_PackBytes (v : Value) (xs : List Int) (w : World) (h : Ints w v xs) (hfl : xs.length ≤ 2000000) :
    Calls Try.prog 105 #[v] w (NewInts w (pckL xs) (pckB xs)) := by
  by_cases hl : xs.length ≤ 200
  · have d1 : decide ((200 : Int) < (xs.length : Int)) = false := decide_eq_false (by omega)
    have C1 := Lib.hid (impl_areBytes v xs w h)
    cases hok : okBs xs with
    | false =>
      rw [hok] at C1
      have e1 : pckB xs = false := by unfold pckB; rw [hok]; rfl
      rw [show pckL xs = [] by unfold pckL; rw [e1]; rfl, e1]
      obtain ⟨a, cap, rfl, l1, m1, c0⟩ := h
      clear hok e1 c0
      go_enter Try.func105, Try.ntmps105
      go_wp2_with fail
      refine C1.out.mono ?_
      rintro e w1 ⟨rfl, rfl⟩
      go_wp2_with fail
      go_ret2
      exact ⟨_, rfl, own_nil w _, Below.refl _ _⟩
    | true =>
      have hf := fits_of_ok hok
      rw [hok] at C1
      have e1 : pckB xs = true := pckB_iff.2 ⟨hok, hl⟩
      rw [show pckL xs = packP xs by unfold pckL; rw [e1]; rfl, e1]
      obtain ⟨R, hR⟩ : ∃ R, packP xs = R := ⟨_, rfl⟩
      have hRl : R.length ≤ 210 := by rw [← hR]; have := packP_len xs; omega
      rw [hR]
      have H0 : Hid ([] ++ packF xs (xs.length - 0) 0 ((xs.drop 0).take (0 - 0)) = R) := Lib.hid (by simpa [packP] using hR)
      have HR := Lib.hid hRl
      have HV : Hid (∀ W : World, Below w.heap.size w W → Ints W v xs) := Lib.hid fun W hW => h.below hW
      have hv := h
      obtain ⟨a, cap, rfl, l1, m1, c0⟩ := h
      unfold maxLen at m1
      have own0 : Own ((w.alloc (.cells #[] 3)).alloc (.map #[] 0)) w.heap.size (.slice (some ⟨w.heap.size, 0, none⟩) 0 0) [] := (own_empty w _ (Nat.le_refl _)).below (alloc_below' _ _)
      have hs1 : (w.alloc (.cells #[] 3)).heap.size = w.heap.size + 1 := by simp
      have P0 := Plc.made (w.alloc (.cells #[] 3)) xs (.slice (some ⟨w.heap.size, 0, none⟩) 0 0)
      rw [hs1] at P0
      have b0 := Bstep (alloc_below' w (.cells #[] 3)) (alloc_below' _ (.map #[] 0))
      clear hR hok e1 c0 hs1
      go_enter Try.func105, Try.ntmps105
      go_wp2_with fail
      refine C1.out.mono ?_
      rintro e w1 ⟨rfl, rfl⟩
      clear C1
      have hmk : (Instr.makeMap 129 none).run Try.prog (w.alloc (.cells #[] 3)) = .ok (.map (some (w.heap.size + 1))) ((w.alloc (.cells #[] 3)).alloc (.map #[] 0)) := by rw [show w.heap.size + 1 = (w.alloc (.cells #[] 3)).heap.size by simp]; rfl
      go_wp2_with fail
      clear hmk
      go_loopw [4, 6, 7] (fun r t i wr => ∃ (tn j : Nat) (cur : List Int), t = .int .i64 tn ∧ i = .int .i64 j ∧ tn ≤ j ∧ j ≤ xs.length ∧ Own wr w.heap.size r cur ∧ r.ownBlock ≠ some (w.heap.size + 1) ∧ Plc wr (w.heap.size + 1) xs j r ∧ Hid (cur ++ packF xs (xs.length - j) j ((xs.drop tn).take (j - tn)) = R) ∧ Below w.heap.size w wr) (fun _ _ i _ => xs.length - (intOf i).toNat)
      case atStart => exact ⟨0, 0, [], rfl, rfl, Nat.le_refl _, Nat.zero_le _, own0, by simp [Value.ownBlock], P0, H0, b0⟩
      case round =>
        clear own0 P0 H0 b0
        obtain ⟨tn, j, cur, rfl, rfl, htj, hj, hor, hrb, hP, heq, hbel⟩ := hrel
        have hcl : cur.length ≤ 210 := by have h1 := HR.out; rw [← heq.out, List.length_append] at h1; omega
        by_cases hlt : j < xs.length
        · have dj : decide ((j : Int) < (xs.length : Int)) = true := decide_eq_true (by omega)
          have hq := heq.out
          rw [show xs.length - j = (xs.length - (j + 1)) + 1 by omega] at hq
          unfold packF at hq
          rw [if_pos hlt, show min j 200 = j by omega] at hq
          have D1' := impl_longestMatch (w.heap.size + 1) j _ u4 xs wr (HV.out wr hbel) hP hf (by omega) hj
          rcases lng_best xs j with ⟨hL, hlg⟩ | ⟨hL, hlg⟩
          · rw [if_pos hL, drop_take_more xs htj hlt] at hq
            rw [hlg] at D1'
            have D1 := Lib.hid D1'
            have HQ := Lib.hid hq
            clear hL hlg hq D1' heq
            go_wp2_with fail
            refine D1.out.mono ?_
            rintro e w2 ⟨rfl, b2⟩
            have hor2 := hor.below b2
            have hP2 := hP.below b2
            have hbel2 := Bstep hbel b2
            have D2 := Lib.hid (impl_add (w.heap.size + 1) j _ u4 xs w2 (HV.out w2 hbel2) hP2 hf (by omega) hj hor2.lt2)
            have hs2 := hbel2.size
            clear hor hP hbel D1 b2
            go_wp2_with fail
            refine D2.out.mono ?_
            rintro e w3 ⟨rfl, P3, k3⟩
            have hor3 := hor2.keptP k3 hrb
            have hbel3 := Below.keptP hbel2 k3 (by omega) hs2
            go_wp2_with fail
            go_roundw
            case rel => exact ⟨tn, j + 1, cur, rfl, by go_num, by omega, by omega, hor3, hrb, P3, HQ, hbel3⟩
            case measure => simp [intOf]; omega
          · rw [if_neg (by omega)] at hq
            rw [hlg] at D1'
            obtain ⟨q1, q2, q3⟩ := bestB_le xs j j
            obtain ⟨⟨L, Bk⟩, hLB⟩ : ∃ g, bestB xs j j = g := ⟨_, rfl⟩
            rw [hLB] at D1' hq q1 q2 q3 hL
            simp only at hq q1 q2 q3 hL
            have e1 : ((61 + L : Nat) : Int) = (L : Int) + 61 := by omega
            rw [e1, packF_more xs (xs.length - (j + 1)) (xs.length - (j + L)) (j + L) [] (by omega) (by omega)] at hq
            have hpl : ((xs.drop tn).take (j - tn)).length ≤ 200 := by rw [List.length_take]; omega
            obtain ⟨us, hs, is⟩ := run_part hv tn (j - tn) (by omega)
            have hs' : ∀ W, (Instr.slice 25 (.slice a xs.length cap) (some (.int .i64 (tn : Int))) (some (.int .i64 (j : Int))) none).run Try.prog W = .ok us W := fun W => by
              have := hs W
              rwa [show (tn : Int) + ((j - tn : Nat) : Int) = (j : Int) by omega] at this
            obtain ⟨pend, hpe⟩ : ∃ pend, (xs.drop tn).take (j - tn) = pend := ⟨_, rfl⟩
            rw [hpe] at hq hpl
            have IS : Hid (∀ W, Ints W (.slice a xs.length cap) xs → Ints W us pend) := Lib.hid fun W hW => by rw [← hpe]; exact is W hW
            have D1 := Lib.hid D1'
            have HQ := Lib.hid hq
            have dL : ((L : Int) == 0) = false := by rw [beq_eq_false_iff_ne]; omega
            have hpp : (plainP pend).length ≤ 300 := by rw [plainP_len]; omega
            clear hlg hq D1' heq hLB e1 hs is hpe
            go_wp2_with fail
            refine D1.out.mono ?_
            rintro e w2 ⟨rfl, b2⟩
            have hor2 := hor.below b2
            have hP2 := hP.below b2
            have hbel2 := Bstep hbel b2
            have hs2 := hbel2.size
            have hb2 := hP2.lt
            have D3 := Lib.hid (impl_withPlain2 u4 us cur pend w.heap.size w2 hor2 (fun W hW => IS.out W (HV.out W (hbel2.trans hW))) hs2 (by omega) (by omega))
            clear hor hP hbel D1 b2
            go_wp2_with fail
            refine D3.out.mono ?_
            rintro e w3 ⟨v3, rfl, own3, g3, mv3⟩
            have P3 := hP2.moveG g3 mv3 hrb
            have hr3 := mv3.ne hrb hb2
            have hbel3 := hbel2.grown g3 hs2 hor2.lt
            have bl := alloc_below' w3 (.cells #[.int .i64 ((L : Int) + 61), .int .i64 (Bk : Int)] 3)
            have own4 := own3.below bl
            have P4 := P3.below bl
            have hbel4 := Bstep hbel3 bl
            have hs4 := hbel4.size
            have hb4 := P4.lt
            obtain ⟨pl, hpl2⟩ : ∃ pl, plainP pend = pl := ⟨_, rfl⟩
            rw [hpl2] at own4 hpp
            have HP := Lib.hid hpl2
            clear hor2 hP2 hbel2 D3 own3 g3 mv3 P3 bl hbel3 hpl2 hb2 hs2
            go_wp2_with (at_builtin; refine wp_appW rfl _ _ rfl w.heap.size v3 _ (cur ++ pl) [(L : Int) + 61, (Bk : Int)] rfl rfl own4 (lit2 w3 _ _) (by simp; omega) hs4 ?_; intro v5 w5 own5 g5 at5)
            have P5 := P4.moveG g5 (Moved.at at5) hr3
            have hr5 := (Moved.at at5).ne hr3 hb4
            have hbel5 := hbel4.grown g5 hs4 own4.lt
            obtain ⟨cur5, hc5⟩ : ∃ cur5, cur ++ pl ++ [(L : Int) + 61, (Bk : Int)] = cur5 := ⟨_, rfl⟩
            rw [hc5] at own5
            have HC5 := Lib.hid hc5
            clear P4 g5 at5 hbel4 own4 hs4 hb4 hr3 hc5
            go_loopw [7, 51] (fun i m ws => ∃ q : Nat, m = .int .i64 q ∧ q ≤ L ∧ i = .int .i64 ((j : Int) + (q : Int)) ∧ Own ws w.heap.size v5 cur5 ∧ Plc ws (w.heap.size + 1) xs (j + q) v5 ∧ Below w.heap.size w ws) (fun _ m _ => L - (intOf m).toNat)
            case atStart => exact ⟨0, rfl, Nat.zero_le _, by simp, own5, P5, hbel5⟩
            case round =>
              clear own5 P5 hbel5
              obtain ⟨q, rfl, hqL, rfl, hor6, P6, hbel6⟩ := hrel
              by_cases hlq : q < L
              · have dq : decide ((q : Int) < (L : Int)) = true := decide_eq_true (by omega)
                have D2' := impl_add (w.heap.size + 1) (j + q) _ v5 xs wr (HV.out wr hbel6) P6 hf (by omega) (by omega) hor6.lt2
                rw [show ((j + q : Nat) : Int) = (j : Int) + (q : Int) by omega] at D2'
                have D2 := Lib.hid D2'
                have hs6 := hbel6.size
                clear D2'
                go_wp2_with fail
                refine D2.out.mono ?_
                rintro e w7 ⟨rfl, P7, k7⟩
                have hor7 := hor6.keptP k7 hr5
                have hbel7 := Below.keptP hbel6 k7 (by omega) hs6
                go_wp2_with fail
                go_roundw
                case rel => exact ⟨q + 1, by go_num, by omega, by go_num, hor7, P7, hbel7⟩
                case measure => simp [intOf]; omega
              · have dq : decide ((q : Int) < (L : Int)) = false := decide_eq_false (by omega)
                have hqe : q = L := by omega
                have HQL := Lib.hid hqe
                clear hqe
                go_wp2_with fail
                go_roundw
                case rel =>
                  refine ⟨j + L, j + L, cur5, by have := HQL.out; subst this; go_num, by have := HQL.out; subst this; go_num, Nat.le_refl _, by omega, hor6, hr5, by have := HQL.out; subst this; exact P6, ?_, hbel6⟩
                  have hh := HQ.out
                  rw [HP.out] at hh
                  unfold Hid
                  rw [← hh, ← HC5.out, Nat.sub_self, List.take_zero]
                  simp
                case measure => have := HQL.out; simp [intOf]; omega
        · have hje : j = xs.length := by omega
          have hq := heq.out
          rw [hje, Nat.sub_self] at hq
          have hq2 : cur ++ plainP ((xs.drop tn).take (xs.length - tn)) = R := hq
          rw [List.take_of_length_le (by rw [List.length_drop]; omega)] at hq2
          have dj : decide ((j : Int) < (xs.length : Int)) = false := decide_eq_false (by omega)
          obtain ⟨a2, cap2, hs, is⟩ := run_from hv tn (by omega)
          have IS := Lib.hid is
          have hs2 := hbel.size
          have hdl : (xs.drop tn).length ≤ 1000 := by rw [List.length_drop]; omega
          have D3' := impl_withPlain2 u4 (.slice a2 (xs.length - tn) cap2) cur (xs.drop tn) w.heap.size wr hor (fun W hW => IS.out W (HV.out W (hbel.trans hW))) hs2 (by omega) hdl
          rw [hq2] at D3'
          have D3 := Lib.hid D3'
          clear hq hq2 heq is D3' hje hdl
          go_wp2_with fail
          refine D3.out.mono ?_
          rintro e w3 ⟨v3, rfl, own3, g3, mv3⟩
          have hbel3 := hbel.grown g3 hs2 hor.lt
          go_wp2_with fail
          go_ret2
          exact ⟨_, rfl, own3, hbel3⟩
  · have e1 : pckB xs = false := by unfold pckB; rw [decide_eq_false hl]; simp
    rw [show pckL xs = [] by unfold pckL; rw [e1]; rfl, e1]
    have d1 : decide ((200 : Int) < (xs.length : Int)) = true := decide_eq_true (by omega)
    obtain ⟨a, cap, rfl, l1, m1, c0⟩ := h
    unfold maxLen at m1
    clear e1 c0
    go_enter Try.func105, Try.ntmps105
    go_wp2_with fail
    go_ret2
    exact ⟨_, rfl, own_nil w _, Below.refl _ _⟩
end Go.Proofs.Ytfapeppocfodpaa
