/- Chapter 4: bytes as they are, told by the program and by the model. -/
import Derived.Test.YtkdikdkeaomobaaW4c
namespace Go.Proofs.Ytkdikdkeaomobaa
open Go.ChangeShapes Go.WideShapes Go.ChangeAt Go.RowKit
set_option linter.unusedVariables false

/-- 'append(s, n)' as a step of a region that draws, behind the making of its one cell -/
theorem step_app1D {w : World} {ops : Array Oper} {o : Oper} {a : Act} {K : Act → World → Prop} {Q : Exit → Act → World → Prop} {E : Prop}
    (hg : o.guard = none) (s x : Operand) (hop : o.op = Op.call { callee := Callee.builtin Builtin.append, args := #[s, x], argTypes := #[23, 23] })
    (base : Nat) (v : Value) (xs : List Int) (n : Int) (hs : a.eval s = v) (hx : a.eval x = .slice (some ⟨w.heap.size, 0, none⟩) 1 1)
    (hown : Own w base v xs) (hlen : xs.length < 1000000) (hb : base ≤ w.heap.size)
    (hK : ∀ v' w', Own w' base v' (xs ++ [n]) → w.grownBy w' v.ownBlock → K (a.put o.dst v') w') :
    if Region.wanted o (yielded ops a.tmps) = true then Oper.wp Try.prog o a (w.alloc (.cells #[.int .i64 n] 3)).drew K Q else E := by
  have bel : Below w.heap.size w (w.alloc (.cells #[.int .i64 n] 3)).drew := Bstep (alloc_below' _ _) (below_drewN (Below.refl _ _) 1)
  have hi : Ints (w.alloc (.cells #[.int .i64 n] 3)).drew (.slice (some ⟨w.heap.size, 0, none⟩) 1 1) [n] :=
    ⟨_, 1, rfl, by simp, by unfold maxLen; omega, fun _ => ⟨_, 0, rfl, fun i hi => by
      have : i = 0 := by simpa using hi
      subst this
      exact (Blk.made w #[.int .i64 n] 3).cell 0⟩⟩
  refine step_appI hg s x hop base v _ xs [n] hs hx (hown.below bel) hi (by simp; omega) (Nat.le_trans hb bel.size) fun v' w' ho hg' => ?_
  refine hK v' w' ho ⟨hg'.os.trans bel.os, hg'.tape.trans bel.tape, hg'.output.trans bel.output, Nat.le_trans bel.size hg'.size, fun k hk hne => (hg'.block k (Nat.lt_of_lt_of_le hk bel.size) hne).trans (bel.block k hk)⟩

set_option maxHeartbeats 1000000 in
theorem spec_l4Plain (v : Value) (xs : List Int) (w : World) (h : Ints w v xs) (hl : xs.length ≤ 1000) :
    Calls Try.prog 44 #[v] w (NewInts1 w (plainP xs)) := by
  obtain ⟨R, hR⟩ : ∃ R, plainP xs = R := ⟨_, rfl⟩
  rw [hR]
  have H0 : Hid ([] ++ plainP (xs.drop 0) = R) := Lib.hid (by rw [List.drop_zero, List.nil_append]; exact hR)
  have HR : Hid (R.length ≤ 2000) := Lib.hid (by rw [← hR, plainP_len]; omega)
  clear hR
  have hv := h
  obtain ⟨a, cap, rfl, l1, m1, c0⟩ := h
  unfold maxLen at m1
  have own0 := own_empty w w.heap.size (Nat.le_refl _)
  have b0 := alloc_below' w (.cells #[] 3)
  clear c0
  go_enter Try.func44, Try.ntmps44
  go_wp2
  go_loopw [3, 4] (fun r i wr => ∃ (f : Nat) (cur : List Int), i = .int .i64 f ∧ f ≤ xs.length + 64 ∧ Own wr w.heap.size r cur ∧ Hid (cur ++ plainP (xs.drop f) = R) ∧ Below w.heap.size w wr) (fun _ i _ => xs.length + 64 - (intOf i).toNat)
  case atStart => exact ⟨0, [], rfl, by omega, own0, H0, b0⟩
  case round =>
    obtain ⟨f, cur, rfl, hf, hown, heq, hbel⟩ := hrel
    have hsz := hbel.size
    by_cases hlt : f < xs.length
    · have hne : xs.drop f ≠ [] := fun e => by have := congrArg List.length e; rw [List.length_drop] at this; simp at this; omega
      have hpc := plainP_cons hne
      have hdl : (xs.drop f).length = xs.length - f := List.length_drop
      have hq := heq.out
      rw [hpc, hdl, List.drop_drop] at hq
      by_cases h64 : f + 64 ≤ xs.length
      · have htk : (xs.drop f).take 64 = (xs.drop f).take 64 := rfl
        rw [show min 64 (xs.length - f) = 64 by omega, htk] at hq
        obtain ⟨us, hs, is⟩ := run_part hv f 64 (by omega)
        have hs' : ∀ W, (Instr.slice 23 (.slice a xs.length cap) (some (.int .i64 (f : Int))) (some (.int .i64 ((f : Int) + 64))) none).run Try.prog W = .ok us W := hs
        have is2 := is wr (hv.below hbel)
        have hyl : ((xs.drop f).take 64).length ≤ 64 := by rw [List.length_take]; omega
        obtain ⟨ys, hys⟩ : ∃ ys, (xs.drop f).take 64 = ys := ⟨_, rfl⟩
        rw [hys] at is2 hq hyl
        simp only [hys] at is
        have IS := Lib.hid is
        have hcl : cur.length ≤ 2000 := by have := HR.out; rw [← hq] at this; simp at this; omega
        have e1 : (((64 - 1 : Nat)) : Int) = 63 := by omega
        rw [e1] at hq
        have HQ := Lib.hid hq
        have s1 : IntKind.i64.wrap ((f : Int) + 64 - (f : Int)) = 64 := by rw [IntWalk.i64_in _ ⟨by omega, by omega⟩]; try omega
        have s2 : IntKind.i64.wrap (64 - 1) = 63 := by rw [IntWalk.i64_in _ ⟨by omega, by omega⟩]; try omega
        have f0 : (0 : Int) ≤ (f : Int) := by omega
        clear hne hpc hdl hq htk is hys hs e1
        go_wp2
        go_region_law (first
          | (refine step_app1D rfl (.tmp 18) (.tmp 23) rfl w.heap.size u3 cur _ rfl rfl hown (by omega) hsz ?_; intro v2 w2 own2 g2)
          | (refine step_appI rfl (.tmp 24) (.tmp 28) rfl w.heap.size v2 us _ ys rfl rfl own2 (IS.out w2 (hv.below (hbel.grown g2 hsz hown.lt))) (by simp; omega) (Nat.le_trans hsz g2.size) ?_; intro v3 w3 own3 g3))
        go_wp2
        go_roundw
        case rel =>
          refine ⟨f + 64, _, by go_num, by omega, own3, ?_, (hbel.grown g2 hsz hown.lt).grown g3 (Nat.le_trans hsz g2.size) own2.lt⟩
          have hh := HQ.out
          unfold Hid
          rw [← hh]
          simp
          try rfl
        case measure => simp [intOf]; omega
      · have htk : (xs.drop f).take 64 = (xs.drop f).take (xs.length - f) := by rw [List.take_of_length_le (by omega), List.take_of_length_le (by omega)]
        rw [show min 64 (xs.length - f) = (xs.length - f) by omega, htk] at hq
        obtain ⟨us, hs, is⟩ := run_part hv f (xs.length - f) (by omega)
        have hs' : ∀ W, (Instr.slice 23 (.slice a xs.length cap) (some (.int .i64 (f : Int))) (some (.int .i64 ((xs.length : Int)))) none).run Try.prog W = .ok us W := fun W => by have := hs W; rwa [show (f : Int) + ((xs.length - f : Nat) : Int) = (xs.length : Int) by omega] at this
        have is2 := is wr (hv.below hbel)
        have hyl : ((xs.drop f).take (xs.length - f)).length ≤ 64 := by rw [List.length_take]; omega
        obtain ⟨ys, hys⟩ : ∃ ys, (xs.drop f).take (xs.length - f) = ys := ⟨_, rfl⟩
        rw [hys] at is2 hq hyl
        simp only [hys] at is
        have IS := Lib.hid is
        have hcl : cur.length ≤ 2000 := by have := HR.out; rw [← hq] at this; simp at this; omega
        have e1 : (((xs.length - f - 1 : Nat)) : Int) = ((xs.length : Int) - (f : Int) - 1) := by omega
        rw [e1] at hq
        have HQ := Lib.hid hq
        have s1 : IntKind.i64.wrap ((xs.length : Int) - (f : Int)) = ((xs.length : Int) - (f : Int)) := by rw [IntWalk.i64_in _ ⟨by omega, by omega⟩]; try omega
        have s2 : IntKind.i64.wrap (((xs.length : Int) - (f : Int)) - 1) = ((xs.length : Int) - (f : Int) - 1) := by rw [IntWalk.i64_in _ ⟨by omega, by omega⟩]; try omega
        have f0 : (0 : Int) ≤ (f : Int) := by omega
        clear hne hpc hdl hq htk is hys hs e1
        go_wp2
        go_region_law (first
          | (refine step_app1D rfl (.tmp 18) (.tmp 23) rfl w.heap.size u3 cur _ rfl rfl hown (by omega) hsz ?_; intro v2 w2 own2 g2)
          | (refine step_appI rfl (.tmp 24) (.tmp 28) rfl w.heap.size v2 us _ ys rfl rfl own2 (IS.out w2 (hv.below (hbel.grown g2 hsz hown.lt))) (by simp; omega) (Nat.le_trans hsz g2.size) ?_; intro v3 w3 own3 g3))
        go_wp2
        go_roundw
        case rel =>
          refine ⟨f + 64, _, by go_num, by omega, own3, ?_, (hbel.grown g2 hsz hown.lt).grown g3 (Nat.le_trans hsz g2.size) own2.lt⟩
          have hh := HQ.out
          unfold Hid
          rw [← hh]
          simp
          try rfl
        case measure => simp [intOf]; omega
    · have hh := heq.out
      rw [List.drop_eq_nil_of_le (by omega), plainP_nil, List.append_nil] at hh
      subst hh
      go_wp2
      go_ret
      exact ⟨_, rfl, hown, hbel⟩
/-- 's[:m]' -/
theorem run_upto {w : World} {a : Option Addr} {n cap : Nat} {xs : List Int} (h : Ints w (.slice a n cap) xs) (m : Nat) (hm : m ≤ n) (W : World) :
    (Instr.slice 23 (.slice a n cap) none (some (.int .i64 (m : Int))) none).run Try.prog W = .ok (.slice a m cap) W := by
  obtain ⟨_, hl, _⟩ := h.sizes
  have e : (if cap = 0 then a else Option.map (fun x : Addr => x.add 0) a) = a := by
    split
    · rfl
    · cases a with
      | none => rfl
      | some a => simp [Addr.add]
  simp [Instr.slice, run_underlying Try.underlying23, Instr.sliceBounds, Instr.sliceBound, asIntOf]
  rw [if_pos (by omega)]
  try simp only [Nat.sub_zero]
  try rw [e]
set_option maxHeartbeats 2000000 in
theorem impl_withPlain (v u : Value) (out ys : List Int) (base : Nat) (w : World) (h : Own w base v out) (hd : ∀ W : World, Below base w W → Ints W u ys) (hb : base ≤ w.heap.size) (hl : out.length ≤ 2000) (hy : ys.length ≤ 1000) :
    Calls Try.prog 33 #[v, u] w (AppRes w base (out ++ plainP ys)) := by
  obtain ⟨R, hR⟩ : ∃ R, out ++ plainP ys = R := ⟨_, rfl⟩
  rw [hR]
  have HR : Hid (R.length ≤ 10000) := Lib.hid (by rw [← hR, List.length_append, plainP_len]; omega)
  have H0 : Hid (out ++ plainP ys = R) := Lib.hid hR
  have HD0 : Hid (∀ W : World, Below base w W → Ints W u ys) := Lib.hid hd
  obtain ⟨au, capu, rfl, lu, mu, _⟩ := hd w (Below.refl _ _)
  clear hR hd
  go_enter Try.func33, Try.ntmps33
  go_wp2
  go_loopw [0, 1] (fun r b wr => ∃ (cur rest : List Int), Own wr base r cur ∧ (∃ a cap, b = .slice a rest.length cap) ∧ Hid (∀ W : World, Below base w W → Ints W b rest) ∧ Hid (cur ++ plainP rest = R) ∧ Below base w wr) (fun _ b _ => match b with | .slice _ n _ => n | _ => 0)
  case atStart => exact ⟨out, ys, h, ⟨_, _, rfl⟩, HD0, H0, Below.refl _ _⟩
  case round =>
    obtain ⟨cur, rest, hown, ⟨a, cap, rfl⟩, hin, heq, hbel⟩ := hrel
    have hsz := Nat.le_trans hb hbel.size
    have i0 := hin.out wr hbel
    have hss := i0.sizes
    have hs2 := hss.2.1
    have hs3 := hss.2.2
    unfold maxLen at hs3
    clear hss i0
    by_cases hne : rest = []
    · subst hne
      have hh := heq.out
      rw [plainP_nil, List.append_nil] at hh
      subst hh
      go_wp2
      go_ret
      exact ⟨_, rfl, hown, hbel⟩
    · have hlt : 0 < rest.length := List.length_pos_iff.2 hne
      have hpc := plainP_cons hne
      have hq := heq.out
      rw [hpc] at hq
      by_cases h64 : 64 ≤ rest.length
      · have htk : rest.take 64 = rest.take (64) := rfl
        rw [show min 64 rest.length = (64) by omega, htk] at hq
        have hrd : rest.drop 64 = rest.drop (64) := rfl
        rw [hrd] at hq
        have i1 := hin.out wr hbel
        obtain ⟨a2, cap2, hs2, is2⟩ := run_from i1 (64) (by omega)
        have hs1 : ∀ W, (Instr.slice 23 (.slice a rest.length cap) none (some (.int .i64 (64))) none).run Try.prog W = .ok (.slice a (64) cap) W := fun W => run_upto i1 (64) (by omega) W
        have hs2' : ∀ W, (Instr.slice 23 (.slice a rest.length cap) (some (.int .i64 (64))) none none).run Try.prog W = .ok (.slice a2 (rest.length - (64)) cap2) W := hs2
        have IS1 : Hid (∀ W, Below base w W → Ints W (.slice a (64) cap) (rest.take (64))) := Lib.hid fun W hW => (hin.out W hW).take (64) (by omega)
        have IS2 : Hid (∀ W, Below base w W → Ints W (.slice a2 (rest.length - (64)) cap2) (rest.drop (64))) := Lib.hid fun W hW => is2 W (hin.out W hW)
        have hyl : (rest.take (64)).length ≤ 64 := by rw [List.length_take]; omega
        obtain ⟨ys, hys⟩ : ∃ ys, rest.take (64) = ys := ⟨_, rfl⟩
        rw [hys] at hq hyl IS1
        have hcl : cur.length ≤ 20000 := by have := HR.out; rw [← hq] at this; simp at this; omega
        have e1 : (((64) - 1 : Nat) : Int) = 63 := by omega
        rw [e1] at hq
        have HQ := Lib.hid hq
        have HD : Hid ((rest.drop (64)).length = rest.length - (64)) := Lib.hid List.length_drop
        have s2 : IntKind.i64.wrap (64 - 1) = 63 := by rw [IntWalk.i64_in _ ⟨by omega, by omega⟩]; try omega
        clear hne hpc hq htk hrd hys e1 hs2 is2 i1 hin
        go_wp2
        go_region_law (first
          | (refine step_app1D rfl (.tmp 12) (.tmp 15) rfl base u0 cur _ rfl rfl hown (by omega) hsz ?_; intro v2 w2 own2 g2)
          | (refine step_appI rfl (.tmp 16) (.tmp 19) rfl base v2 (.slice a (64) cap) _ ys rfl rfl own2 (IS1.out w2 (hbel.grown g2 hsz hown.lt)) (by simp; omega) (Nat.le_trans hsz g2.size) ?_; intro v3 w3 own3 g3))
        go_wp2
        go_roundw
        case rel =>
          refine ⟨_, rest.drop (64), own3, by rw [HD.out]; exact ⟨_, _, rfl⟩, IS2, ?_, (hbel.grown g2 hsz hown.lt).grown g3 (Nat.le_trans hsz g2.size) own2.lt⟩
          have hh := HQ.out
          unfold Hid
          rw [← hh]
          simp
          try rfl
        case measure => simp; omega
      · have htk : rest.take 64 = rest.take (rest.length) := by rw [List.take_of_length_le (by omega), List.take_of_length_le (by omega)]
        rw [show min 64 rest.length = (rest.length) by omega, htk] at hq
        have hrd : rest.drop 64 = rest.drop (rest.length) := by rw [List.drop_eq_nil_of_le (by omega), List.drop_eq_nil_of_le (by omega)]
        rw [hrd] at hq
        have i1 := hin.out wr hbel
        obtain ⟨a2, cap2, hs2, is2⟩ := run_from i1 (rest.length) (by omega)
        have hs1 : ∀ W, (Instr.slice 23 (.slice a rest.length cap) none (some (.int .i64 ((rest.length : Int)))) none).run Try.prog W = .ok (.slice a (rest.length) cap) W := fun W => run_upto i1 (rest.length) (by omega) W
        have hs2' : ∀ W, (Instr.slice 23 (.slice a rest.length cap) (some (.int .i64 ((rest.length : Int)))) none none).run Try.prog W = .ok (.slice a2 (rest.length - (rest.length)) cap2) W := hs2
        have IS1 : Hid (∀ W, Below base w W → Ints W (.slice a (rest.length) cap) (rest.take (rest.length))) := Lib.hid fun W hW => (hin.out W hW).take (rest.length) (by omega)
        have IS2 : Hid (∀ W, Below base w W → Ints W (.slice a2 0 cap2) []) := Lib.hid fun W hW => by
          have := is2 W (hin.out W hW)
          rwa [Nat.sub_self, List.drop_length] at this
        have hyl : (rest.take (rest.length)).length ≤ 64 := by rw [List.length_take]; omega
        obtain ⟨ys, hys⟩ : ∃ ys, rest.take (rest.length) = ys := ⟨_, rfl⟩
        rw [hys] at hq hyl IS1
        have hcl : cur.length ≤ 20000 := by have := HR.out; rw [← hq] at this; simp at this; omega
        have e1 : (((rest.length) - 1 : Nat) : Int) = ((rest.length : Int) - 1) := by omega
        rw [e1, List.drop_length] at hq
        have HQ := Lib.hid hq
        have HD : Hid ((rest.drop (rest.length)).length = rest.length - (rest.length)) := Lib.hid List.length_drop
        have s2 : IntKind.i64.wrap ((rest.length : Int) - 1) = ((rest.length : Int) - 1) := by rw [IntWalk.i64_in _ ⟨by omega, by omega⟩]; try omega
        clear hne hpc hq htk hrd hys e1 hs2 is2 i1 hin
        go_wp2
        go_region_law (first
          | (refine step_app1D rfl (.tmp 12) (.tmp 15) rfl base u0 cur _ rfl rfl hown (by omega) hsz ?_; intro v2 w2 own2 g2)
          | (refine step_appI rfl (.tmp 16) (.tmp 19) rfl base v2 (.slice a (rest.length) cap) _ ys rfl rfl own2 (IS1.out w2 (hbel.grown g2 hsz hown.lt)) (by simp; omega) (Nat.le_trans hsz g2.size) ?_; intro v3 w3 own3 g3))
        go_wp2
        go_roundw
        case rel =>
          refine ⟨_, [], own3, ⟨_, _, rfl⟩, IS2, ?_, (hbel.grown g2 hsz hown.lt).grown g3 (Nat.le_trans hsz g2.size) own2.lt⟩
          have hh := HQ.out
          unfold Hid
          rw [← hh]
          simp
          try rfl
        case measure => simp; omega
end Go.Proofs.Ytkdikdkeaomobaa
