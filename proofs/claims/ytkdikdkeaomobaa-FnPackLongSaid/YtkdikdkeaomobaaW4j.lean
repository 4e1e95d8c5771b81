/- Chapter 4: the program's plain pieces, with where they lie. -/
import Derived.Test.YtkdikdkeaomobaaW4e
import Derived.Deep.RegionLaw
namespace Go.Proofs.Ytkdikdkeaomobaa
open Go.ChangeShapes Go.WideShapes Go.ChangeAt Go.RowKit
set_option linter.unusedVariables false

/-- v' lies where v lay, or where nothing was -/
def Moved (w : World) (v v' : Value) : Prop := v'.ownBlock = v.ownBlock ∨ ∀ k, v'.ownBlock = some k → w.heap.size ≤ k
theorem Moved.at {w : World} {v v' : Value} (h : v'.ownBlock = v.ownBlock ∨ v'.ownBlock = some w.heap.size) : Moved w v v' := h.imp id fun h k hk => by
  rw [h] at hk
  simp only [Option.some.injEq] at hk
  omega
/-- only where v lay has anything turned, and r lies there or where nothing was -/
def Mv (w : World) (v : Value) (wr : World) (r : Value) : Prop := w.grownBy wr v.ownBlock ∧ Moved w v r
theorem Mv.refl (w : World) (v : Value) : Mv w v w v := ⟨World.grownBy.refl _ _, .inl rfl⟩
theorem Mv.step {w wr w2 : World} {v r r2 : Value} (h : Mv w v wr r) (g : wr.grownBy w2 r.ownBlock) (m : Moved wr r r2) : Mv w v w2 r2 := by
  obtain ⟨g0, m0⟩ := h
  refine ⟨⟨g.os.trans g0.os, g.tape.trans g0.tape, g.output.trans g0.output, Nat.le_trans g0.size g.size, fun k hk hne => (g.block k (Nat.lt_of_lt_of_le hk g0.size) fun e => ?_).trans (g0.block k hk hne)⟩, ?_⟩
  · rcases m0 with h | h
    · exact hne (e.trans h)
    · have := h k e.symm
      omega
  · rcases m with h | h
    · rcases m0 with h0 | h0
      · exact .inl (h.trans h0)
      · exact .inr fun k hk => h0 k (h ▸ hk)
    · exact .inr fun k hk => Nat.le_trans g0.size (h k hk)
def AppRes2 (w : World) (base : Nat) (v : Value) (ys : List Int) (e : Ending) (w' : World) : Prop := ∃ v', e = .returned v' ∧ Own w' base v' ys ∧ w.grownBy w' v.ownBlock ∧ Moved w v v'

/-- 'append(s, u...)' as a step of a region that draws -/
theorem step_appA {w : World} {ops : Array Oper} {o : Oper} {a : Act} {K : Act → World → Prop} {Q : Exit → Act → World → Prop} {E : Prop}
    (hg : o.guard = none) (s x : Operand) (hop : o.op = Op.call { callee := Callee.builtin Builtin.append, args := #[s, x], argTypes := #[23, 23] })
    (base : Nat) (v u : Value) (xs ys : List Int) (hs : a.eval s = v) (hx : a.eval x = u)
    (hown : Own w base v xs) (hsrc : Ints w u ys) (hlen : xs.length + ys.length < 10000000000) (hb : base ≤ w.heap.size)
    (hK : ∀ v' w', Own w' base v' (xs ++ ys) → w.grownBy w' v.ownBlock → Moved w v v' → K (a.put o.dst v') w') :
    if Region.wanted o (yielded ops a.tmps) = true then Oper.wp Try.prog o a w K Q else E := by
  obtain ⟨i0, hi, hz0, hz1, hz2⟩ := info_parts info_int
  have hw : Region.wanted o (yielded ops a.tmps) = true := by simp [Region.wanted, hg]
  rw [if_pos hw]
  obtain ⟨ad, cap, rfl, hl, hm, hc⟩ := hsrc
  cases ad with
  | none =>
    have h0 : ys = [] := by
      rcases Nat.eq_zero_or_pos ys.length with h | h
      · exact List.eq_nil_of_length_eq_zero h
      · obtain ⟨b, off, e, _⟩ := hc h; cases e
    subst h0
    have hrun := run_append_none_any (P := Try.prog) (w := w) base 23 o.type 3 i0 1 Try.underlying23 hi v xs.length _ hown cap
    unfold Oper.wp
    simp [execOp, hop, resolve, invoke, builtin, hs, hx, hrun, Result.andThen]
    exact hK v w (by simpa using hown) (World.grownBy.refl _ _) (.inl rfl)
  | some ad =>
    obtain ⟨v', w', hrun, r1, r2, _, r3⟩ := run_append_own_at (P := Try.prog) w base 23 o.type 3 i0 (.int .i64 0) 1 8 Try.underlying23 hi hz0 hz1 hz2 rfl (by decide) v xs.length _ hown ad ys.length cap (ys.map (Value.int .i64)) (by simp) (by
      intro j u hu
      have hj : j < ys.length := by
        rcases Nat.lt_or_ge j ys.length with h | h
        · exact h
        · simp [List.getElem?_eq_none (show (ys.map (Value.int .i64)).length ≤ j by simpa using h)] at hu
      obtain ⟨b, off, e, hcell⟩ := hc (by omega)
      simp only [Option.some.injEq] at e
      subst e
      rw [Addr.add_lit, hcell j hj]
      simp [hj] at hu
      simp [List.getD, hj, hu]) (ints_oneCell _ _) (by unfold maxLen; omega) (by omega) hb
    unfold Oper.wp
    simp [execOp, hop, resolve, invoke, builtin, hs, hx, hrun, Result.andThen]
    refine hK v' w' ?_ r2 (Moved.at r3)
    unfold Own
    simpa using r1

/-- 'append(s, n)' as a step of a region that draws, behind the making of its one cell -/
theorem step_app1A {w : World} {ops : Array Oper} {o : Oper} {a : Act} {K : Act → World → Prop} {Q : Exit → Act → World → Prop} {E : Prop}
    (hg : o.guard = none) (s x : Operand) (hop : o.op = Op.call { callee := Callee.builtin Builtin.append, args := #[s, x], argTypes := #[23, 23] })
    (base : Nat) (v : Value) (xs : List Int) (n : Int) (hs : a.eval s = v) (hx : a.eval x = .slice (some ⟨w.heap.size, 0, none⟩) 1 1)
    (hown : Own w base v xs) (hlen : xs.length < 1000000) (hb : base ≤ w.heap.size)
    (hK : ∀ v' w', Own w' base v' (xs ++ [n]) → w.grownBy w' v.ownBlock → Moved w v v' → K (a.put o.dst v') w') :
    if Region.wanted o (yielded ops a.tmps) = true then Oper.wp Try.prog o a (w.alloc (.cells #[.int .i64 n] 3)).drew K Q else E := by
  have bel : Below w.heap.size w (w.alloc (.cells #[.int .i64 n] 3)).drew := Bstep (alloc_below' _ _) (below_drewN (Below.refl _ _) 1)
  have hi : Ints (w.alloc (.cells #[.int .i64 n] 3)).drew (.slice (some ⟨w.heap.size, 0, none⟩) 1 1) [n] :=
    ⟨_, 1, rfl, by simp, by unfold maxLen; omega, fun _ => ⟨_, 0, rfl, fun i hi => by
      have : i = 0 := by simpa using hi
      subst this
      exact (Blk.made w #[.int .i64 n] 3).cell 0⟩⟩
  refine step_appA hg s x hop base v _ xs [n] hs hx (hown.below bel) hi (by simp; omega) (Nat.le_trans hb bel.size) fun v' w' ho hg' mv => ?_
  refine hK v' w' ho ⟨hg'.os.trans bel.os, hg'.tape.trans bel.tape, hg'.output.trans bel.output, Nat.le_trans bel.size hg'.size, fun k hk hne => (hg'.block k (Nat.lt_of_lt_of_le hk bel.size) hne).trans (bel.block k hk)⟩ (mv.imp id fun h k hk => Nat.le_trans bel.size (h k hk))

set_option maxHeartbeats 2000000 in
theorem impl_withPlain2 (v u : Value) (out ys : List Int) (base : Nat) (w : World) (h : Own w base v out) (hd : ∀ W : World, Below base w W → Ints W u ys) (hb : base ≤ w.heap.size) (hl : out.length ≤ 2000) (hy : ys.length ≤ 1000) :
    Calls Try.prog 33 #[v, u] w (AppRes2 w base v (out ++ plainP ys)) := by
  obtain ⟨R, hR⟩ : ∃ R, out ++ plainP ys = R := ⟨_, rfl⟩
  rw [hR]
  have HR : Hid (R.length ≤ 10000) := Lib.hid (by rw [← hR, List.length_append, plainP_len]; omega)
  have H0 : Hid (out ++ plainP ys = R) := Lib.hid hR
  have HD0 : Hid (∀ W : World, Below base w W → Ints W u ys) := Lib.hid hd
  obtain ⟨au, capu, rfl, lu, mu, _⟩ := hd w (Below.refl _ _)
  clear hR hd
  go_enter Try.func33, Try.ntmps33
  go_wp2
  go_loopw [0, 1] (fun r b wr => ∃ (cur rest : List Int), Own wr base r cur ∧ (∃ a cap, b = .slice a rest.length cap) ∧ Hid (∀ W : World, Below base w W → Ints W b rest) ∧ Hid (cur ++ plainP rest = R) ∧ Below base w wr ∧ Mv w v wr r) (fun _ b _ => match b with | .slice _ n _ => n | _ => 0)
  case atStart => exact ⟨out, ys, h, ⟨_, _, rfl⟩, HD0, H0, Below.refl _ _, Mv.refl _ _⟩
  case round =>
    obtain ⟨cur, rest, hown, ⟨a, cap, rfl⟩, hin, heq, hbel, hmv⟩ := hrel
    have hsz := Nat.le_trans hb hbel.size
    have i0 := hin.out wr hbel
    have hss := i0.sizes
    have hs2 := hss.2.1
    have hs3 := hss.2.2
    unfold maxLen at hs3
    clear hss i0
    by_cases hne : rest = []
    · subst hne
      have hh := heq.out
      rw [plainP_nil, List.append_nil] at hh
      subst hh
      go_wp2
      go_ret
      exact ⟨_, rfl, hown, hmv.1, hmv.2⟩
    · have hlt : 0 < rest.length := List.length_pos_iff.2 hne
      have hpc := plainP_cons hne
      have hq := heq.out
      rw [hpc] at hq
      by_cases h64 : 64 ≤ rest.length
      · have htk : rest.take 64 = rest.take (64) := rfl
        rw [show min 64 rest.length = (64) by omega, htk] at hq
        have hrd : rest.drop 64 = rest.drop (64) := rfl
        rw [hrd] at hq
        have i1 := hin.out wr hbel
        obtain ⟨a2, cap2, hs2, is2⟩ := run_from i1 (64) (by omega)
        have hs1 : ∀ W, (Instr.slice 23 (.slice a rest.length cap) none (some (.int .i64 (64))) none).run Try.prog W = .ok (.slice a (64) cap) W := fun W => run_upto i1 (64) (by omega) W
        have hs2' : ∀ W, (Instr.slice 23 (.slice a rest.length cap) (some (.int .i64 (64))) none none).run Try.prog W = .ok (.slice a2 (rest.length - (64)) cap2) W := hs2
        have IS1 : Hid (∀ W, Below base w W → Ints W (.slice a (64) cap) (rest.take (64))) := Lib.hid fun W hW => (hin.out W hW).take (64) (by omega)
        have IS2 : Hid (∀ W, Below base w W → Ints W (.slice a2 (rest.length - (64)) cap2) (rest.drop (64))) := Lib.hid fun W hW => is2 W (hin.out W hW)
        have hyl : (rest.take (64)).length ≤ 64 := by rw [List.length_take]; omega
        obtain ⟨ys, hys⟩ : ∃ ys, rest.take (64) = ys := ⟨_, rfl⟩
        rw [hys] at hq hyl IS1
        have hcl : cur.length ≤ 20000 := by have := HR.out; rw [← hq] at this; simp at this; omega
        have e1 : (((64) - 1 : Nat) : Int) = 63 := by omega
        rw [e1] at hq
        have HQ := Lib.hid hq
        have HD : Hid ((rest.drop (64)).length = rest.length - (64)) := Lib.hid List.length_drop
        have s2 : IntKind.i64.wrap (64 - 1) = 63 := by rw [IntWalk.i64_in _ ⟨by omega, by omega⟩]; try omega
        clear hne hpc hq htk hrd hys e1 hs2 is2 i1 hin
        go_wp2
        go_region_law (first
          | (refine step_app1A rfl (.tmp 12) (.tmp 15) rfl base u0 cur _ rfl rfl hown (by omega) hsz ?_; intro v2 w2 own2 g2 mv2)
          | (refine step_appA rfl (.tmp 16) (.tmp 19) rfl base v2 (.slice a (64) cap) _ ys rfl rfl own2 (IS1.out w2 (hbel.grown g2 hsz hown.lt)) (by simp; omega) (Nat.le_trans hsz g2.size) ?_; intro v3 w3 own3 g3 mv3))
        go_wp2
        go_roundw
        case rel =>
          refine ⟨_, rest.drop (64), own3, by rw [HD.out]; exact ⟨_, _, rfl⟩, IS2, ?_, (hbel.grown g2 hsz hown.lt).grown g3 (Nat.le_trans hsz g2.size) own2.lt, (hmv.step g2 mv2).step g3 mv3⟩
          have hh := HQ.out
          unfold Hid
          rw [← hh]
          simp
          try rfl
        case measure => simp; omega
      · have htk : rest.take 64 = rest.take (rest.length) := by rw [List.take_of_length_le (by omega), List.take_of_length_le (by omega)]
        rw [show min 64 rest.length = (rest.length) by omega, htk] at hq
        have hrd : rest.drop 64 = rest.drop (rest.length) := by rw [List.drop_eq_nil_of_le (by omega), List.drop_eq_nil_of_le (by omega)]
        rw [hrd] at hq
        have i1 := hin.out wr hbel
        obtain ⟨a2, cap2, hs2, is2⟩ := run_from i1 (rest.length) (by omega)
        have hs1 : ∀ W, (Instr.slice 23 (.slice a rest.length cap) none (some (.int .i64 ((rest.length : Int)))) none).run Try.prog W = .ok (.slice a (rest.length) cap) W := fun W => run_upto i1 (rest.length) (by omega) W
        have hs2' : ∀ W, (Instr.slice 23 (.slice a rest.length cap) (some (.int .i64 ((rest.length : Int)))) none none).run Try.prog W = .ok (.slice a2 (rest.length - (rest.length)) cap2) W := hs2
        have IS1 : Hid (∀ W, Below base w W → Ints W (.slice a (rest.length) cap) (rest.take (rest.length))) := Lib.hid fun W hW => (hin.out W hW).take (rest.length) (by omega)
        have IS2 : Hid (∀ W, Below base w W → Ints W (.slice a2 0 cap2) []) := Lib.hid fun W hW => by
          have := is2 W (hin.out W hW)
          rwa [Nat.sub_self, List.drop_length] at this
        have hyl : (rest.take (rest.length)).length ≤ 64 := by rw [List.length_take]; omega
        obtain ⟨ys, hys⟩ : ∃ ys, rest.take (rest.length) = ys := ⟨_, rfl⟩
        rw [hys] at hq hyl IS1
        have hcl : cur.length ≤ 20000 := by have := HR.out; rw [← hq] at this; simp at this; omega
        have e1 : (((rest.length) - 1 : Nat) : Int) = ((rest.length : Int) - 1) := by omega
        rw [e1, List.drop_length] at hq
        have HQ := Lib.hid hq
        have HD : Hid ((rest.drop (rest.length)).length = rest.length - (rest.length)) := Lib.hid List.length_drop
        have s2 : IntKind.i64.wrap ((rest.length : Int) - 1) = ((rest.length : Int) - 1) := by rw [IntWalk.i64_in _ ⟨by omega, by omega⟩]; try omega
        clear hne hpc hq htk hrd hys e1 hs2 is2 i1 hin
        go_wp2
        go_region_law (first
          | (refine step_app1A rfl (.tmp 12) (.tmp 15) rfl base u0 cur _ rfl rfl hown (by omega) hsz ?_; intro v2 w2 own2 g2 mv2)
          | (refine step_appA rfl (.tmp 16) (.tmp 19) rfl base v2 (.slice a (rest.length) cap) _ ys rfl rfl own2 (IS1.out w2 (hbel.grown g2 hsz hown.lt)) (by simp; omega) (Nat.le_trans hsz g2.size) ?_; intro v3 w3 own3 g3 mv3))
        go_wp2
        go_roundw
        case rel =>
          refine ⟨_, [], own3, ⟨_, _, rfl⟩, IS2, ?_, (hbel.grown g2 hsz hown.lt).grown g3 (Nat.le_trans hsz g2.size) own2.lt, (hmv.step g2 mv2).step g3 mv3⟩
          have hh := HQ.out
          unfold Hid
          rw [← hh]
          simp
          try rfl
        case measure => simp; omega
end Go.Proofs.Ytkdikdkeaomobaa
