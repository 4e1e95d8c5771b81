/- Merged: S1 P5b P5c W3j W5d W5e W5f W5g W5h W5i W5j. -/
import Derived.Test.YtfapeppocfodpaaS0
import Derived.Deep.RegionLaw
import Derived.Test.YtfapeppocfodpaaPX3
import Derived.Test.YtfapeppocfodpaaWX3
import Derived.Test.YtfapeppocfodpaaW5X
import Derived.Deep.RegionHeld3
import Derived.Test.YtfapeppocfodpaaWX4
import Derived.Test.YtfapeppocfodpaaDX
import Derived.Deep.Cut
import Derived.Deep.CutRange
namespace Go.Proofs.Ytfapeppocfodpaa
open Go.ChangeShapes Go.WideShapes Go.ChangeAt Go.RowKit
set_option linter.unusedVariables false
set_option maxRecDepth 100000

-- S1

/-- 'append(s, u...)' as a step of a region that draws, guarded or not, in a world that bears what an earlier one bore -/
theorem step_appB {w0 w : World} {ops : Array Oper} {o : Oper} {a : Act} {K : Act → World → Prop} {Q : Exit → Act → World → Prop} {E : Prop}
    (hw : Region.wanted o (yielded ops a.tmps) = true) (s x : Operand) (hop : o.op = Op.call { callee := Callee.builtin Builtin.append, args := #[s, x], argTypes := #[25, 25] })
    (base : Nat) (v u : Value) (xs ys : List Int) (hs : a.eval s = v) (hx : a.eval x = u)
    (hown0 : Own w0 base v xs) (hsrc0 : Ints w0 u ys) (hlen : xs.length + ys.length < 10000000000) (hb0 : base ≤ w0.heap.size) (hbel : Below w0.heap.size w0 w)
    (hK : ∀ v' w', Own w' base v' (xs ++ ys) → w0.grownBy w' v.ownBlock → K (a.put o.dst v') w') :
    if Region.wanted o (yielded ops a.tmps) = true then Oper.wp Try.prog o a w K Q else E := by
  have hown := hown0.below hbel
  have hsrc := hsrc0.below hbel
  have hb := Nat.le_trans hb0 hbel.size
  have hK' : ∀ v' w', Own w' base v' (xs ++ ys) → w.grownBy w' v.ownBlock → K (a.put o.dst v') w' := fun v' w' ho hg' => hK v' w' ho ⟨hg'.os.trans hbel.os, hg'.tape.trans hbel.tape, hg'.output.trans hbel.output, Nat.le_trans hbel.size hg'.size, fun k hk hne => (hg'.block k (Nat.lt_of_lt_of_le hk hbel.size) hne).trans (hbel.block k hk)⟩
  obtain ⟨i0, hi, hz0, hz1, hz2⟩ := info_parts info_int
  rw [if_pos hw]
  obtain ⟨ad, cap, rfl, hl, hm, hc⟩ := hsrc
  cases ad with
  | none =>
    have h0 : ys = [] := by
      rcases Nat.eq_zero_or_pos ys.length with h | h
      · exact List.eq_nil_of_length_eq_zero h
      · obtain ⟨b, off, e, _⟩ := hc h; cases e
    subst h0
    have hrun := run_append_none_any (P := Try.prog) (w := w) base 25 o.type 3 i0 1 Try.underlying25 hi v xs.length _ hown cap
    unfold Oper.wp
    simp [execOp, hop, resolve, invoke, builtin, hs, hx, hrun, Result.andThen]
    exact hK' v w (by simpa using hown) (World.grownBy.refl _ _)
  | some ad =>
    obtain ⟨v', w', hrun, r1, r2, _⟩ := run_append_own (P := Try.prog) w base 25 o.type 3 i0 (.int .i64 0) 1 8 Try.underlying25 hi hz0 hz1 hz2 rfl (by decide) v xs.length _ hown ad ys.length cap (ys.map (Value.int .i64)) (by simp) (by
      intro j u hu
      have hj : j < ys.length := by
        rcases Nat.lt_or_ge j ys.length with h | h
        · exact h
        · simp [List.getElem?_eq_none (show (ys.map (Value.int .i64)).length ≤ j by simpa using h)] at hu
      obtain ⟨b, off, e, hcell⟩ := hc (by omega)
      simp only [Option.some.injEq] at e
      subst e
      rw [Addr.add_lit, hcell j hj]
      simp [hj] at hu
      simp [List.getD, hj, hu]) (ints_oneCell _ _) (by unfold maxLen; omega) (by omega) hb
    unfold Oper.wp
    simp [execOp, hop, resolve, invoke, builtin, hs, hx, hrun, Result.andThen]
    refine hK' v' w' ?_ r2
    unfold Own
    simpa using r1

/-- 'append(s, u...)', guarded or not -/
theorem wp_appG {w0 w : World} {ops : Array Oper} {rest : List Oper} {o : Oper} {a : Act} {Q : Exit → Act → World → Prop}
    (hw : Region.wanted o (yielded ops a.tmps) = true) (s x : Operand) (hop : o.op = Op.call { callee := Callee.builtin Builtin.append, args := #[s, x], argTypes := #[25, 25] })
    (base : Nat) (v u : Value) (xs ys : List Int) (hs : a.eval s = v) (hx : a.eval x = u)
    (hown0 : Own w0 base v xs) (hsrc0 : Ints w0 u ys) (hlen : xs.length + ys.length < 10000000000) (hb0 : base ≤ w0.heap.size) (hbel : Below w0.heap.size w0 w)
    (hK : ∀ v' w', Own w' base v' (xs ++ ys) → w0.grownBy w' v.ownBlock → wpList Try.prog ops Q rest (a.put o.dst v') w') :
    wpList Try.prog ops Q (o :: rest) a w := by
  have h := step_appB (E := False) (Q := Q) hw s x hop base v u xs ys hs hx hown0 hsrc0 hlen hb0 hbel hK
  rw [if_pos hw] at h
  unfold wpList
  rw [if_pos hw]
  exact .inl h
-- P5b

/-- the bytes of the first k records, for the base of the first one -/
def bodyN (rs : List Rec) : Nat → List Int
  | 0 => []
  | k + 1 => bodyN rs k ++ recBytes (recAt rs k) (recAt rs 0).off (recAt rs 0).time
def bodyB (rs : List Rec) : List Int := bodyN rs rs.length
theorem ordOk_base {rs : List Rec} (h : ordOk rs = true) (h0 : 0 < rs.length) : baseOk (recAt rs 0).off (recAt rs 0).time = true := by
  have := recOk_iff.1 (ordOk_rec h h0)
  exact baseOk_iff.2 ⟨this.1, this.2.1⟩
theorem bodyN_len {rs : List Rec} (h : ordOk rs = true) : ∀ k, k ≤ rs.length → (bodyN rs k).length ≤ 33 * k
  | 0, _ => by simp [bodyN]
  | k + 1, hk => by
    have ih := bodyN_len h k (by omega)
    have h1 := recBody_len2 (o := (recAt rs 0).off) (t := (recAt rs 0).time) (ordOk_rec h (show k < rs.length by omega))
    have h2 := varB_small (n := ((recBody (recAt rs k) (recAt rs 0).off (recAt rs 0).time).length : Int)) (by omega) (by omega)
    have e : (recBytes (recAt rs k) (recAt rs 0).off (recAt rs 0).time).length = (recBody (recAt rs k) (recAt rs 0).off (recAt rs 0).time).length + 1 := by
      unfold recBytes; rw [List.length_append, h2]; omega
    simp only [bodyN, List.length_append]
    omega
theorem bodyN_ok {rs : List Rec} (h : ordOk rs = true) : ∀ k, k ≤ rs.length → okBs (bodyN rs k) = true
  | 0, _ => rfl
  | k + 1, hk => okBs_append (bodyN_ok h k (by omega)) (recBytes_ok (ordOk_rec h (by omega)) (ordOk_base h (by omega)))
theorem body_len {b : Bat} (h : batOk b = true) : (bodyB b.recs).length ≤ 198 := by
  obtain ⟨⟨_, h6⟩, _, _, ho⟩ := batOk_iff.1 h
  have := bodyN_len ho b.recs.length (Nat.le_refl _)
  unfold bodyB
  omega
theorem body_ok {b : Bat} (h : batOk b = true) : okBs (bodyB b.recs) = true := bodyN_ok (batOk_iff.1 h).2.2.2 _ (Nat.le_refl _)
/-- the bytes of the records, packed if told so -/
def pbodyB (b : Bat) : List Int := if b.packed = true then packP (bodyB b.recs) else bodyB b.recs
theorem pbody_ok {b : Bat} (h : batOk b = true) : okBs (pbodyB b) = true := by
  unfold pbodyB
  split
  · exact packP_ok (body_ok h)
  · exact body_ok h
theorem pbody_len {b : Bat} (h : batOk b = true) : (pbodyB b).length ≤ 210 := by
  have h1 := body_len h
  have h2 := packP_len (bodyB b.recs)
  unfold pbodyB
  split <;> omega
def flagsN (b : Bat) : Int := (if b.packed = true then 1 else 0) + (if b.mark = true then 2 else 0)
theorem flagsN_range (b : Bat) : 0 ≤ flagsN b ∧ flagsN b ≤ 3 := by unfold flagsN; cases b.packed <;> cases b.mark <;> simp
/-- what is told behind the sum ahead of the records -/
def headB (b : Bat) : List Int := [flagsN b, b.prod, b.epoch] ++ sfx 2 b.seq ++ sfx 3 (recAt b.recs 0).time ++ [(b.recs.length : Int), 0, 0]
def restB (b : Bat) : List Int := headB b ++ pbodyB b
def batB (b : Bat) : List Int := sfx 3 (recAt b.recs 0).off ++ sfx 2 ((restB b).length : Int) ++ sfx 2 (sumB (restB b)) ++ restB b
theorem headB_len (b : Bat) : (headB b).length = 11 := by simp [headB, sfx_len]
theorem prodOk_iff {mark : Bool} {p e s : Int} (h : prodOk mark p e s = true) : 0 ≤ p ∧ p ≤ 255 ∧ 0 ≤ e ∧ e ≤ 99 ∧ 0 ≤ s ∧ s ≤ 9999 := by
  unfold prodOk at h
  split at h
  · simp only [Bool.and_eq_true, decide_eq_true_eq] at h
    omega
  · simp only [Bool.and_eq_true, inR_iff] at h
    omega
theorem headB_ok {b : Bat} (h : batOk b = true) : okBs (headB b) = true := by
  obtain ⟨⟨_, h6⟩, _, hp, ho⟩ := batOk_iff.1 h
  obtain ⟨p0, p1, e0, e1, _, _⟩ := prodOk_iff hp
  have f := flagsN_range b
  unfold headB
  refine okBs_append (okBs_append (okBs_append ?_ (sfx_ok _ _)) (sfx_ok _ _)) ?_
  · simp [okBs]; omega
  · simp [okBs]; omega
theorem restB_ok {b : Bat} (h : batOk b = true) : okBs (restB b) = true := okBs_append (headB_ok h) (pbody_ok h)
theorem restB_len {b : Bat} (h : batOk b = true) : 11 ≤ (restB b).length ∧ (restB b).length ≤ 221 := by
  have := pbody_len h
  unfold restB
  rw [List.length_append, headB_len]
  omega
theorem batB_ok {b : Bat} (h : batOk b = true) : okBs (batB b) = true := okBs_append (okBs_append (okBs_append (sfx_ok _ _) (sfx_ok _ _)) (sfx_ok _ _)) (restB_ok h)
theorem batB_len (b : Bat) : (batB b).length = 7 + (restB b).length := by simp [batB, sfx_len]; omega
theorem batB_size {b : Bat} (h : batOk b = true) : 18 ≤ (batB b).length ∧ (batB b).length ≤ 228 := by
  have := restB_len h
  rw [batB_len]; omega
theorem sfx1 {n : Int} (h0 : 0 ≤ n) (h1 : n ≤ 255) : sfx 1 n = [n] := by simp [sfx]; omega
-- P5c

/-- the first n records of bytes, and the place behind them -/
def rdN (xs : List Int) (o t : Int) : Nat → Option (List Rec × Int)
  | 0 => some ([], 0)
  | n + 1 => match rdN xs o t n with
    | none => none
    | some (rs, k) => if (rdRec xs k.toNat o t).2.2 = true then some (rs ++ [(rdRec xs k.toNat o t).1], (rdRec xs k.toNat o t).2.1) else none
theorem rdN_none {xs : List Int} {o t : Int} {n : Nat} (h : rdN xs o t n = none) : ∀ m, n ≤ m → rdN xs o t m = none := by
  intro m hm
  induction m with
  | zero => obtain rfl : n = 0 := by omega
            exact h
  | succ m ih =>
    by_cases e : n = m + 1
    · subst e; exact h
    · simp only [rdN, ih (by omega)]
/-- a batch stands at a place -/
def BatAt (xs : List Int) (k : Nat) (b : Bat) : Prop := batOk b = true ∧ ∃ rest, xs.drop k = batB b ++ rest

theorem bodyN_drop {rs : List Rec} {n : Nat} (hn : n < rs.length) : ∃ rest, (bodyB rs).drop (bodyN rs n).length = recBytes (recAt rs n) (recAt rs 0).off (recAt rs 0).time ++ rest := by
  have h : ∀ m, n < m → ∃ rest, (bodyN rs m).drop (bodyN rs n).length = recBytes (recAt rs n) (recAt rs 0).off (recAt rs 0).time ++ rest := by
    intro m hm
    induction m with
    | zero => omega
    | succ m ih =>
      by_cases e : n = m
      · subst e
        exact ⟨[], by simp [bodyN]⟩
      · obtain ⟨rest, hr⟩ := ih (by omega)
        have hl : (bodyN rs n).length ≤ (bodyN rs m).length := by
          have : ∀ j, (bodyN rs n).length ≤ (bodyN rs (n + j)).length := fun j => by
            induction j with
            | zero => simp
            | succ j ih => rw [← Nat.add_assoc]; simp only [bodyN, List.length_append]; omega
          have := this (m - n)
          rwa [show n + (m - n) = m by omega] at this
        refine ⟨rest ++ recBytes (recAt rs m) (recAt rs 0).off (recAt rs 0).time, ?_⟩
        simp only [bodyN]
        rw [List.drop_append_of_le_length hl, hr, List.append_assoc]
  exact h _ hn
theorem take_recAt (rs : List Rec) (n : Nat) (hn : n < rs.length) : rs.take (n + 1) = rs.take n ++ [recAt rs n] := by
  rw [List.take_succ_eq_append_getElem hn, recAt_in hn]
/-- the records of a body are read -/
theorem rdN_body {rs : List Rec} (ho : ordOk rs = true) : ∀ n, n ≤ rs.length → rdN (bodyB rs) (recAt rs 0).off (recAt rs 0).time n = some (rs.take n, ((bodyN rs n).length : Int))
  | 0, _ => by simp [rdN, bodyN]
  | n + 1, hn => by
    have ih := rdN_body ho n (by omega)
    obtain ⟨rest, hr⟩ := bodyN_drop (rs := rs) (n := n) (by omega)
    have hk : (bodyN rs n).length ≤ (bodyB rs).length := by
      have hl : (recBytes (recAt rs n) (recAt rs 0).off (recAt rs 0).time).length ≤ ((bodyB rs).drop (bodyN rs n).length).length := by rw [hr, List.length_append]; omega
      rcases Nat.lt_or_ge (bodyB rs).length (bodyN rs n).length with h | h
      · rw [List.drop_eq_nil_of_le (by omega)] at hr
        have := congrArg List.length hr
        rw [List.length_append] at this
        unfold recBytes at this
        have hp := varB_pos (n := ((recBody (recAt rs n) (recAt rs 0).off (recAt rs 0).time).length : Int)) (by omega) (by have := recBody_len2 (o := (recAt rs 0).off) (t := (recAt rs 0).time) (ordOk_rec ho (show n < rs.length by omega)); omega)
        rw [List.length_append] at this
        simp only [List.length_nil] at this
        omega
      · exact h
    have hat : RecAt (bodyB rs) (bodyN rs n).length (recAt rs 0).off (recAt rs 0).time (recAt rs n) := ⟨ordOk_rec ho (by omega), rest, hr⟩
    have := rdRec_at (ordOk_base ho (by omega)) hk hat
    simp only [rdN, ih, Int.toNat_natCast, this, if_true]
    rw [take_recAt rs n (by omega)]
    simp [bodyN]

/-- the body as it was ahead of packing, and whether there is one -/
def plainOk (packed : Bool) (body : List Int) : Bool := !packed || (unpackP body).isSome
def plainL (packed : Bool) (body : List Int) : List Int := if packed = true then (unpackP body).getD [] else body
/-- the records of a body, if there are no others -/
def recsOk (body : List Int) (o t : Int) (n : Nat) : Bool := match rdN body o t n with
  | none => false
  | some (_, k) => decide (k = (body.length : Int))
def recsL (body : List Int) (o t : Int) (n : Nat) : List Rec := match rdN body o t n with
  | none => []
  | some (rs, k) => rs
/-- what is told behind a sum, as a batch -/
def tellBat (o : Int) (rest : List Int) : Bat :=
  ⟨decide (rest.getD 0 0 % 2 = 1), decide (rest.getD 0 0 / 2 = 1), rest.getD 1 0, rest.getD 2 0, fromB ((rest.drop 3).take 2), recsL (plainL (decide (rest.getD 0 0 % 2 = 1)) (rest.drop 11)) o (fromB ((rest.drop 5).take 3)) (rest.getD 8 0).toNat⟩
/-- whether a batch is read of the bytes between two places, behind the sum what is told -/
def tellOk (o s : Int) (rest win : List Int) : Bool :=
  decide (s = sumB rest) && !decide (3 < rest.getD 0 0) && decide (rest.getD 9 0 = 0) && decide (rest.getD 10 0 = 0) && plainOk (decide (rest.getD 0 0 % 2 = 1)) (rest.drop 11) &&
    recsOk (plainL (decide (rest.getD 0 0 % 2 = 1)) (rest.drop 11)) o (fromB ((rest.drop 5).take 3)) (rest.getD 8 0).toNat && batOk (tellBat o rest) && sameAt (batB (tellBat o rest)) 0 win
def manyAt (xs : List Int) (k : Nat) : Nat := (fromB ((xs.drop (k + 3)).take 2)).toNat
def restAt (xs : List Int) (k : Nat) : List Int := (xs.drop (k + 7)).take (manyAt xs k)
def winAt (xs : List Int) (k : Nat) : List Int := (xs.drop k).take (7 + manyAt xs k)
def offAt (xs : List Int) (k : Nat) : Int := fromB ((xs.drop k).take 3)
def sumAt (xs : List Int) (k : Nat) : Int := fromB ((xs.drop (k + 5)).take 2)
/-- whether a batch is read at a place, as the model does -/
def rdBatOk (xs : List Int) (k : Nat) : Bool :=
  okBs xs && decide (k + 18 ≤ xs.length) && decide (11 ≤ manyAt xs k) && decide (k + 7 + manyAt xs k ≤ xs.length) && tellOk (offAt xs k) (sumAt xs k) (restAt xs k) (winAt xs k)
def rdBat (xs : List Int) (k : Nat) : Bat := tellBat (offAt xs k) (restAt xs k)

theorem fromB_sfx2 {n : Int} (h0 : 0 ≤ n) (h1 : n < 65536) : fromB (sfx 2 n) = n := fromB_sfx 2 n h0 (by omega) (by omega)
theorem fromB_sfx3 {n : Int} (h0 : 0 ≤ n) (h1 : n < 16777216) : fromB (sfx 3 n) = n := fromB_sfx 3 n h0 (by omega) (by omega)
theorem take_app {xs ys : List Int} {n : Nat} (h : xs.length = n) : (xs ++ ys).take n = xs := by rw [← h, List.take_left]
theorem drop_app {xs ys : List Int} {n : Nat} (h : xs.length = n) : (xs ++ ys).drop n = ys := by rw [← h, List.drop_left]
/-- the parts of a batch that stands at a place -/
theorem batAt_parts {xs : List Int} {k : Nat} {b : Bat} (h : BatAt xs k b) :
    manyAt xs k = (restB b).length ∧ restAt xs k = restB b ∧ winAt xs k = batB b ∧ offAt xs k = (recAt b.recs 0).off ∧ sumAt xs k = sumB (restB b) ∧ k + (batB b).length ≤ xs.length := by
  obtain ⟨hb, tl, hd⟩ := h
  obtain ⟨⟨h1, h6⟩, _, hp, ho⟩ := batOk_iff.1 hb
  have hl := restB_len hb
  have ho0 := (recOk_iff.1 (ordOk_rec ho (show 0 < b.recs.length by omega))).1
  have hs := sumB_bound (restB b)
  have e0 : xs.drop k = sfx 3 (recAt b.recs 0).off ++ (sfx 2 ((restB b).length : Int) ++ (sfx 2 (sumB (restB b)) ++ (restB b ++ tl))) := by rw [hd]; simp [batB]
  have e3 : xs.drop (k + 3) = sfx 2 ((restB b).length : Int) ++ (sfx 2 (sumB (restB b)) ++ (restB b ++ tl)) := by rw [← List.drop_drop, e0, drop_app (sfx_len _ _)]
  have e5 : xs.drop (k + 5) = sfx 2 (sumB (restB b)) ++ (restB b ++ tl) := by rw [show k + 5 = (k + 3) + 2 from rfl, ← List.drop_drop, e3, drop_app (sfx_len _ _)]
  have e7 : xs.drop (k + 7) = restB b ++ tl := by rw [show k + 7 = (k + 5) + 2 from rfl, ← List.drop_drop, e5, drop_app (sfx_len _ _)]
  have hm : manyAt xs k = (restB b).length := by
    unfold manyAt
    rw [e3, take_app (sfx_len _ _), fromB_sfx2 (by omega) (by omega), Int.toNat_natCast]
  refine ⟨hm, ?_, ?_, ?_, ?_, ?_⟩
  · unfold restAt
    rw [hm, e7, List.take_left]
  · unfold winAt
    rw [hm, hd, ← batB_len, List.take_left]
  · unfold offAt
    rw [e0, take_app (sfx_len _ _), fromB_sfx3 (by omega) (by omega)]
  · unfold sumAt
    rw [e5, take_app (sfx_len _ _), fromB_sfx2 (by omega) (by omega)]
  · have := congrArg List.length hd
    rw [List.length_append, List.length_drop] at this
    have := (batB_size hb).1
    omega
theorem rest_parts {b : Bat} (hb : batOk b = true) : (restB b).getD 0 0 = flagsN b ∧ (restB b).getD 1 0 = b.prod ∧ (restB b).getD 2 0 = b.epoch ∧ fromB (((restB b).drop 3).take 2) = b.seq ∧ fromB (((restB b).drop 5).take 3) = (recAt b.recs 0).time ∧
    (restB b).getD 8 0 = (b.recs.length : Int) ∧ (restB b).getD 9 0 = 0 ∧ (restB b).getD 10 0 = 0 ∧ (restB b).drop 11 = pbodyB b := by
  obtain ⟨⟨h1, h6⟩, _, hp, ho⟩ := batOk_iff.1 hb
  obtain ⟨_, _, _, _, s0, s1⟩ := prodOk_iff hp
  have ht := (recOk_iff.1 (ordOk_rec ho (show 0 < b.recs.length by omega))).2.1
  have e : restB b = flagsN b :: b.prod :: b.epoch :: (sfx 2 b.seq ++ (sfx 3 (recAt b.recs 0).time ++ ((b.recs.length : Int) :: 0 :: 0 :: pbodyB b))) := by simp [restB, headB]
  have e3 : (restB b).drop 3 = sfx 2 b.seq ++ (sfx 3 (recAt b.recs 0).time ++ ((b.recs.length : Int) :: 0 :: 0 :: pbodyB b)) := by rw [e]; rfl
  have e5 : (restB b).drop 5 = sfx 3 (recAt b.recs 0).time ++ ((b.recs.length : Int) :: 0 :: 0 :: pbodyB b) := by rw [show 5 = 3 + 2 from rfl, ← List.drop_drop, e3, drop_app (sfx_len _ _)]
  have e8 : (restB b).drop 8 = (b.recs.length : Int) :: 0 :: 0 :: pbodyB b := by rw [show 8 = 5 + 3 from rfl, ← List.drop_drop, e5, drop_app (sfx_len _ _)]
  have g : ∀ i, (restB b).getD (8 + i) 0 = ((b.recs.length : Int) :: 0 :: 0 :: pbodyB b).getD i 0 := fun i => by rw [← e8]; simp [List.getD]
  refine ⟨by rw [e]; rfl, by rw [e]; rfl, by rw [e]; rfl, ?_, ?_, g 0, g 1, g 2, ?_⟩
  · rw [e3, take_app (sfx_len _ _), fromB_sfx2 (by omega) (by omega)]
  · rw [e5, take_app (sfx_len _ _), fromB_sfx3 (by omega) (by omega)]
  · rw [show 11 = 8 + 3 from rfl, ← List.drop_drop, e8]; rfl
theorem flags_packed (b : Bat) : decide (flagsN b % 2 = 1) = b.packed := by unfold flagsN; cases b.packed <;> cases b.mark <;> decide
theorem flags_mark (b : Bat) : decide (flagsN b / 2 = 1) = b.mark := by unfold flagsN; cases b.packed <;> cases b.mark <;> decide
theorem plain_pbody {b : Bat} (hb : batOk b = true) : plainOk b.packed (pbodyB b) = true ∧ plainL b.packed (pbodyB b) = bodyB b.recs := by
  have hl := body_len hb
  have h := unpack_pack (xs := bodyB b.recs) (by omega)
  unfold plainOk plainL pbodyB
  cases b.packed with
  | false => exact ⟨rfl, rfl⟩
  | true => simp [h]
theorem recs_body {b : Bat} (hb : batOk b = true) : recsOk (bodyB b.recs) (recAt b.recs 0).off (recAt b.recs 0).time b.recs.length = true ∧ recsL (bodyB b.recs) (recAt b.recs 0).off (recAt b.recs 0).time b.recs.length = b.recs := by
  have h := rdN_body (batOk_iff.1 hb).2.2.2 b.recs.length (Nat.le_refl _)
  unfold recsOk recsL
  rw [h]
  exact ⟨by simp [bodyB], by simp⟩
/-- what is written is told -/
theorem tell_rest {b : Bat} (hb : batOk b = true) : tellBat (recAt b.recs 0).off (restB b) = b := by
  obtain ⟨p0, p1, p2, p3, p5, p8, p9, p10, p11⟩ := rest_parts hb
  unfold tellBat
  rw [p0, p1, p2, p3, p5, p8, p11, flags_packed, flags_mark, (plain_pbody hb).2, Int.toNat_natCast, (recs_body hb).2]
theorem sameAt_self (xs : List Int) : sameAt xs 0 xs = true := by unfold sameAt; simp
theorem tellOk_rest {b : Bat} (hb : batOk b = true) : tellOk (recAt b.recs 0).off (sumB (restB b)) (restB b) (batB b) = true := by
  have ht := tell_rest hb
  obtain ⟨p0, p1, p2, p3, p5, p8, p9, p10, p11⟩ := rest_parts hb
  have hf := flagsN_range b
  unfold tellOk
  rw [ht, p0, p5, p8, p9, p10, p11, flags_packed, (plain_pbody hb).2, (plain_pbody hb).1, Int.toNat_natCast, (recs_body hb).1, hb, sameAt_self]
  simp
  omega
theorem rdBat_at {xs : List Int} {k : Nat} {b : Bat} (hok : okBs xs = true) (h : BatAt xs k b) : rdBatOk xs k = true ∧ rdBat xs k = b := by
  obtain ⟨p1, p2, p3, p4, p5, p6⟩ := batAt_parts h
  have hl := restB_len h.1
  have hl2 := batB_len b
  unfold rdBatOk rdBat
  rw [p1, p2, p3, p4, p5, tell_rest h.1, tellOk_rest h.1, hok, decide_eq_true (show k + 18 ≤ xs.length by omega), decide_eq_true (show 11 ≤ (restB b).length by omega), decide_eq_true (show k + 7 + (restB b).length ≤ xs.length by omega)]
  exact ⟨rfl, rfl⟩
theorem rdBat_yes {xs : List Int} {k : Nat} (h : rdBatOk xs k = true) : okBs xs = true ∧ BatAt xs k (rdBat xs k) ∧ manyAt xs k = (restB (rdBat xs k)).length := by
  unfold rdBatOk tellOk at h
  simp only [Bool.and_eq_true, decide_eq_true_eq] at h
  obtain ⟨⟨⟨⟨hok, h18⟩, h11⟩, hend⟩, ⟨_, hb⟩, hs⟩ := h
  have hb' : batOk (rdBat xs k) = true := hb
  have hs' : sameAt (batB (rdBat xs k)) 0 (winAt xs k) = true := hs
  obtain ⟨rest, hr⟩ := (sameAt_iff (Nat.zero_le _)).1 hs'
  rw [List.drop_zero] at hr
  have hwl : (winAt xs k).length = 7 + manyAt xs k := by unfold winAt; rw [List.length_take, List.length_drop]; omega
  -- the count that is told is that of the batch
  have hm : manyAt xs k = (restB (rdBat xs k)).length := by
    have hl := restB_len hb'
    have e3 : (batB (rdBat xs k)).drop 3 = sfx 2 ((restB (rdBat xs k)).length : Int) ++ (sfx 2 (sumB (restB (rdBat xs k))) ++ restB (rdBat xs k)) := by
      unfold batB; rw [List.append_assoc, List.append_assoc, drop_app (sfx_len _ _)]
    have e3' : ((batB (rdBat xs k)).drop 3).take 2 = sfx 2 ((restB (rdBat xs k)).length : Int) := by rw [e3, take_app (sfx_len _ _)]
    have w3 : ((batB (rdBat xs k)).drop 3).take 2 = (xs.drop (k + 3)).take 2 := by
      rw [hr]
      have hw : winAt xs k = (xs.drop k).take (7 + manyAt xs k) := rfl
      rw [List.drop_append_of_le_length (by omega), List.take_append_of_le_length (by rw [List.length_drop]; omega), hw, List.drop_take, List.take_take, List.drop_drop]
      congr 1
      omega
    unfold manyAt
    rw [← w3, e3', fromB_sfx2 (by omega) (by omega), Int.toNat_natCast]
  refine ⟨hok, ⟨hb', ?_⟩, hm⟩
  have hl2 := batB_len (rdBat xs k)
  have : rest = [] := by
    have := congrArg List.length hr
    rw [List.length_append] at this
    exact List.eq_nil_of_length_eq_zero (by omega)
  subst this
  rw [List.append_nil] at hr
  refine ⟨(xs.drop k).drop (7 + manyAt xs k), ?_⟩
  rw [hr]
  exact (List.take_append_drop _ _).symm
theorem batAt_inj {xs : List Int} {k : Nat} {a b : Bat} (hok : okBs xs = true) (h : BatAt xs k a) (g : BatAt xs k b) : a = b := (rdBat_at hok h).2.symm.trans (rdBat_at hok g).2
-- W3j

/-- numbers of the call's own if both tests say yes, none if not -/
def IfInts (w : World) (b1 b2 : Bool) (ys : List Int) (e : Ending) (w' : World) : Prop := NewInts w (if (b1 && b2) = true then ys else []) (b1 && b2) e w'

set_option maxHeartbeats 1000000 in
theorem impl_RecordBytes (v : Value) (r : Rec) (o t : Int) (w : World) (h : RecV w v r) :
    Calls Try.prog 104 #[v, .int .i64 o, .int .i64 t] w (NewInts w (if (recOk r && baseOk o t) = true then recBytes r o t else []) (recOk r && baseOk o t)) := by
  have C1 : Hid (∀ wn, Below w.heap.size w wn → Calls Try.prog 90 #[v] wn (SaysB (recOk r) wn)) := fun wn hb => impl_RecordValid v r wn (h.below hb)
  have C2 : Hid (∀ wn, Calls Try.prog 97 #[.int .i64 o, .int .i64 t] wn fun e w' => e = .returned (.bool (baseOk o t)) ∧ wn = w') := fun wn => impl_isBase o t wn
  obtain ⟨kv, vv, rfl, ik, iv⟩ := h
  have H : Hid (recOk r = true → baseOk o t = true → _) := fun h1 h2 => And.intro (recOk_iff.1 h1) (And.intro (baseOk_iff.1 h2) (recBody_len (o := o) (t := t) h1))
  obtain ⟨b1, h1⟩ : ∃ b, recOk r = b := ⟨_, rfl⟩
  obtain ⟨b2, h2⟩ : ∃ b, baseOk o t = b := ⟨_, rfl⟩
  rw [h1] at C1 H ⊢
  rw [h2] at C2 H ⊢
  show Calls Try.prog 104 _ w (IfInts w b1 b2 (recBytes r o t))
  obtain ⟨R, hR⟩ : ∃ R, recBytes r o t = R := ⟨_, rfl⟩
  rw [hR]
  unfold recBytes recBody at hR
  unfold recBody at H
  obtain ⟨off, time, hk, key, hv, val⟩ := r
  have HR := Lib.hid hR
  clear h1 h2 hR
  have box := Blk.made w #[.int .i64 off, .int .i64 time, .bool hk, kv, .bool hv, vv] 83
  have belw := alloc_below' w (.cells #[.int .i64 off, .int .i64 time, .bool hk, kv, .bool hv, vv] 83)
  simp only at ik iv C1 H HR ⊢
  go_enter Try.func104, Try.ntmps104
  go_wp2_with fail
  generalize hwb : w.alloc (.cells #[.int .i64 off, .int .i64 time, .bool hk, kv, .bool hv, vv] 83) = wb at box belw ⊢
  clear hwb
  have hB := box.lt
  refine (C1.out wb belw).mono ?_
  rintro e w1 ⟨rfl, bel1⟩
  have box1 := box.below hB bel1
  have B1 := belw.trans (bel1.mono belw.size)
  cases b1 with
  | false =>
    go_wp2_with fail
    go_ret2
    exact ⟨_, rfl, own_nil _ _, B1⟩
  | true =>
    go_wp2_with fail
    refine (C2.out w1).mono ?_
    rintro e w1' ⟨rfl, rfl⟩
    cases b2 with
    | false =>
      go_wp2_with fail
      go_ret2
      exact ⟨_, rfl, own_nil _ _, B1⟩
    | true =>
      obtain ⟨⟨⟨r0, r1⟩, ⟨q0, q1⟩, pk, pv⟩, ⟨⟨o0, o1⟩, t0, t1⟩, hlen⟩ := H.out (by simp) (by simp)
      have lk := (partOk_iff.1 pk).2.2
      have lv := (partOk_iff.1 pv).2.2
      have e1 := varB_len (time - t)
      have e2 := varB_len (off - o)
      have e3 := putP_len (has := hk) lk
      have e4 := putP_len (has := hv) lv
      have hbase : w.heap.size ≤ w1.heap.size := B1.size
      have P1 : Hid (∀ wn v xs n, Own wn w1.heap.size v xs → w1.heap.size ≤ wn.heap.size → xs.length ≤ 100 → -1000000 ≤ n → n ≤ 1000000 → Calls Try.prog 109 #[v, .int .i64 n] wn (AppRes wn w1.heap.size (xs ++ varB n))) := fun wn v xs n ho hs hl n0 n1 => impl_withNumber v xs n w1.heap.size wn ho hs (by omega) n0 n1
      have P2 : Hid (∀ wn v xs, Own wn w1.heap.size v xs → Below w1.heap.size w1 wn → xs.length ≤ 100 → Calls Try.prog 110 #[v, .bool hk, kv] wn (AppRes wn w1.heap.size (xs ++ putP hk key))) := fun wn v xs ho hb hl => impl_withPart v kv xs key hk _ wn ho (ik.below (B1.trans (hb.mono hbase))) (fun w' hw' => ik.below (B1.trans ((hb.trans hw').mono hbase))) hb.size (by omega) (by omega)
      have P3 : Hid (∀ wn v xs, Own wn w1.heap.size v xs → Below w1.heap.size w1 wn → xs.length ≤ 100 → Calls Try.prog 110 #[v, .bool hv, vv] wn (AppRes wn w1.heap.size (xs ++ putP hv val))) := fun wn v xs ho hb hl => impl_withPart v vv xs val hv _ wn ho (iv.below (B1.trans (hb.mono hbase))) (fun w' hw' => iv.below (B1.trans ((hb.trans hw').mono hbase))) hb.size (by omega) (by omega)
      have n1 : -1000000 ≤ time - t ∧ time - t ≤ 1000000 := by omega
      have n2 : -1000000 ≤ off - o ∧ off - o ≤ 1000000 := by omega
      obtain ⟨x1, hx1⟩ : ∃ x, varB (time - t) = x := ⟨_, rfl⟩
      obtain ⟨x2, hx2⟩ : ∃ x, varB (off - o) = x := ⟨_, rfl⟩
      obtain ⟨x3, hx3⟩ : ∃ x, putP hk key = x := ⟨_, rfl⟩
      obtain ⟨x4, hx4⟩ : ∃ x, putP hv val = x := ⟨_, rfl⟩
      have Q1 := Lib.hid (P1.out w1 (.slice none 0 0) [] (time - t) (own_nil _ _) (Nat.le_refl _) (by simp) n1.1 n1.2)
      have Q2 : Hid (∀ wn v xs, Own wn w1.heap.size v xs → w1.heap.size ≤ wn.heap.size → xs.length ≤ 100 → Calls Try.prog 109 #[v, .int .i64 (off - o)] wn (AppRes wn w1.heap.size (xs ++ varB (off - o)))) := fun wn v xs ho hs hl => P1.out wn v xs (off - o) ho hs hl n2.1 n2.2
      have hR2 := HR.out
      rw [hx1] at Q1 e1 hlen hR2
      rw [hx2] at Q2 e2 hlen hR2
      rw [hx3] at P2 e3 hlen hR2
      rw [hx4] at P3 e4 hlen hR2
      have HR2 := Lib.hid hR2
      rw [List.nil_append] at Q1
      clear hx1 hx2 hx3 hx4 n1 n2 P1 H pk pv lk lv C1 C2 box bel1 belw HR hR2
      have hB1 : w.heap.size < w1.heap.size := box1.lt
      have cells : Hid (∀ wn, Below w1.heap.size w1 wn → w1.heap.size ≤ wn.heap.size ∧ wn.cell? ⟨w.heap.size, 0, none⟩ = some (.int .i64 off) ∧ wn.cell? ⟨w.heap.size, 1, none⟩ = some (.int .i64 time) ∧ wn.cell? ⟨w.heap.size, 2, none⟩ = some (.bool hk) ∧ wn.cell? ⟨w.heap.size, 3, none⟩ = some kv ∧ wn.cell? ⟨w.heap.size, 4, none⟩ = some (.bool hv) ∧ wn.cell? ⟨w.heap.size, 5, none⟩ = some vv) := fun wn hw =>
        have b := box1.below hB1 hw
        ⟨hw.size, b.cell 0, b.cell 1, b.cell 2, b.cell 3, b.cell 4, b.cell 5⟩
      obtain ⟨_, c0, c1, c2, c3, c4, c5⟩ := cells.out w1 (Below.refl _ _)
      have l2 : x1.length ≤ 100 := by omega
      have l3 : (x1 ++ x2).length ≤ 100 := by rw [List.length_append]; omega
      have l4 : (x1 ++ x2 ++ x3).length ≤ 100 := by simp only [List.length_append]; omega
      clear box1
      go_wp2_with fail
      refine Q1.out.mono ?_
      rintro e w2 ⟨v2, rfl, own2, D2⟩
      clear c0 c1 c2 c3 c4 c5
      obtain ⟨s2, c0, c1, c2, c3, c4, c5⟩ := cells.out w2 D2
      go_wp2_with fail
      refine (Q2.out w2 v2 x1 own2 s2 l2).mono ?_
      rintro e w3 ⟨v3, rfl, own3, b3⟩
      have D3 := D2.trans b3
      clear c0 c1 c2 c3 c4 c5
      obtain ⟨s3, c0, c1, c2, c3, c4, c5⟩ := cells.out w3 D3
      go_wp2_with fail
      refine (P2.out w3 v3 _ own3 D3 l3).mono ?_
      rintro e w4 ⟨v4, rfl, own4, b4⟩
      have D4 := D3.trans b4
      clear c0 c1 c2 c3 c4 c5
      obtain ⟨s4, c0, c1, c2, c3, c4, c5⟩ := cells.out w4 D4
      go_wp2_with fail
      refine (P3.out w4 v4 _ own4 D4 l4).mono ?_
      rintro e w5 ⟨v5, rfl, own5, b5⟩
      have D5 := D4.trans b5
      clear c0 c1 c2 c3 c4 c5
      obtain ⟨body, hbody⟩ : ∃ ys, x1 ++ x2 ++ x3 ++ x4 = ys := ⟨_, rfl⟩
      have hR3 := HR2.out
      rw [hbody] at own5 hlen hR3
      have hvn := varB_len (body.length : Int)
      have P5 := Lib.hid (impl_withNumber (.slice none 0 0) [] (body.length : Int) w5.heap.size w5 (own_nil _ _) (Nat.le_refl _) (by simp) (by omega) (by omega))
      rw [List.nil_append] at P5
      obtain ⟨ys, hys⟩ : ∃ ys, varB (body.length : Int) = ys := ⟨_, rfl⟩
      rw [hys] at P5 hvn hR3
      have HR3 := Lib.hid hR3
      have i5 := own5.ints
      have i5' := i5
      obtain ⟨a5, cap5, rfl, hl5, hm5, hc5⟩ := i5'
      unfold maxLen at hm5
      clear hbody hys hc5 l2 l3 l4 hR3 HR2
      go_wp2_with fail
      refine P5.out.mono ?_
      rintro e w6 ⟨v6, rfl, own6, b6⟩
      have i6 := i5.below b6
      have D6 := D5.trans (b6.mono D5.size)
      have s6 := D6.size
      have own6' := own6.base (show w.heap.size ≤ w5.heap.size from Nat.le_trans hbase D5.size)
      have ss : w.heap.size ≤ w6.heap.size := Nat.le_trans hbase s6
      go_wp2_with (at_builtin; refine wp_appI rfl _ _ rfl w.heap.size v6 _ ys body rfl rfl own6' i6 (by omega) ss ?_; intro v7 w7 own7 g7)
      go_ret2
      rw [HR3.out] at own7
      exact ⟨_, rfl, own7, (B1.trans (D6.mono hbase)).grown g7 ss own6'.lt⟩
theorem impl_withInt (v : Value) (xs : List Int) (n : Int) (m : Nat) (base : Nat) (w : World) (h : Own w base v xs) (hb : base ≤ w.heap.size) (hl : xs.length ≤ 100000000) (m1 : 1 ≤ m) (m3 : m ≤ 3) (n0 : 0 ≤ n) (n1 : n < 256 ^ m) :
    Calls Try.prog 107 #[v, .int .i64 n, .int .i64 (m : Int)] w (AppRes w base (xs ++ sfx m n)) := by
  have p3 := pow256_le m m3
  have C1 := impl_IntBytes n (m : Int) w ⟨by omega, by omega⟩ ⟨by omega, by omega⟩
  have hok := okI_mk m1 m3 n0 n1
  rw [intB_yes hok, hok, Int.toNat_natCast] at C1
  have C1 := Lib.hid C1
  have hlen := sfx_len m n
  have hlen2 : (sfx m n).length ≤ 3 := by omega
  obtain ⟨ys, hys⟩ : ∃ ys, sfx m n = ys := ⟨_, rfl⟩
  rw [hys] at C1 hlen2 ⊢
  clear hys hok hlen p3
  go_enter Try.func107, Try.ntmps107
  go_wp2_with fail
  (with_reducible refine C1.out.mono ?_)
  rintro e w1 ⟨u, rfl, own1, b1⟩
  have own0 := h.below b1
  have bb : Below base w w1 := b1.mono hb
  have hs1 := Nat.le_trans hb b1.size
  go_wp2_with (at_builtin; refine wp_appI rfl _ _ rfl base v u xs ys rfl rfl own0 own1.ints (by omega) hs1 ?_; intro v2 w2 own2 g2)
  go_ret
  exact ⟨_, rfl, own2, bb.grown g2 hs1 own0.lt⟩
/-- what is told of a head behind the sum -/
def headL (fl p e s t c : Int) : List Int := sfx 1 fl ++ sfx 1 p ++ sfx 1 e ++ sfx 2 s ++ sfx 3 t ++ sfx 1 c ++ sfx 2 0
theorem headL_len (fl p e s t c : Int) : (headL fl p e s t c).length = 11 := by simp [headL, sfx_len]
def HeadIn (o fl p e s t c : Int) : Prop := (0 ≤ o ∧ o ≤ 99999) ∧ (0 ≤ fl ∧ fl ≤ 3) ∧ (0 ≤ p ∧ p ≤ 255) ∧ (0 ≤ e ∧ e ≤ 99) ∧ (0 ≤ s ∧ s ≤ 9999) ∧ (0 ≤ t ∧ t ≤ 99999) ∧ (0 ≤ c ∧ c ≤ 6)
set_option maxHeartbeats 1000000 in
theorem impl_summedHead (o fl p e s t c : Int) (w : World) (hh : HeadIn o fl p e s t c) :
    Calls Try.prog 106 #[.agg #[.int .i64 o, .int .i64 fl, .int .i64 p, .int .i64 e, .int .i64 s, .int .i64 t, .int .i64 c]] w (NewInts1 w (headL fl p e s t c)) := by
  obtain ⟨_, ⟨f0, f1⟩, ⟨p0, p1⟩, ⟨e0, e1⟩, ⟨s0, s1⟩, ⟨t0, t1⟩, ⟨c0, c1⟩⟩ := hh
  have bw := alloc_below' w (.cells #[.int .i64 o, .int .i64 fl, .int .i64 p, .int .i64 e, .int .i64 s, .int .i64 t, .int .i64 c] 117)
  have xw := Blk.made w #[.int .i64 o, .int .i64 fl, .int .i64 p, .int .i64 e, .int .i64 s, .int .i64 t, .int .i64 c] 117
  unfold headL
  have P1 : Hid (∀ wn v xs n, Own wn (w.heap.size + 1) v xs → w.heap.size + 1 ≤ wn.heap.size → xs.length ≤ 100 → 0 ≤ n → n ≤ 255 → Calls Try.prog 107 #[v, .int .i64 n, .int .i64 1] wn (AppRes wn (w.heap.size + 1) (xs ++ sfx 1 n))) := Lib.hid fun wn v xs n ho hs hl n0 n1 => impl_withInt v xs n 1 (w.heap.size + 1) wn ho hs (by omega) (by omega) (by omega) n0 (by omega)
  have P2 : Hid (∀ wn v xs n, Own wn (w.heap.size + 1) v xs → w.heap.size + 1 ≤ wn.heap.size → xs.length ≤ 100 → 0 ≤ n → n ≤ 65535 → Calls Try.prog 107 #[v, .int .i64 n, .int .i64 2] wn (AppRes wn (w.heap.size + 1) (xs ++ sfx 2 n))) := Lib.hid fun wn v xs n ho hs hl n0 n1 => impl_withInt v xs n 2 (w.heap.size + 1) wn ho hs (by omega) (by omega) (by omega) n0 (by omega)
  have P3 : Hid (∀ wn v xs n, Own wn (w.heap.size + 1) v xs → w.heap.size + 1 ≤ wn.heap.size → xs.length ≤ 100 → 0 ≤ n → n ≤ 16777215 → Calls Try.prog 107 #[v, .int .i64 n, .int .i64 3] wn (AppRes wn (w.heap.size + 1) (xs ++ sfx 3 n))) := Lib.hid fun wn v xs n ho hs hl n0 n1 => impl_withInt v xs n 3 (w.heap.size + 1) wn ho hs (by omega) (by omega) (by omega) n0 (by omega)
  have L : ∀ (m : Nat) (n : Int), (sfx m n).length = m := sfx_len
  have HL := Lib.hid L
  clear L
  have own0 := own_nil (w.alloc (.cells #[.int .i64 o, .int .i64 fl, .int .i64 p, .int .i64 e, .int .i64 s, .int .i64 t, .int .i64 c] 117)) (w.heap.size + 1)
  go_enter Try.func106, Try.ntmps106
  go_wp2_with fail
  generalize hwb : w.alloc (.cells #[.int .i64 o, .int .i64 fl, .int .i64 p, .int .i64 e, .int .i64 s, .int .i64 t, .int .i64 c] 117) = wb at bw xw own0 ⊢
  have hsz : w.heap.size + 1 ≤ wb.heap.size := by rw [← hwb]; simp
  clear hwb
  obtain ⟨X, hX⟩ : ∃ X, w.heap.size = X := ⟨_, rfl⟩
  rw [hX] at xw hsz own0 P1 P2 P3 ⊢
  have HX := Lib.hid hX
  clear hX
  have hb0 : Below (X + 1) wb wb := Below.refl _ _
  (with_reducible refine (P1.out wb (.slice none 0 0) _ fl own0 (by have := hb0.size; omega) (by first | (simp; done) | simp [HL.out]) (by omega) (by omega)).mono ?_)
  rintro x w0 ⟨v0, rfl, own1, b0⟩
  rw [List.nil_append] at own1
  have hb0 := hb0.trans b0
  have x0 : Blk w0 X _ := xw.below (show X < X + 1 by omega) hb0
  have d1 := x0.cell 1
  have d2 := x0.cell 2
  have d3 := x0.cell 3
  have d4 := x0.cell 4
  have d5 := x0.cell 5
  have d6 := x0.cell 6
  go_wp2_with fail
  clear d1 d2 d3 d4 d5 d6
  (with_reducible refine (P1.out w0 v0 _ p own1 (by have := hb0.size; omega) (by first | (simp; done) | simp [HL.out]) (by omega) (by omega)).mono ?_)
  rintro x w1 ⟨v1, rfl, own2, b1⟩
  have hb0 := hb0.trans b1
  have x1 : Blk w1 X _ := xw.below (show X < X + 1 by omega) hb0
  have d1 := x1.cell 1
  have d2 := x1.cell 2
  have d3 := x1.cell 3
  have d4 := x1.cell 4
  have d5 := x1.cell 5
  have d6 := x1.cell 6
  go_wp2_with fail
  clear d1 d2 d3 d4 d5 d6
  (with_reducible refine (P1.out w1 v1 _ e own2 (by have := hb0.size; omega) (by first | (simp; done) | simp [HL.out]) (by omega) (by omega)).mono ?_)
  rintro x w2 ⟨v2, rfl, own3, b2⟩
  have hb0 := hb0.trans b2
  have x2 : Blk w2 X _ := xw.below (show X < X + 1 by omega) hb0
  have d1 := x2.cell 1
  have d2 := x2.cell 2
  have d3 := x2.cell 3
  have d4 := x2.cell 4
  have d5 := x2.cell 5
  have d6 := x2.cell 6
  go_wp2_with fail
  clear d1 d2 d3 d4 d5 d6
  (with_reducible refine (P2.out w2 v2 _ s own3 (by have := hb0.size; omega) (by first | (simp; done) | simp [HL.out]) (by omega) (by omega)).mono ?_)
  rintro x w3 ⟨v3, rfl, own4, b3⟩
  have hb0 := hb0.trans b3
  have x3 : Blk w3 X _ := xw.below (show X < X + 1 by omega) hb0
  have d1 := x3.cell 1
  have d2 := x3.cell 2
  have d3 := x3.cell 3
  have d4 := x3.cell 4
  have d5 := x3.cell 5
  have d6 := x3.cell 6
  go_wp2_with fail
  clear d1 d2 d3 d4 d5 d6
  (with_reducible refine (P3.out w3 v3 _ t own4 (by have := hb0.size; omega) (by first | (simp; done) | simp [HL.out]) (by omega) (by omega)).mono ?_)
  rintro x w4 ⟨v4, rfl, own5, b4⟩
  have hb0 := hb0.trans b4
  have x4 : Blk w4 X _ := xw.below (show X < X + 1 by omega) hb0
  have d1 := x4.cell 1
  have d2 := x4.cell 2
  have d3 := x4.cell 3
  have d4 := x4.cell 4
  have d5 := x4.cell 5
  have d6 := x4.cell 6
  go_wp2_with fail
  clear d1 d2 d3 d4 d5 d6
  (with_reducible refine (P1.out w4 v4 _ c own5 (by have := hb0.size; omega) (by first | (simp; done) | simp [HL.out]) (by omega) (by omega)).mono ?_)
  rintro x w5 ⟨v5, rfl, own6, b5⟩
  have hb0 := hb0.trans b5
  have x5 : Blk w5 X _ := xw.below (show X < X + 1 by omega) hb0
  have d1 := x5.cell 1
  have d2 := x5.cell 2
  have d3 := x5.cell 3
  have d4 := x5.cell 4
  have d5 := x5.cell 5
  have d6 := x5.cell 6
  go_wp2_with fail
  clear d1 d2 d3 d4 d5 d6
  (with_reducible refine (P2.out w5 v5 _ 0 own6 (by have := hb0.size; omega) (by simp [HL.out]) (by omega) (by omega)).mono ?_)
  rintro x w6 ⟨v6, rfl, own7, b6⟩
  go_wp2_with fail
  go_ret
  exact ⟨_, rfl, own7.base (by have := HX.out; omega), bw.trans ((hb0.trans b6).mono (by have := HX.out; omega))⟩
-- W5e

theorem headL_ok {o fl p e s t c : Int} (h : HeadIn o fl p e s t c) : okBs (headL fl p e s t c) = true := by
  unfold headL
  exact okBs_append (okBs_append (okBs_append (okBs_append (okBs_append (okBs_append (sfx_ok _ _) (sfx_ok _ _)) (sfx_ok _ _)) (sfx_ok _ _)) (sfx_ok _ _)) (sfx_ok _ _)) (sfx_ok _ _)
/-- a head and a body as bytes -/
def storedL (o fl p e s t c : Int) (body : List Int) : List Int :=
  sfx 3 o ++ sfx 2 ((headL fl p e s t c ++ body).length : Int) ++ sfx 2 (sumB (headL fl p e s t c ++ body)) ++ (headL fl p e s t c ++ body)
set_option maxRecDepth 100000 in
set_option maxHeartbeats 2000000 in
theorem impl_storedBytes (o fl p e s t c : Int) (bv : Value) (body : List Int) (w : World) (hh : HeadIn o fl p e s t c) (hi : Ints w bv body) (hok : okBs body = true) (hl : body.length ≤ 300) :
    Calls Try.prog 100 #[.agg #[.int .i64 o, .int .i64 fl, .int .i64 p, .int .i64 e, .int .i64 s, .int .i64 t, .int .i64 c, bv]] w (NewInts1 w (storedL o fl p e s t c body)) := by
  have hhok := headL_ok hh
  have hlen := headL_len fl p e s t c
  have C1 : Hid (∀ wn, Calls Try.prog 106 #[.agg #[.int .i64 o, .int .i64 fl, .int .i64 p, .int .i64 e, .int .i64 s, .int .i64 t, .int .i64 c]] wn (NewInts1 wn (headL fl p e s t c))) := Lib.hid fun wn => impl_summedHead o fl p e s t c wn hh
  obtain ⟨ho, _⟩ := hh
  obtain ⟨ba, bc, rfl, hbl, hbm, _⟩ := id hi
  unfold maxLen at hbm
  unfold storedL
  obtain ⟨H, hH⟩ : ∃ H, headL fl p e s t c = H := ⟨_, rfl⟩
  rw [hH] at C1 hhok hlen ⊢
  clear hH
  have hR := okBs_append hhok hok
  have hRl : (H ++ body).length ≤ 311 := by rw [List.length_append]; omega
  have hsb := sumB_bound (H ++ body)
  have hHl : H.length + body.length < 10000000000 := by omega
  have bw := alloc_below' w (.cells #[.int .i64 o, .int .i64 fl, .int .i64 p, .int .i64 e, .int .i64 s, .int .i64 t, .int .i64 c, .slice ba body.length bc] 119)
  have xw := Blk.made w #[.int .i64 o, .int .i64 fl, .int .i64 p, .int .i64 e, .int .i64 s, .int .i64 t, .int .i64 c, .slice ba body.length bc] 119
  go_enter Try.func100, Try.ntmps100
  go_upto_region 1 with (fail)
  generalize hwb : w.alloc (.cells #[.int .i64 o, .int .i64 fl, .int .i64 p, .int .i64 e, .int .i64 s, .int .i64 t, .int .i64 c, .slice ba body.length bc] 119) = wb at bw xw ⊢
  obtain ⟨X, hX⟩ : ∃ X, w.heap.size = X := ⟨_, rfl⟩
  have hXl : w.heap.size < wb.heap.size := xw.lt
  have hib := hi.below bw
  rw [hX] at xw hXl ⊢
  have HX := Lib.hid hX
  clear hwb hX
  have HS : Hid (∀ W, Below wb.heap.size wb W → (W.cell? ⟨X, 0, none⟩ = some (.int .i64 o) ∧ W.cell? ⟨X, 1, none⟩ = some (.int .i64 fl) ∧ W.cell? ⟨X, 2, none⟩ = some (.int .i64 p) ∧ W.cell? ⟨X, 3, none⟩ = some (.int .i64 e) ∧ W.cell? ⟨X, 4, none⟩ = some (.int .i64 s) ∧ W.cell? ⟨X, 5, none⟩ = some (.int .i64 t) ∧ W.cell? ⟨X, 6, none⟩ = some (.int .i64 c) ∧ W.cell? ⟨X, 7, none⟩ = some (.slice ba body.length bc) ∧ Below wb.heap.size wb W)) := Lib.hid fun W hW =>
    have y := xw.belowS hW
    ⟨y.cell 0, y.cell 1, y.cell 2, y.cell 3, y.cell 4, y.cell 5, y.cell 6, y.cell 7, hW⟩
  have bdr : Below wb.heap.size wb wb.drew := below_drewN (Below.refl _ _) 1
  have S1 := HS.out wb.drew bdr
  have Hib : Hid (∀ W, Below wb.heap.size wb W → Ints W (.slice ba body.length bc) body) := Lib.hid fun W hW => hib.below hW
  clear hi hib
  go_region_held3 (fun W => W.cell? ⟨X, 0, none⟩ = some (.int .i64 o) ∧ W.cell? ⟨X, 1, none⟩ = some (.int .i64 fl) ∧ W.cell? ⟨X, 2, none⟩ = some (.int .i64 p) ∧ W.cell? ⟨X, 3, none⟩ = some (.int .i64 e) ∧ W.cell? ⟨X, 4, none⟩ = some (.int .i64 s) ∧ W.cell? ⟨X, 5, none⟩ = some (.int .i64 t) ∧ W.cell? ⟨X, 6, none⟩ = some (.int .i64 c) ∧ W.cell? ⟨X, 7, none⟩ = some (.slice ba body.length bc) ∧ Below wb.heap.size wb W) (first | with_reducible exact S1 | with_reducible exact hS2 | with_reducible exact hS3 | go_keep)
    (first
      | (go_at_call 106; ((with_reducible refine (C1.out _).mono ?_); rintro x W2 ⟨v2, rfl, own2, b2⟩; have hS2 := HS.out W2 (Bstep bdr b2)))
      | (refine step_appI rfl (.tmp 7) (.tmp 9) rfl wb.drew.heap.size v2 _ H body rfl rfl own2 (Hib.out _ (Bstep bdr b2)) hHl b2.size ?_; intro v3 W3 own3 g3; have hS3 := HS.out W3 ((Bstep bdr b2).grown g3 (Bstep bdr b2).size own2.lt)))
  have B3 : Below wb.heap.size wb W3 := (Bstep bdr b2).grown g3 (Bstep bdr b2).size own2.lt
  have lw3 := own3.lt
  clear own2 b2 g3 hS2 hS3 S1 HS Hib C1 bdr
  obtain ⟨a3, c3, rfl, hl3, hm3, _⟩ := own3.ints
  unfold maxLen at hm3
  have x3 := xw.belowS B3
  have d0 := x3.cell 0
  obtain ⟨Z, hZ⟩ : ∃ Z, W3.heap.size = Z := ⟨_, rfl⟩
  have hZb : wb.heap.size ≤ Z := by rw [← hZ]; exact B3.size
  have nil3 := own_nil W3 Z
  have C3 : Calls Try.prog 107 #[.slice none 0 0, .int .i64 o, .int .i64 3] W3 (AppRes W3 Z ([] ++ sfx 3 o)) := impl_withInt _ [] o 3 Z W3 nil3 (by omega) (by simp) (by omega) (by omega) ho.1 (by omega)
  rw [List.nil_append] at C3
  have C4 : Hid (∀ wn v xs, Own wn Z v xs → Z ≤ wn.heap.size → xs.length ≤ 100 → Calls Try.prog 107 #[v, .int .i64 ((H ++ body).length : Int), .int .i64 2] wn (AppRes wn Z (xs ++ sfx 2 ((H ++ body).length : Int)))) := Lib.hid fun wn v xs h1 h2 h3 => impl_withInt v xs _ 2 Z wn h1 h2 (by omega) (by omega) (by omega) (by omega) (by omega)
  have C5 : Hid (∀ wn v xs, Own wn Z v xs → Z ≤ wn.heap.size → xs.length ≤ 100 → Calls Try.prog 107 #[v, .int .i64 (sumB (H ++ body)), .int .i64 2] wn (AppRes wn Z (xs ++ sfx 2 (sumB (H ++ body))))) := Lib.hid fun wn v xs h1 h2 h3 => impl_withInt v xs _ 2 Z wn h1 h2 (by omega) (by omega) (by omega) (by omega) (by omega)
  have C6 : Hid (∀ wn, Below Z W3 wn → Calls Try.prog 108 #[.slice a3 (H ++ body).length c3] wn fun e w' => e = .returned (.int .i64 (sumB (H ++ body))) ∧ wn = w') := Lib.hid fun wn hw => by
    have := impl_SumOf _ (H ++ body) wn (own3.below (by rw [hZ]; exact hw)).ints
    rwa [sumV_yes hR] at this
  have I3 : Hid (∀ wn, Below Z W3 wn → Ints wn (.slice a3 (H ++ body).length c3) (H ++ body)) := Lib.hid fun wn hw => (own3.below (by rw [hZ]; exact hw)).ints
  have L := Lib.hid sfx_len
  have HZ := Lib.hid hZ
  have r0 : Below Z W3 W3 := Below.refl _ _
  clear own3 x3 nil3 hZ
  generalize hlL : (H ++ body).length = LL at *
  generalize hsS : sumB (H ++ body) = SS at *
  generalize hrR : H ++ body = RR at *
  clear hlL hsS hrR hHl
  go_wp2_with fail
  (with_reducible refine C3.mono ?_)
  rintro x W4 ⟨v4, rfl, own4, b4⟩
  have r4 := r0.trans b4
  clear d0 C3
  go_wp2_with fail
  (with_reducible refine (C4.out W4 v4 _ own4 (by have := HZ.out; have := b4.size; omega) (by rw [L.out]; omega)).mono ?_)
  rintro x W5 ⟨v5, rfl, own5, b5⟩
  have r5 := r4.trans b5
  go_wp2_with fail
  (with_reducible refine (C6.out W5 r5).mono ?_)
  rintro x W5' ⟨rfl, rfl⟩
  go_wp2_with fail
  (with_reducible refine (C5.out W5 v5 _ own5 (by have := HZ.out; have := r5.size; omega) (by simp [L.out])).mono ?_)
  rintro x W6 ⟨v6, rfl, own6, b6⟩
  have r6 := r5.trans b6
  have i6 := I3.out W6 r6
  have hs6 : Z ≤ W6.heap.size := by have := HZ.out; have := r6.size; omega
  have hRRl : RR.length ≤ 311 := by have := i6.sizes.1; omega
  have hl7 : (sfx 3 o ++ sfx 2 (LL : Int) ++ sfx 2 SS).length + RR.length < 10000000000 := by simp only [List.length_append, L.out]; omega
  go_wp2_with (at_builtin; refine wp_appI rfl _ _ rfl Z v6 (.slice a3 LL c3) (sfx 3 o ++ sfx 2 (LL : Int) ++ sfx 2 SS) RR rfl rfl own6 i6 hl7 hs6 ?_; intro v7 W7 own7 g7)
  go_ret
  exact ⟨_, rfl, own7.base (by have := HX.out; omega), bw.trans ((B3.trans ((r6.grown g7 hs6 own6.lt).mono hZb)).mono bw.size)⟩
-- W5f

/-- a batch as it is stored -/
def StoredRes (b : Bat) (w : World) (e : Ending) (w' : World) : Prop :=
  ∃ u, e = .returned (.agg #[.int .i64 (recAt b.recs 0).off, .int .i64 (flagsN b), .int .i64 b.prod, .int .i64 b.epoch, .int .i64 b.seq, .int .i64 (recAt b.recs 0).time, .int .i64 (b.recs.length : Int), u]) ∧ Own w' w.heap.size u (pbodyB b) ∧ Below w.heap.size w w'
/-- eight cells of a block -/
theorem Blk.eight {w : World} {B : Nat} {v0 v1 v2 v3 v4 v5 v6 v7 : Value} (h : Blk w B #[v0, v1, v2, v3, v4, v5, v6, v7]) : w.cell? ⟨B, 0, none⟩ = some v0 ∧ w.cell? ⟨B, 1, none⟩ = some v1 ∧ w.cell? ⟨B, 2, none⟩ = some v2 ∧ w.cell? ⟨B, 3, none⟩ = some v3 ∧ w.cell? ⟨B, 4, none⟩ = some v4 ∧ w.cell? ⟨B, 5, none⟩ = some v5 ∧ w.cell? ⟨B, 6, none⟩ = some v6 ∧ w.cell? ⟨B, 7, none⟩ = some v7 :=
  ⟨h.cell 0, h.cell 1, h.cell 2, h.cell 3, h.cell 4, h.cell 5, h.cell 6, h.cell 7⟩
theorem Blk.setTo {w : World} {B i : Nat} {u : Value} {cs cs' : Array Value} (h : Blk w B cs) (e : cs.setIfInBounds i u = cs') : Blk (w.setCell ⟨B, i, none⟩ u) B cs' := e ▸ h.set i u
theorem Blk.eights {w : World} {B : Nat} {u0 u1 u2 u3 u4 u5 u6 u7 : Value} (h : Blk w B #[u0, u1, u2, u3, u4, u5, u6, u7]) (v0 v1 v2 v3 v4 v5 v6 v7 : Value) :
    Blk ((((((((w.setCell ⟨B, 0, none⟩ v0).setCell ⟨B, 1, none⟩ v1).setCell ⟨B, 2, none⟩ v2).setCell ⟨B, 3, none⟩ v3).setCell ⟨B, 4, none⟩ v4).setCell ⟨B, 5, none⟩ v5).setCell ⟨B, 6, none⟩ v6).setCell ⟨B, 7, none⟩ v7) B #[v0, v1, v2, v3, v4, v5, v6, v7] := by
  replace h := h.setTo (i := 0) (u := v0) (cs' := #[v0, u1, u2, u3, u4, u5, u6, u7]) rfl
  replace h := h.setTo (i := 1) (u := v1) (cs' := #[v0, v1, u2, u3, u4, u5, u6, u7]) rfl
  replace h := h.setTo (i := 2) (u := v2) (cs' := #[v0, v1, v2, u3, u4, u5, u6, u7]) rfl
  replace h := h.setTo (i := 3) (u := v3) (cs' := #[v0, v1, v2, v3, u4, u5, u6, u7]) rfl
  replace h := h.setTo (i := 4) (u := v4) (cs' := #[v0, v1, v2, v3, v4, u5, u6, u7]) rfl
  replace h := h.setTo (i := 5) (u := v5) (cs' := #[v0, v1, v2, v3, v4, v5, u6, u7]) rfl
  replace h := h.setTo (i := 6) (u := v6) (cs' := #[v0, v1, v2, v3, v4, v5, v6, u7]) rfl
  replace h := h.setTo (i := 7) (u := v7) (cs' := #[v0, v1, v2, v3, v4, v5, v6, v7]) rfl
  exact h
theorem eights_grown (W : World) (X : Nat) (v0 v1 v2 v3 v4 v5 v6 v7 : Value) : W.grownBy ((((((((W.setCell ⟨X, 0, none⟩ v0).setCell ⟨X, 1, none⟩ v1).setCell ⟨X, 2, none⟩ v2).setCell ⟨X, 3, none⟩ v3).setCell ⟨X, 4, none⟩ v4).setCell ⟨X, 5, none⟩ v5).setCell ⟨X, 6, none⟩ v6).setCell ⟨X, 7, none⟩ v7) (some X) :=
  grown_trans (grown_trans (six_grown _ _ _ _ _ _ _ _) (set_grown _ _ _ _)) (set_grown _ _ _ _)
theorem alloc_sz (w : World) (o : Obj) : (w.alloc o).heap.size = w.heap.size + 1 := Array.size_push ..
theorem four_blocks (w : World) (c1 c2 c3 c4 : Array Value) (t1 t2 t3 t4 : TypeId) :
    Blk ((((w.alloc (.cells c1 t1)).alloc (.cells c2 t2)).alloc (.cells c3 t3)).alloc (.cells c4 t4)) w.heap.size c1 ∧ Blk ((((w.alloc (.cells c1 t1)).alloc (.cells c2 t2)).alloc (.cells c3 t3)).alloc (.cells c4 t4)) (w.heap.size + 1) c2 ∧ Blk ((((w.alloc (.cells c1 t1)).alloc (.cells c2 t2)).alloc (.cells c3 t3)).alloc (.cells c4 t4)) (w.heap.size + 1 + 1) c3 ∧ Blk ((((w.alloc (.cells c1 t1)).alloc (.cells c2 t2)).alloc (.cells c3 t3)).alloc (.cells c4 t4)) (w.heap.size + 1 + 1 + 1) c4 ∧ Below w.heap.size w ((((w.alloc (.cells c1 t1)).alloc (.cells c2 t2)).alloc (.cells c3 t3)).alloc (.cells c4 t4)) := by
  have a1 := Blk.made w c1 t1
  have b1 := alloc_below' w (.cells c1 t1)
  have z1 := alloc_sz w (.cells c1 t1)
  generalize w.alloc (.cells c1 t1) = w1 at *
  have a2 := Blk.made w1 c2 t2
  have b2 := alloc_below' w1 (.cells c2 t2)
  have z2 := alloc_sz w1 (.cells c2 t2)
  generalize w1.alloc (.cells c2 t2) = w2 at *
  have a3 := Blk.made w2 c3 t3
  have b3 := alloc_below' w2 (.cells c3 t3)
  have z3 := alloc_sz w2 (.cells c3 t3)
  generalize w2.alloc (.cells c3 t3) = w3 at *
  have a4 := Blk.made w3 c4 t4
  have b4 := alloc_below' w3 (.cells c4 t4)
  generalize w3.alloc (.cells c4 t4) = w4 at *
  rw [z3, z2, z1] at a4
  rw [z2, z1] at a3
  rw [z1] at a2
  exact ⟨((a1.belowS b2).belowS b3).belowS b4, (a2.belowS b3).belowS b4, a3.belowS b4, a4, Bstep (Bstep (Bstep b1 b2) b3) b4⟩
set_option maxRecDepth 100000 in
set_option maxHeartbeats 4000000 in
theorem impl_storedOf (v : Value) (b : Bat) (w : World) (h : BatV w v b) (hb : batOk b = true) : Calls Try.prog 99 #[v] w (StoredRes b w) := by
  obtain ⟨⟨hl1, hl6⟩, q1, q2, hord⟩ := batOk_iff.1 hb
  have hbl := body_len hb
  obtain ⟨a, cap, rfl, hr, hl, hm⟩ := h.parts
  clear h
  obtain ⟨packed, mark, prod, epoch, seq, recs⟩ := b
  simp only at hl1 hl6 hord hr hl hbl ⊢
  obtain ⟨g, off, cap', eg, q3⟩ := hr.form (by omega)
  simp only [Value.slice.injEq, true_and] at eg
  obtain ⟨rfl, rfl⟩ := eg
  obtain ⟨r, a1, c1, a2, c2, Hr, hR⟩ := hr.parts 0 (by omega)
  have hbase := ordOk_base hord (show 0 < recs.length by omega)
  rw [Hr.out] at hbase
  have hlp : 0 < recs.length := by omega
  have HN : Hid (∀ k, k < recs.length → recOk (recAt recs k) = true ∧ (bodyN recs (k + 1)).length ≤ 198 ∧ (bodyN recs k).length ≤ 198) := Lib.hid fun k hk => by
    have h1 := bodyN_len hord (k + 1) (by omega)
    have h2 := bodyN_len hord k (by omega)
    exact ⟨ordOk_rec hord hk, by omega, by omega⟩
  have Hstep : Hid (∀ k, bodyN recs (k + 1) = bodyN recs k ++ recBytes (recAt recs k) r.off r.time) := Lib.hid fun k => by simp only [bodyN]; rw [Hr.out]
  have Hpb : Hid (pbodyB ⟨packed, mark, prod, epoch, seq, recs⟩ = if packed = true then packP (bodyN recs recs.length) else bodyN recs recs.length) := Lib.hid rfl
  have Hbok := Lib.hid (bodyN_ok hord recs.length (Nat.le_refl _))
  show Calls Try.prog 99 _ w (StoredRes ⟨packed, mark, prod, epoch, seq, recs⟩ w)
  have Hfin : Hid (∀ e w', (∃ u, e = .returned (.agg #[.int .i64 r.off, .int .i64 (flagsN ⟨packed, mark, prod, epoch, seq, recs⟩), .int .i64 prod, .int .i64 epoch, .int .i64 seq, .int .i64 r.time, .int .i64 (recs.length : Int), u]) ∧ Own w' w.heap.size u (pbodyB ⟨packed, mark, prod, epoch, seq, recs⟩) ∧ Below w.heap.size w w') → StoredRes ⟨packed, mark, prod, epoch, seq, recs⟩ w e w') := Lib.hid fun e w' h => by
    obtain ⟨u, he, ho, hbw⟩ := h
    exact ⟨u, by simp only; rw [Hr.out]; exact he, ho, hbw⟩
  obtain ⟨ro, rt, rhk, rkey, rhv, rval⟩ := r
  obtain ⟨e0, e1, e2, e3, e4, e5, ix1, ix2⟩ := hR
  clear ix1 ix2
  rw [Nat.zero_mul, Nat.add_zero] at e0 e1 e2 e3 e4 e5
  simp only at e0 e1 e2 e3 e4 e5 hbase
  have HR : Hid (∀ W, Below w.heap.size w W → Recs W (.slice (some ⟨g, off, none⟩) recs.length cap) recs) := Lib.hid fun W hW => hr.below hW
  have hst := Hstep.out
  simp only at hst
  have HST := Lib.hid hst
  have hfin := Hfin.out
  simp only at hfin
  have HFin := Lib.hid hfin
  have HF : Hid (flagsN ⟨packed, mark, prod, epoch, seq, recs⟩ = (if packed = true then 1 else 0) + (if mark = true then 2 else 0)) := Lib.hid rfl
  have hCp : ∀ W u, Ints W u (bodyN recs recs.length) → Calls Try.prog 105 #[u] W (NewInts W (packP (bodyN recs recs.length)) true) := fun W u hu => by
    have hn := (HN.out (recs.length - 1) (by omega)).2.1
    rw [show recs.length - 1 + 1 = recs.length by omega] at hn
    have := impl_PackBytes u (bodyN recs recs.length) W hu (by omega)
    have e1 : pckB (bodyN recs recs.length) = true := pckB_iff.2 ⟨Hbok.out, by omega⟩
    rwa [show pckL (bodyN recs recs.length) = packP (bodyN recs recs.length) by unfold pckL; rw [e1]; rfl, e1] at this
  have CP := Lib.hid hCp
  have lg : g < w.heap.size := World.block_lt_of_cell? _ _ e0
  have HB := Lib.hid hbase
  clear hr hord hbl hb hst hfin Hstep Hfin hCp hbase Hbok Hr hm
  clear q1 q2 q3
  go_enter Try.func99, Try.ntmps99
  go_upto_region 3 with (fail)
  obtain ⟨xA, xZ, xF, xR, bn⟩ := four_blocks w #[.bool packed, .bool mark, .int .i64 prod, .int .i64 epoch, .int .i64 seq, .slice (some ⟨g, off, none⟩) recs.length cap] #[.int .i64 0, .int .i64 0, .int .i64 0, .int .i64 0, .int .i64 0, .int .i64 0, .int .i64 0, .slice none 0 0] #[.int .i64 ro, .int .i64 rt, .bool rhk, .slice a1 rkey.length c1, .bool rhv, .slice a2 rval.length c2] #[.int .i64 ro, .int .i64 0, .int .i64 prod, .int .i64 epoch, .int .i64 seq, .int .i64 rt, .int .i64 (recs.length : Int), .slice none 0 0] 43 119 83 119
  generalize ((((w.alloc (.cells #[.bool packed, .bool mark, .int .i64 prod, .int .i64 epoch, .int .i64 seq, .slice (some ⟨g, off, none⟩) recs.length cap] 43)).alloc (.cells #[.int .i64 0, .int .i64 0, .int .i64 0, .int .i64 0, .int .i64 0, .int .i64 0, .int .i64 0, .slice none 0 0] 119)).alloc (.cells #[.int .i64 ro, .int .i64 rt, .bool rhk, .slice a1 rkey.length c1, .bool rhv, .slice a2 rval.length c2] 83)).alloc (.cells #[.int .i64 ro, .int .i64 0, .int .i64 prod, .int .i64 epoch, .int .i64 seq, .int .i64 rt, .int .i64 (recs.length : Int), .slice none 0 0] 119)) = wn at xA xZ xF xR bn ⊢
  obtain ⟨R, hR⟩ : ∃ R, w.heap.size + 1 + 1 + 1 = R := ⟨_, rfl⟩
  rw [hR] at xR ⊢
  obtain ⟨F, hF⟩ : ∃ F, w.heap.size + 1 + 1 = F := ⟨_, rfl⟩
  rw [hF] at xF hR ⊢
  obtain ⟨Z, hZ⟩ : ∃ Z, w.heap.size + 1 = Z := ⟨_, rfl⟩
  rw [hZ] at xZ hF ⊢
  obtain ⟨A, hA⟩ : ∃ A, w.heap.size = A := ⟨_, rfl⟩
  rw [hA] at xA hZ bn HR HFin lg ⊢
  clear e0 e1 e2 e3 e4 e5
  have a5 := xA.cell 5
  have l4 : A < R ∧ Z < R ∧ F < R ∧ A < Z ∧ Z < F := by omega
  have HL := Lib.hid l4
  clear hR hF hZ hA l4
  go_wp2_with fail
  clear a5
  go_loopw [31] (fun i wr => ∃ (k : Nat) (u : Value), k ≤ recs.length ∧ i = .int .i64 k ∧ Blk wr A #[.bool packed, .bool mark, .int .i64 prod, .int .i64 epoch, .int .i64 seq, .slice (some ⟨g, off, none⟩) recs.length cap] ∧ Blk wr Z #[.int .i64 0, .int .i64 0, .int .i64 0, .int .i64 0, .int .i64 0, .int .i64 0, .int .i64 0, .slice none 0 0] ∧ Blk wr F #[.int .i64 ro, .int .i64 rt, .bool rhk, .slice a1 rkey.length c1, .bool rhv, .slice a2 rval.length c2] ∧ Blk wr R #[.int .i64 ro, .int .i64 0, .int .i64 prod, .int .i64 epoch, .int .i64 seq, .int .i64 rt, .int .i64 (recs.length : Int), u] ∧ Own wr (R + 1) u (bodyN recs k) ∧ Below A w wr) (fun i _ => recs.length - (intOf i).toNat)
  case atStart => exact ⟨0, _, Nat.zero_le _, rfl, xA, xZ, xF, xR, own_nil _ _, bn⟩
  case round =>
    obtain ⟨k, u, hk, rfl, yA, yZ, yF, yR, own, bel⟩ := hrel
    clear xA xZ xF xR bn
    by_cases hlt : k < recs.length
    · have hvr := HR.out wr bel
      obtain ⟨r, b1, d1, b2, d2, Hr, hR⟩ := hvr.parts k hlt
      have hrec := hR.recV
      obtain ⟨hok, hn1, hn0⟩ := HN.out k hlt
      rw [Hr.out] at hok
      have hnx := HST.out k
      rw [Hr.out] at hnx
      have HNX := Lib.hid hnx
      have C1 : Hid (∀ W, Below wr.heap.size wr W → Calls Try.prog 104 #[.agg #[.int .i64 r.off, .int .i64 r.time, .bool r.hk, .slice b1 r.key.length d1, .bool r.hv, .slice b2 r.val.length d2], .int .i64 ro, .int .i64 rt] W (NewInts W (recBytes r ro rt) true)) := Lib.hid fun W hW => by
        have := impl_RecordBytes _ r ro rt W (hrec.below hW)
        rw [hok, HB.out] at this
        exact this
      obtain ⟨qo, qt, qhk, qkey, qhv, qval⟩ := r
      obtain ⟨c0, c1', c2', c3, c4, c5, ix1, ix2⟩ := hR
      simp only at c0 c1' c2' c3 c4 c5 C1
      clear ix1 ix2 hvr hrec hnx hok
      go_upto_region 6 with (fail)
      have bX := alloc_below' wr (.cells #[.int .i64 qo, .int .i64 qt, .bool qhk, .slice b1 qkey.length d1, .bool qhv, .slice b2 qval.length d2] 83)
      have xX := Blk.made wr #[.int .i64 qo, .int .i64 qt, .bool qhk, .slice b1 qkey.length d1, .bool qhv, .slice b2 qval.length d2] 83
      generalize hW1 : wr.alloc (.cells #[.int .i64 qo, .int .i64 qt, .bool qhk, .slice b1 qkey.length d1, .bool qhv, .slice b2 qval.length d2] 83) = w1 at bX xX ⊢
      clear hW1 c0 c1' c2' c3 c4 c5
      obtain ⟨X, hX⟩ : ∃ X, wr.heap.size = X := ⟨_, rfl⟩
      rw [hX] at xX ⊢
      have HX := Lib.hid hX
      clear hX
      have c0 := xX.cell 0
      have c1 := xX.cell 1
      have c2 := xX.cell 2
      have c3 := xX.cell 3
      have c4 := xX.cell 4
      have c5 := xX.cell 5
      have yF1 := yF.belowS bX
      have f0 := yF1.cell 0
      have f1 := yF1.cell 1
      have yA1 := yA.belowS bX
      have yZ1 := yZ.belowS bX
      have yR1 := yR.belowS bX
      have own1 := own.below bX
      have D1 := Lib.hid (C1.out w1 bX)
      have Bel1 : Below A w w1 := bel.trans (bX.mono (Nat.le_of_lt yA.lt))
      clear bX yA yZ yF yR own bel C1
      go_wp2_with fail
      (with_reducible refine D1.out.mono ?_)
      rintro e w2 ⟨v2, rfl, own2, b2⟩
      have zA := yA1.belowS b2
      have zZ := yZ1.belowS b2
      have zF := yF1.belowS b2
      have zR := yR1.belowS b2
      have own3 := own1.below b2
      have Bel2 : Below A w w2 := Bel1.trans (b2.mono (Nat.le_of_lt yA1.lt))
      have r7 := zR.cell 7
      have lR := zR.lt
      obtain ⟨m1, m2, m3, m4, m5⟩ := HL.out
      clear D1 c0 c1 c2 c3 c4 c5 f0 f1 xX yA1 yZ1 yF1 yR1 own1 b2 Bel1
      go_wp2_with (at_builtin; refine wp_appI rfl _ _ rfl (R + 1) u v2 _ _ rfl rfl own3 own2.ints (by have := own2.ints; have h1 := HNX.out; have h2 := congrArg List.length h1; rw [List.length_append] at h2; omega) lR ?_; intro v3 w3 own4 g4; have zR3 := zR.below (Nat.lt_succ_self R) ((Below.refl _ w2).grown g4 lR own3.lt); have r7 := zR3.cell 7; have f7 := zR3.free 7; obtain ⟨a4, q4, rfl, hl4, hm4, hc4⟩ := id own4.ints; clear hc4)
      have G4 : Below (R + 1) w2 w3 := (Below.refl _ w2).grown g4 lR own3.lt
      have tA := (zA.below (by omega) G4).other (i := 7) (u := .slice a4 ((bodyN recs k).length + (recBytes ⟨qo, qt, qhk, qkey, qhv, qval⟩ ro rt).length) q4) (show A ≠ R by omega)
      have tZ := (zZ.below (by omega) G4).other (i := 7) (u := .slice a4 ((bodyN recs k).length + (recBytes ⟨qo, qt, qhk, qkey, qhv, qval⟩ ro rt).length) q4) (show Z ≠ R by omega)
      have tF := (zF.below (by omega) G4).other (i := 7) (u := .slice a4 ((bodyN recs k).length + (recBytes ⟨qo, qt, qhk, qkey, qhv, qval⟩ ro rt).length) q4) (show F ≠ R by omega)
      have tR := zR3.setTo (i := 7) (u := .slice a4 ((bodyN recs k).length + (recBytes ⟨qo, qt, qhk, qkey, qhv, qval⟩ ro rt).length) q4) (cs' := #[.int .i64 ro, .int .i64 0, .int .i64 prod, .int .i64 epoch, .int .i64 seq, .int .i64 rt, .int .i64 (recs.length : Int), .slice a4 ((bodyN recs k).length + (recBytes ⟨qo, qt, qhk, qkey, qhv, qval⟩ ro rt).length) q4]) rfl
      rw [List.length_append] at own4
      have tO := own4.by (Nat.lt_succ_self R) (set_grown w3 R 7 (.slice a4 ((bodyN recs k).length + (recBytes ⟨qo, qt, qhk, qkey, qhv, qval⟩ ro rt).length) q4))
      rw [← HNX.out] at tO
      have tB := (Bel2.trans (G4.mono (show A ≤ R + 1 by omega))).setCell (p := ⟨R, 7, none⟩) (show A ≤ R by omega) (.slice a4 ((bodyN recs k).length + (recBytes ⟨qo, qt, qhk, qkey, qhv, qval⟩ ro rt).length) q4)
      go_roundw
      case rel => exact ⟨k + 1, _, by omega, by go_num, tA, tZ, tF, tR, tO, tB⟩
      case measure => simp [intOf]; omega
    · obtain rfl : k = recs.length := by omega
      obtain ⟨a5, q5, rfl, hl5, hm5, hc5⟩ := id own.ints
      clear hc5 yF
      obtain ⟨m1, m2, m3, m4, m5⟩ := HL.out
      have o02 : bits .or .i64 0 2 = 2 := by decide
      have o01 : bits .or .i64 0 1 = 1 := by decide
      have o21 : bits .or .i64 2 1 = 3 := by decide
      have a0 := yA.cell 0
      have a1' := yA.cell 1
      rcases mark with _ | _
      · rcases packed with _ | _
        · have r0 := yR.cell 0
          have r1 := yR.cell 1
          have r2 := yR.cell 2
          have r3 := yR.cell 3
          have r4 := yR.cell 4
          have r5 := yR.cell 5
          have r6 := yR.cell 6
          have r7 := yR.cell 7
          have z0 := yZ.cell 0
          have f0 := yZ.free 0
          have z1 := yZ.cell 1
          have f1 := yZ.free 1
          have z2 := yZ.cell 2
          have f2 := yZ.free 2
          have z3 := yZ.cell 3
          have f3 := yZ.free 3
          have z4 := yZ.cell 4
          have f4 := yZ.free 4
          have z5 := yZ.cell 5
          have f5 := yZ.free 5
          have z6 := yZ.cell 6
          have f6 := yZ.free 6
          have z7 := yZ.cell 7
          have f7 := yZ.free 7
          go_wp2_with fail
          have Z9 := yZ.eights (.int .i64 ro) (.int .i64 0) (.int .i64 prod) (.int .i64 epoch) (.int .i64 seq) (.int .i64 rt) (.int .i64 (recs.length : Int)) (.slice a5 (bodyN recs recs.length).length q5)
          have g9 := eights_grown wr Z (.int .i64 ro) (.int .i64 0) (.int .i64 prod) (.int .i64 epoch) (.int .i64 seq) (.int .i64 rt) (.int .i64 (recs.length : Int)) (.slice a5 (bodyN recs recs.length).length q5)
          generalize hW9 : ((((((((wr.setCell ⟨Z, 0, none⟩ (.int .i64 ro)).setCell ⟨Z, 1, none⟩ (.int .i64 0)).setCell ⟨Z, 2, none⟩ (.int .i64 prod)).setCell ⟨Z, 3, none⟩ (.int .i64 epoch)).setCell ⟨Z, 4, none⟩ (.int .i64 seq)).setCell ⟨Z, 5, none⟩ (.int .i64 rt)).setCell ⟨Z, 6, none⟩ (.int .i64 (recs.length : Int))).setCell ⟨Z, 7, none⟩ (.slice a5 (bodyN recs recs.length).length q5)) = w9 at Z9 g9 ⊢
          have ownE := (own.by (by omega) g9).base (show A ≤ _ by omega)
          have belE := bel.grown g9 (Nat.le_of_lt yZ.lt |> fun h => by omega) (fun k hk => by simp only [Option.some.injEq] at hk; omega)
          clear r0 r1 r2 r3 r4 r5 r6 r7 z0 z1 z2 z3 z4 z5 z6 z7 f0 f1 f2 f3 f4 f5 f6 f7 g9 hW9 a0 a1'
          have c0 := Z9.cell 0
          have c1 := Z9.cell 1
          have c2 := Z9.cell 2
          have c3 := Z9.cell 3
          have c4 := Z9.cell 4
          have c5 := Z9.cell 5
          have c6 := Z9.cell 6
          have c7 := Z9.cell 7
          refine bodyPost_ret (v := .agg #[.int .i64 ro, .int .i64 0, .int .i64 prod, .int .i64 epoch, .int .i64 seq, .int .i64 rt, .int .i64 (recs.length : Int), .slice a5 (bodyN recs recs.length).length q5]) (by simp [results, Try.results99, go_sem, c0, c1, c2, c3, c4, c5, c6, c7]) rfl ?_
          exact HFin.out _ _ ⟨_, by rw [HF.out]; rfl, by rw [Hpb.out]; exact ownE, belE⟩
        · have r1 := yR.cell 1
          have f1 := yR.free 1
          go_upto_region 13 with (fail)
          have wfA := yA.other (i := 1) (u := .int .i64 1) (show A ≠ R by omega)
          have wfZ := yZ.other (i := 1) (u := .int .i64 1) (show Z ≠ R by omega)
          have wfR := yR.setTo (i := 1) (u := .int .i64 1) (cs' := #[.int .i64 ro, .int .i64 1, .int .i64 prod, .int .i64 epoch, .int .i64 seq, .int .i64 rt, .int .i64 (recs.length : Int), .slice a5 (bodyN recs recs.length).length q5]) rfl
          have wfO := own.by (Nat.lt_succ_self R) (set_grown wr R 1 (.int .i64 1))
          have wfB := bel.setCell (p := ⟨R, 1, none⟩) (show A ≤ R by omega) (.int .i64 1)
          clear r1 f1
          generalize wr.setCell ⟨R, 1, none⟩ (.int .i64 1) = wf at wfA wfZ wfR wfO wfB ⊢
          clear a0 a1'
          have a0 := wfA.cell 0
          have a1' := wfA.cell 1
          have r7 := wfR.cell 7
          have P1 := Lib.hid (CP.out wf _ wfO.ints)
          go_wp2_with fail
          (with_reducible refine P1.out.mono ?_)
          rintro e wpi ⟨v6, rfl, own6, b6⟩
          have lR6 : R < wf.heap.size := wfR.lt
          have wpiZ := wfZ.belowS b6
          have wpiR := wfR.belowS b6
          have wpiB := wfB.trans (b6.mono (show A ≤ wf.heap.size by omega))
          obtain ⟨a6, q6, rfl, hl6', hm6, hc6⟩ := id own6.ints
          clear hc6 P1 r7 a0 a1'
          have r7 := wpiR.cell 7
          have f7 := wpiR.free 7
          go_upto_region 14 with (fail)
          have wpZ := wpiZ.other (i := 7) (u := .slice a6 (packP (bodyN recs recs.length)).length q6) (show Z ≠ R by omega)
          have wpR := wpiR.setTo (i := 7) (u := .slice a6 (packP (bodyN recs recs.length)).length q6) (cs' := #[.int .i64 ro, .int .i64 1, .int .i64 prod, .int .i64 epoch, .int .i64 seq, .int .i64 rt, .int .i64 (recs.length : Int), .slice a6 (packP (bodyN recs recs.length)).length q6]) rfl
          have wpO := own6.by lR6 (set_grown wpi R 7 (.slice a6 (packP (bodyN recs recs.length)).length q6))
          have wpB := wpiB.setCell (p := ⟨R, 7, none⟩) (show A ≤ R by omega) (.slice a6 (packP (bodyN recs recs.length)).length q6)
          clear r7 f7
          generalize wpi.setCell ⟨R, 7, none⟩ (.slice a6 (packP (bodyN recs recs.length)).length q6) = wp at wpZ wpR wpO wpB ⊢
          have a0 : True := trivial
          have a1' : True := trivial
          have r0 := wpR.cell 0
          have r1 := wpR.cell 1
          have r2 := wpR.cell 2
          have r3 := wpR.cell 3
          have r4 := wpR.cell 4
          have r5 := wpR.cell 5
          have r6 := wpR.cell 6
          have r7 := wpR.cell 7
          have z0 := wpZ.cell 0
          have f0 := wpZ.free 0
          have z1 := wpZ.cell 1
          have f1 := wpZ.free 1
          have z2 := wpZ.cell 2
          have f2 := wpZ.free 2
          have z3 := wpZ.cell 3
          have f3 := wpZ.free 3
          have z4 := wpZ.cell 4
          have f4 := wpZ.free 4
          have z5 := wpZ.cell 5
          have f5 := wpZ.free 5
          have z6 := wpZ.cell 6
          have f6 := wpZ.free 6
          have z7 := wpZ.cell 7
          have f7 := wpZ.free 7
          go_wp2_with fail
          have Z9 := wpZ.eights (.int .i64 ro) (.int .i64 1) (.int .i64 prod) (.int .i64 epoch) (.int .i64 seq) (.int .i64 rt) (.int .i64 (recs.length : Int)) (.slice a6 (packP (bodyN recs recs.length)).length q6)
          have g9 := eights_grown wp Z (.int .i64 ro) (.int .i64 1) (.int .i64 prod) (.int .i64 epoch) (.int .i64 seq) (.int .i64 rt) (.int .i64 (recs.length : Int)) (.slice a6 (packP (bodyN recs recs.length)).length q6)
          generalize hW9 : ((((((((wp.setCell ⟨Z, 0, none⟩ (.int .i64 ro)).setCell ⟨Z, 1, none⟩ (.int .i64 1)).setCell ⟨Z, 2, none⟩ (.int .i64 prod)).setCell ⟨Z, 3, none⟩ (.int .i64 epoch)).setCell ⟨Z, 4, none⟩ (.int .i64 seq)).setCell ⟨Z, 5, none⟩ (.int .i64 rt)).setCell ⟨Z, 6, none⟩ (.int .i64 (recs.length : Int))).setCell ⟨Z, 7, none⟩ (.slice a6 (packP (bodyN recs recs.length)).length q6)) = w9 at Z9 g9 ⊢
          have ownE := (wpO.by (by omega) g9).base (show A ≤ _ by omega)
          have belE := wpB.grown g9 (Nat.le_of_lt wpZ.lt |> fun h => by omega) (fun k hk => by simp only [Option.some.injEq] at hk; omega)
          clear r0 r1 r2 r3 r4 r5 r6 r7 z0 z1 z2 z3 z4 z5 z6 z7 f0 f1 f2 f3 f4 f5 f6 f7 g9 hW9 a0 a1'
          have c0 := Z9.cell 0
          have c1 := Z9.cell 1
          have c2 := Z9.cell 2
          have c3 := Z9.cell 3
          have c4 := Z9.cell 4
          have c5 := Z9.cell 5
          have c6 := Z9.cell 6
          have c7 := Z9.cell 7
          refine bodyPost_ret (v := .agg #[.int .i64 ro, .int .i64 1, .int .i64 prod, .int .i64 epoch, .int .i64 seq, .int .i64 rt, .int .i64 (recs.length : Int), .slice a6 (packP (bodyN recs recs.length)).length q6]) (by simp [results, Try.results99, go_sem, c0, c1, c2, c3, c4, c5, c6, c7]) rfl ?_
          exact HFin.out _ _ ⟨_, by rw [HF.out]; rfl, by rw [Hpb.out]; exact ownE, belE⟩
      · rcases packed with _ | _
        · have r1 := yR.cell 1
          have f1 := yR.free 1
          go_upto_region 11 with (fail)
          have wmA := yA.other (i := 1) (u := .int .i64 2) (show A ≠ R by omega)
          have wmZ := yZ.other (i := 1) (u := .int .i64 2) (show Z ≠ R by omega)
          have wmR := yR.setTo (i := 1) (u := .int .i64 2) (cs' := #[.int .i64 ro, .int .i64 2, .int .i64 prod, .int .i64 epoch, .int .i64 seq, .int .i64 rt, .int .i64 (recs.length : Int), .slice a5 (bodyN recs recs.length).length q5]) rfl
          have wmO := own.by (Nat.lt_succ_self R) (set_grown wr R 1 (.int .i64 2))
          have wmB := bel.setCell (p := ⟨R, 1, none⟩) (show A ≤ R by omega) (.int .i64 2)
          clear r1 f1
          generalize wr.setCell ⟨R, 1, none⟩ (.int .i64 2) = wm at wmA wmZ wmR wmO wmB ⊢
          clear a0 a1'
          have a0 := wmA.cell 0
          have a1' := wmA.cell 1
          have r0 := wmR.cell 0
          have r1 := wmR.cell 1
          have r2 := wmR.cell 2
          have r3 := wmR.cell 3
          have r4 := wmR.cell 4
          have r5 := wmR.cell 5
          have r6 := wmR.cell 6
          have r7 := wmR.cell 7
          have z0 := wmZ.cell 0
          have f0 := wmZ.free 0
          have z1 := wmZ.cell 1
          have f1 := wmZ.free 1
          have z2 := wmZ.cell 2
          have f2 := wmZ.free 2
          have z3 := wmZ.cell 3
          have f3 := wmZ.free 3
          have z4 := wmZ.cell 4
          have f4 := wmZ.free 4
          have z5 := wmZ.cell 5
          have f5 := wmZ.free 5
          have z6 := wmZ.cell 6
          have f6 := wmZ.free 6
          have z7 := wmZ.cell 7
          have f7 := wmZ.free 7
          go_wp2_with fail
          have Z9 := wmZ.eights (.int .i64 ro) (.int .i64 2) (.int .i64 prod) (.int .i64 epoch) (.int .i64 seq) (.int .i64 rt) (.int .i64 (recs.length : Int)) (.slice a5 (bodyN recs recs.length).length q5)
          have g9 := eights_grown wm Z (.int .i64 ro) (.int .i64 2) (.int .i64 prod) (.int .i64 epoch) (.int .i64 seq) (.int .i64 rt) (.int .i64 (recs.length : Int)) (.slice a5 (bodyN recs recs.length).length q5)
          generalize hW9 : ((((((((wm.setCell ⟨Z, 0, none⟩ (.int .i64 ro)).setCell ⟨Z, 1, none⟩ (.int .i64 2)).setCell ⟨Z, 2, none⟩ (.int .i64 prod)).setCell ⟨Z, 3, none⟩ (.int .i64 epoch)).setCell ⟨Z, 4, none⟩ (.int .i64 seq)).setCell ⟨Z, 5, none⟩ (.int .i64 rt)).setCell ⟨Z, 6, none⟩ (.int .i64 (recs.length : Int))).setCell ⟨Z, 7, none⟩ (.slice a5 (bodyN recs recs.length).length q5)) = w9 at Z9 g9 ⊢
          have ownE := (wmO.by (by omega) g9).base (show A ≤ _ by omega)
          have belE := wmB.grown g9 (Nat.le_of_lt wmZ.lt |> fun h => by omega) (fun k hk => by simp only [Option.some.injEq] at hk; omega)
          clear r0 r1 r2 r3 r4 r5 r6 r7 z0 z1 z2 z3 z4 z5 z6 z7 f0 f1 f2 f3 f4 f5 f6 f7 g9 hW9 a0 a1'
          have c0 := Z9.cell 0
          have c1 := Z9.cell 1
          have c2 := Z9.cell 2
          have c3 := Z9.cell 3
          have c4 := Z9.cell 4
          have c5 := Z9.cell 5
          have c6 := Z9.cell 6
          have c7 := Z9.cell 7
          refine bodyPost_ret (v := .agg #[.int .i64 ro, .int .i64 2, .int .i64 prod, .int .i64 epoch, .int .i64 seq, .int .i64 rt, .int .i64 (recs.length : Int), .slice a5 (bodyN recs recs.length).length q5]) (by simp [results, Try.results99, go_sem, c0, c1, c2, c3, c4, c5, c6, c7]) rfl ?_
          exact HFin.out _ _ ⟨_, by rw [HF.out]; rfl, by rw [Hpb.out]; exact ownE, belE⟩
        · have r1 := yR.cell 1
          have f1 := yR.free 1
          go_upto_region 11 with (fail)
          have wmA := yA.other (i := 1) (u := .int .i64 2) (show A ≠ R by omega)
          have wmZ := yZ.other (i := 1) (u := .int .i64 2) (show Z ≠ R by omega)
          have wmR := yR.setTo (i := 1) (u := .int .i64 2) (cs' := #[.int .i64 ro, .int .i64 2, .int .i64 prod, .int .i64 epoch, .int .i64 seq, .int .i64 rt, .int .i64 (recs.length : Int), .slice a5 (bodyN recs recs.length).length q5]) rfl
          have wmO := own.by (Nat.lt_succ_self R) (set_grown wr R 1 (.int .i64 2))
          have wmB := bel.setCell (p := ⟨R, 1, none⟩) (show A ≤ R by omega) (.int .i64 2)
          clear r1 f1
          generalize wr.setCell ⟨R, 1, none⟩ (.int .i64 2) = wm at wmA wmZ wmR wmO wmB ⊢
          clear a0 a1'
          have a0 := wmA.cell 0
          have a1' := wmA.cell 1
          have r1 := wmR.cell 1
          have f1 := wmR.free 1
          go_upto_region 13 with (fail)
          have wfA := wmA.other (i := 1) (u := .int .i64 3) (show A ≠ R by omega)
          have wfZ := wmZ.other (i := 1) (u := .int .i64 3) (show Z ≠ R by omega)
          have wfR := wmR.setTo (i := 1) (u := .int .i64 3) (cs' := #[.int .i64 ro, .int .i64 3, .int .i64 prod, .int .i64 epoch, .int .i64 seq, .int .i64 rt, .int .i64 (recs.length : Int), .slice a5 (bodyN recs recs.length).length q5]) rfl
          have wfO := wmO.by (Nat.lt_succ_self R) (set_grown wm R 1 (.int .i64 3))
          have wfB := wmB.setCell (p := ⟨R, 1, none⟩) (show A ≤ R by omega) (.int .i64 3)
          clear r1 f1
          generalize wm.setCell ⟨R, 1, none⟩ (.int .i64 3) = wf at wfA wfZ wfR wfO wfB ⊢
          clear a0 a1'
          have a0 := wfA.cell 0
          have a1' := wfA.cell 1
          have r7 := wfR.cell 7
          have P1 := Lib.hid (CP.out wf _ wfO.ints)
          go_wp2_with fail
          (with_reducible refine P1.out.mono ?_)
          rintro e wpi ⟨v6, rfl, own6, b6⟩
          have lR6 : R < wf.heap.size := wfR.lt
          have wpiZ := wfZ.belowS b6
          have wpiR := wfR.belowS b6
          have wpiB := wfB.trans (b6.mono (show A ≤ wf.heap.size by omega))
          obtain ⟨a6, q6, rfl, hl6', hm6, hc6⟩ := id own6.ints
          clear hc6 P1 r7 a0 a1'
          have r7 := wpiR.cell 7
          have f7 := wpiR.free 7
          go_upto_region 14 with (fail)
          have wpZ := wpiZ.other (i := 7) (u := .slice a6 (packP (bodyN recs recs.length)).length q6) (show Z ≠ R by omega)
          have wpR := wpiR.setTo (i := 7) (u := .slice a6 (packP (bodyN recs recs.length)).length q6) (cs' := #[.int .i64 ro, .int .i64 3, .int .i64 prod, .int .i64 epoch, .int .i64 seq, .int .i64 rt, .int .i64 (recs.length : Int), .slice a6 (packP (bodyN recs recs.length)).length q6]) rfl
          have wpO := own6.by lR6 (set_grown wpi R 7 (.slice a6 (packP (bodyN recs recs.length)).length q6))
          have wpB := wpiB.setCell (p := ⟨R, 7, none⟩) (show A ≤ R by omega) (.slice a6 (packP (bodyN recs recs.length)).length q6)
          clear r7 f7
          generalize wpi.setCell ⟨R, 7, none⟩ (.slice a6 (packP (bodyN recs recs.length)).length q6) = wp at wpZ wpR wpO wpB ⊢
          have a0 : True := trivial
          have a1' : True := trivial
          have r0 := wpR.cell 0
          have r1 := wpR.cell 1
          have r2 := wpR.cell 2
          have r3 := wpR.cell 3
          have r4 := wpR.cell 4
          have r5 := wpR.cell 5
          have r6 := wpR.cell 6
          have r7 := wpR.cell 7
          have z0 := wpZ.cell 0
          have f0 := wpZ.free 0
          have z1 := wpZ.cell 1
          have f1 := wpZ.free 1
          have z2 := wpZ.cell 2
          have f2 := wpZ.free 2
          have z3 := wpZ.cell 3
          have f3 := wpZ.free 3
          have z4 := wpZ.cell 4
          have f4 := wpZ.free 4
          have z5 := wpZ.cell 5
          have f5 := wpZ.free 5
          have z6 := wpZ.cell 6
          have f6 := wpZ.free 6
          have z7 := wpZ.cell 7
          have f7 := wpZ.free 7
          go_wp2_with fail
          have Z9 := wpZ.eights (.int .i64 ro) (.int .i64 3) (.int .i64 prod) (.int .i64 epoch) (.int .i64 seq) (.int .i64 rt) (.int .i64 (recs.length : Int)) (.slice a6 (packP (bodyN recs recs.length)).length q6)
          have g9 := eights_grown wp Z (.int .i64 ro) (.int .i64 3) (.int .i64 prod) (.int .i64 epoch) (.int .i64 seq) (.int .i64 rt) (.int .i64 (recs.length : Int)) (.slice a6 (packP (bodyN recs recs.length)).length q6)
          generalize hW9 : ((((((((wp.setCell ⟨Z, 0, none⟩ (.int .i64 ro)).setCell ⟨Z, 1, none⟩ (.int .i64 3)).setCell ⟨Z, 2, none⟩ (.int .i64 prod)).setCell ⟨Z, 3, none⟩ (.int .i64 epoch)).setCell ⟨Z, 4, none⟩ (.int .i64 seq)).setCell ⟨Z, 5, none⟩ (.int .i64 rt)).setCell ⟨Z, 6, none⟩ (.int .i64 (recs.length : Int))).setCell ⟨Z, 7, none⟩ (.slice a6 (packP (bodyN recs recs.length)).length q6)) = w9 at Z9 g9 ⊢
          have ownE := (wpO.by (by omega) g9).base (show A ≤ _ by omega)
          have belE := wpB.grown g9 (Nat.le_of_lt wpZ.lt |> fun h => by omega) (fun k hk => by simp only [Option.some.injEq] at hk; omega)
          clear r0 r1 r2 r3 r4 r5 r6 r7 z0 z1 z2 z3 z4 z5 z6 z7 f0 f1 f2 f3 f4 f5 f6 f7 g9 hW9 a0 a1'
          have c0 := Z9.cell 0
          have c1 := Z9.cell 1
          have c2 := Z9.cell 2
          have c3 := Z9.cell 3
          have c4 := Z9.cell 4
          have c5 := Z9.cell 5
          have c6 := Z9.cell 6
          have c7 := Z9.cell 7
          refine bodyPost_ret (v := .agg #[.int .i64 ro, .int .i64 3, .int .i64 prod, .int .i64 epoch, .int .i64 seq, .int .i64 rt, .int .i64 (recs.length : Int), .slice a6 (packP (bodyN recs recs.length)).length q6]) (by simp [results, Try.results99, go_sem, c0, c1, c2, c3, c4, c5, c6, c7]) rfl ?_
          exact HFin.out _ _ ⟨_, by rw [HF.out]; rfl, by rw [Hpb.out]; exact ownE, belE⟩
-- W5g

theorem headIn_of {b : Bat} (h : batOk b = true) : HeadIn (recAt b.recs 0).off (flagsN b) b.prod b.epoch b.seq (recAt b.recs 0).time (b.recs.length : Int) := by
  obtain ⟨⟨h1, h6⟩, _, hp, ho⟩ := batOk_iff.1 h
  have p := prodOk_iff hp
  obtain ⟨o, t⟩ := baseOk_iff.1 (ordOk_base ho (show 0 < b.recs.length by omega))
  exact ⟨by omega, flagsN_range b, by omega, by omega, by omega, by omega, by omega⟩
theorem stored_batB {b : Bat} (h : batOk b = true) : storedL (recAt b.recs 0).off (flagsN b) b.prod b.epoch b.seq (recAt b.recs 0).time (b.recs.length : Int) (pbodyB b) = batB b := by
  obtain ⟨_, f, p, e, _, _, c⟩ := headIn_of h
  have e1 : headL (flagsN b) b.prod b.epoch b.seq (recAt b.recs 0).time (b.recs.length : Int) = headB b := by
    unfold headL headB
    rw [sfx1 f.1 (by omega), sfx1 p.1 (by omega), sfx1 e.1 (by omega), sfx1 c.1 (by omega), show sfx 2 0 = [0, 0] from rfl]
    simp only [List.append_assoc, List.cons_append, List.nil_append]
  unfold storedL batB restB
  rw [e1]

/-- bytes, or none -/
def OkInts (w : World) (ok : Bool) (L : List Int) : Ending → World → Prop := NewInts w (if ok = true then L else []) ok

set_option maxHeartbeats 1000000 in
theorem impl_BatchBytes (v : Value) (b : Bat) (w : World) (h : BatV w v b) :
    Calls Try.prog 92 #[v] w (NewInts w (if batOk b = true then batB b else []) (batOk b)) := by
  have C1 : Hid (∀ W, Below w.heap.size w W → Calls Try.prog 61 #[v] W (SaysB (batOk b) W)) := Lib.hid fun W hW => impl_BatchValid v b W (h.below hW)
  have C2 : Hid (batOk b = true → ∀ W, Below w.heap.size w W → Calls Try.prog 99 #[v] W (StoredRes b W)) := Lib.hid fun hb W hW => impl_storedOf v b W (h.below hW) hb
  have C3 : Hid (batOk b = true → ∀ W u, Ints W u (pbodyB b) → Calls Try.prog 100 #[.agg #[.int .i64 (recAt b.recs 0).off, .int .i64 (flagsN b), .int .i64 b.prod, .int .i64 b.epoch, .int .i64 b.seq, .int .i64 (recAt b.recs 0).time, .int .i64 (b.recs.length : Int), u]] W (NewInts1 W (batB b))) := Lib.hid fun hb W u hu => by
    have := impl_storedBytes _ _ _ _ _ _ _ u (pbodyB b) W (headIn_of hb) hu (pbody_ok hb) (by have := pbody_len hb; omega)
    rwa [stored_batB hb] at this
  obtain ⟨ok, hok⟩ : ∃ ok, batOk b = ok := ⟨_, rfl⟩
  rw [hok] at C1 C2 C3 ⊢
  clear hok
  obtain ⟨L, hL⟩ : ∃ L, batB b = L := ⟨_, rfl⟩
  rw [hL] at C3 ⊢
  clear hL
  obtain ⟨a, cap, rfl, hr, hl, hm⟩ := h.parts
  clear h hr hl hm
  have x0 := Blk.made w #[.bool b.packed, .bool b.mark, .int .i64 b.prod, .int .i64 b.epoch, .int .i64 b.seq, .slice a b.recs.length cap] 43
  have b0 := alloc_below' w (.cells #[.bool b.packed, .bool b.mark, .int .i64 b.prod, .int .i64 b.epoch, .int .i64 b.seq, .slice a b.recs.length cap] 43)
  show Calls Try.prog 92 _ w (OkInts w ok L)
  go_enter Try.func92, Try.ntmps92
  go_wp2_with fail
  generalize hwb : w.alloc (.cells #[.bool b.packed, .bool b.mark, .int .i64 b.prod, .int .i64 b.epoch, .int .i64 b.seq, .slice a b.recs.length cap] 43) = wb at x0 b0 ⊢
  clear hwb
  (with_reducible refine (C1.out wb b0).mono ?_)
  rintro e w1 ⟨rfl, b1⟩
  have x1 := x0.belowS b1
  have B1 := Bstep b0 b1
  have c0 := x1.cell 0
  have c1 := x1.cell 1
  have c2 := x1.cell 2
  have c3 := x1.cell 3
  have c4 := x1.cell 4
  have c5 := x1.cell 5
  cases ok with
  | false =>
    go_wp2_with fail
    go_ret2
    exact ⟨_, rfl, own_nil _ _, B1⟩
  | true =>
    have D2 := Lib.hid (C2.out rfl w1 B1)
    go_wp2_with fail
    (with_reducible refine D2.out.mono ?_)
    rintro e w2 ⟨u, rfl, own2, b2⟩
    have D3 := Lib.hid (C3.out (by simp) w2 u own2.ints)
    have B2 := Bstep B1 b2
    go_wp2_with fail
    (with_reducible refine D3.out.mono ?_)
    rintro e w3 ⟨v3, rfl, own3, b3⟩
    go_wp2_with fail
    go_ret2
    exact ⟨_, rfl, own3.base B2.size, Bstep B2 b3⟩
-- W5h

set_option maxRecDepth 100000 in
set_option maxHeartbeats 4000000 in
theorem spec_l5Body (v : Value) (b : Bat) (w : World) (h : BatV w v b) (hb : batOk b = true) : Calls Try.prog 74 #[v] w (NewInts1 w (bodyB b.recs)) := by
  obtain ⟨⟨hl1, hl6⟩, q1, q2, hord⟩ := batOk_iff.1 hb
  obtain ⟨a, cap, rfl, hr, hl, hm⟩ := h.parts
  clear h q1 q2 hb
  obtain ⟨packed, mark, prod, epoch, seq, recs⟩ := b
  simp only at hl1 hl6 hord hr hl ⊢
  obtain ⟨g, off, cap', eg, q3⟩ := hr.form (by omega)
  simp only [Value.slice.injEq, true_and] at eg
  obtain ⟨rfl, rfl⟩ := eg
  obtain ⟨r, a1, c1, a2, c2, Hr, hR⟩ := hr.parts 0 (by omega)
  have hbase := ordOk_base hord (show 0 < recs.length by omega)
  rw [Hr.out] at hbase
  have hlp : 0 < recs.length := by omega
  have HN : Hid (∀ k, k < recs.length → recOk (recAt recs k) = true ∧ (bodyN recs (k + 1)).length ≤ 198 ∧ (bodyN recs k).length ≤ 198) := Lib.hid fun k hk => by
    have h1 := bodyN_len hord (k + 1) (by omega)
    have h2 := bodyN_len hord k (by omega)
    exact ⟨ordOk_rec hord hk, by omega, by omega⟩
  have hst : ∀ k, bodyN recs (k + 1) = bodyN recs k ++ recBytes (recAt recs k) r.off r.time := fun k => by simp only [bodyN]; rw [Hr.out]
  show Calls Try.prog 74 _ w (NewInts1 w (bodyN recs recs.length))
  obtain ⟨ro, rt, rhk, rkey, rhv, rval⟩ := r
  obtain ⟨e0, e1, ix⟩ := hR
  clear ix
  rw [Nat.zero_mul, Nat.add_zero] at e0 e1
  simp only at e0 e1 hbase hst
  have lg : g < w.heap.size := World.block_lt_of_cell? _ _ e0
  have HC : Hid (∀ W, Below w.heap.size w W → W.cell? ⟨g, off, none⟩ = some (.int .i64 ro) ∧ W.cell? ⟨g, off + 1, none⟩ = some (.int .i64 rt)) := Lib.hid fun W hW => ⟨(hW.cell lg).trans e0, (hW.cell lg).trans e1⟩
  have HST := Lib.hid hst
  have HR := Lib.hid hr
  have HB := Lib.hid hbase
  clear hr hst hbase hord Hr q3 hm e0 e1
  have x0 := Blk.made w #[.bool packed, .bool mark, .int .i64 prod, .int .i64 epoch, .int .i64 seq, .slice (some ⟨g, off, none⟩) recs.length cap] 43
  have b0 := alloc_below' w (.cells #[.bool packed, .bool mark, .int .i64 prod, .int .i64 epoch, .int .i64 seq, .slice (some ⟨g, off, none⟩) recs.length cap] 43)
  have o1 := own_empty (w.alloc (.cells #[.bool packed, .bool mark, .int .i64 prod, .int .i64 epoch, .int .i64 seq, .slice (some ⟨g, off, none⟩) recs.length cap] 43)) (w.heap.size + 1) (by rw [alloc_sz]; omega)
  have b1 := alloc_below' (w.alloc (.cells #[.bool packed, .bool mark, .int .i64 prod, .int .i64 epoch, .int .i64 seq, .slice (some ⟨g, off, none⟩) recs.length cap] 43)) (.cells #[] 3)
  have x1 := x0.belowS b1
  have bn := Bstep b0 b1
  rw [alloc_sz] at o1
  go_enter Try.func74, Try.ntmps74
  go_wp2_with fail
  generalize (w.alloc (.cells #[.bool packed, .bool mark, .int .i64 prod, .int .i64 epoch, .int .i64 seq, .slice (some ⟨g, off, none⟩) recs.length cap] 43)).alloc (.cells #[] 3) = wn at x1 bn o1 b1 ⊢
  clear x0 b0 b1
  obtain ⟨A, hA⟩ : ∃ A, w.heap.size = A := ⟨_, rfl⟩
  rw [hA] at x1 bn lg HC o1 ⊢
  have HA := Lib.hid hA
  clear hA
  go_loopw [3, 4] (fun o i wr => ∃ k : Nat, k ≤ recs.length ∧ i = .int .i64 k ∧ Own wr (A + 1) o (bodyN recs k) ∧ Blk wr A #[.bool packed, .bool mark, .int .i64 prod, .int .i64 epoch, .int .i64 seq, .slice (some ⟨g, off, none⟩) recs.length cap] ∧ Below A w wr) (fun _ i _ => recs.length - (intOf i).toNat)
  case atStart => exact ⟨0, Nat.zero_le _, rfl, o1, x1, bn⟩
  case round =>
    obtain ⟨k, hk, rfl, own, yA, bel⟩ := hrel
    clear o1 x1 bn
    have a5 := yA.cell 5
    by_cases hlt : k < recs.length
    · obtain ⟨r, b1, d1, b2, d2, Hr, hR⟩ := HR.out.parts k hlt
      have hrec := hR.recV
      obtain ⟨hok, hn1, hn0⟩ := HN.out k hlt
      rw [Hr.out] at hok
      have hnx := HST.out k
      rw [Hr.out] at hnx
      have hlen : (bodyN recs k).length + (recBytes r ro rt).length < 10000000000 := by
        have := congrArg List.length hnx
        rw [List.length_append] at this
        omega
      have C1 : Hid (∀ W, Below A w W → Calls Try.prog 87 #[.agg #[.int .i64 r.off, .int .i64 r.time, .bool r.hk, .slice b1 r.key.length d1, .bool r.hv, .slice b2 r.val.length d2], .int .i64 ro, .int .i64 rt] W (NewInts1 W (recBytes r ro rt))) := Lib.hid fun W hW => spec_l3Bytes _ r ro rt W (hrec.below (by rw [HA.out]; exact hW)) hok HB.out
      obtain ⟨L, hL⟩ : ∃ L, recBytes r ro rt = L := ⟨_, rfl⟩
      rw [hL] at C1 hnx hlen
      have HNX := Lib.hid hnx
      obtain ⟨qo, qt, qhk, qkey, qhv, qval⟩ := r
      obtain ⟨c0, c1', c2', c3, c4, c5, ix1, ix2⟩ := hR
      simp only at c0 c1' c2' c3 c4 c5 C1
      obtain ⟨f0, f1⟩ := HC.out wr bel
      have c0 := (bel.cell (p := ⟨g, off + k * 6, none⟩) lg).trans c0
      have c1' := (bel.cell (p := ⟨g, off + k * 6 + 1, none⟩) lg).trans c1'
      have c2' := (bel.cell (p := ⟨g, off + k * 6 + 2, none⟩) lg).trans c2'
      have c3 := (bel.cell (p := ⟨g, off + k * 6 + 3, none⟩) lg).trans c3
      have c4 := (bel.cell (p := ⟨g, off + k * 6 + 4, none⟩) lg).trans c4
      have c5 := (bel.cell (p := ⟨g, off + k * 6 + 5, none⟩) lg).trans c5
      clear ix1 ix2 hrec hnx hok hL
      have lA := yA.lt
      have HS : Hid (∀ W, Below (A + 1) wr W → W.cell? ⟨A, 5, none⟩ = some (.slice (some ⟨g, off, none⟩) recs.length cap) ∧ W.cell? ⟨g, off, none⟩ = some (.int .i64 ro) ∧ W.cell? ⟨g, off + 1, none⟩ = some (.int .i64 rt) ∧ W.cell? ⟨g, off + k * 6, none⟩ = some (.int .i64 qo) ∧ W.cell? ⟨g, off + k * 6 + 1, none⟩ = some (.int .i64 qt) ∧ W.cell? ⟨g, off + k * 6 + 2, none⟩ = some (.bool qhk) ∧ W.cell? ⟨g, off + k * 6 + 3, none⟩ = some (.slice b1 qkey.length d1) ∧ W.cell? ⟨g, off + k * 6 + 4, none⟩ = some (.bool qhv) ∧ W.cell? ⟨g, off + k * 6 + 5, none⟩ = some (.slice b2 qval.length d2)) := Lib.hid fun W hW =>
        have lg1 : g < A + 1 := by omega
        ⟨(hW.cell (Nat.lt_succ_self A)).trans a5, (hW.cell lg1).trans f0, (hW.cell lg1).trans f1, (hW.cell lg1).trans c0, (hW.cell lg1).trans c1', (hW.cell lg1).trans c2', (hW.cell lg1).trans c3, (hW.cell lg1).trans c4, (hW.cell lg1).trans c5⟩
      have bdr : Below wr.heap.size wr wr.drew := below_drewN (Below.refl _ _) 1
      have S1 := HS.out wr.drew (bdr.mono lA)
      have D1 := Lib.hid (C1.out wr.drew (bel.trans (bdr.mono (Nat.le_of_lt lA))))
      have Own1 := Lib.hid (own.below bdr)
      have lgr : g < wr.heap.size := by omega
      go_upto_region 5 with (fail)
      clear c0 c1' c2' c3 c4 c5 f0 f1 C1 own a5
      go_region_held3 (fun W => W.cell? ⟨A, 5, none⟩ = some (.slice (some ⟨g, off, none⟩) recs.length cap) ∧ W.cell? ⟨g, off, none⟩ = some (.int .i64 ro) ∧ W.cell? ⟨g, off + 1, none⟩ = some (.int .i64 rt) ∧ W.cell? ⟨g, off + k * 6, none⟩ = some (.int .i64 qo) ∧ W.cell? ⟨g, off + k * 6 + 1, none⟩ = some (.int .i64 qt) ∧ W.cell? ⟨g, off + k * 6 + 2, none⟩ = some (.bool qhk) ∧ W.cell? ⟨g, off + k * 6 + 3, none⟩ = some (.slice b1 qkey.length d1) ∧ W.cell? ⟨g, off + k * 6 + 4, none⟩ = some (.bool qhv) ∧ W.cell? ⟨g, off + k * 6 + 5, none⟩ = some (.slice b2 qval.length d2)) (first | with_reducible exact S1 | with_reducible exact hS2 | with_reducible exact hS3 | go_keep)
        (first
          | (go_at_call 87; ((with_reducible refine D1.out.mono ?_); rintro x W2 ⟨v2, rfl, own2, b2⟩; have hS2 := HS.out W2 ((Bstep bdr b2).mono lA)))
          | (refine step_appI rfl (.tmp 13) (.tmp 29) rfl (A + 1) u3 v2 _ L rfl rfl (Own1.out.below b2) own2.ints hlen (Nat.le_trans lA (Bstep bdr b2).size) ?_; intro v3 W3 own3 g3; have hS3 := HS.out W3 (((Bstep bdr b2).mono lA).grown g3 (Nat.le_trans lA (Bstep bdr b2).size) (Own1.out.below b2).lt)))
      have G3 : Below (A + 1) wr W3 := ((Bstep bdr b2).mono lA).grown g3 (Nat.le_trans lA (Bstep bdr b2).size) (Own1.out.below b2).lt
      rw [← HNX.out] at own3
      have tA := yA.below (Nat.lt_succ_self A) G3
      have tB := bel.trans (G3.mono (Nat.le_succ A))
      clear S1 hS2 hS3 D1 Own1 own2 b2 g3 HS bdr
      go_wp2_with fail
      go_roundw
      case rel => exact ⟨k + 1, by omega, by go_num, own3, tA, tB⟩
      case measure => simp [intOf]; omega
    · obtain rfl : k = recs.length := by omega
      go_wp2_with fail
      go_ret
      exact ⟨_, rfl, own.base (by rw [HA.out]; omega), by rw [HA.out]; exact bel⟩
-- W5i

theorem own_lit3 (w : World) (base : Nat) (x y z : Int) (hb : base ≤ w.heap.size) : Own (w.alloc (.cells #[.int .i64 x, .int .i64 y, .int .i64 z] 3)) base (.slice (some ⟨w.heap.size, 0, none⟩) 3 3) [x, y, z] :=
  ⟨by simp, .inr ⟨w.heap.size, 3, #[.int .i64 x, .int .i64 y, .int .i64 z], rfl, hb, heap_alloc_new w _, by simp, by unfold maxLen; omega, by simp, by simp⟩⟩

set_option maxRecDepth 100000 in
set_option maxHeartbeats 8000000 in
theorem spec_l5Bytes (v : Value) (b : Bat) (w : World) (h : BatV w v b) (hb : batOk b = true) : Calls Try.prog 60 #[v] w (NewInts1 w (batB b)) := by
  have C1 : Hid (∀ W, Below w.heap.size w W → Calls Try.prog 74 #[v] W (NewInts1 W (bodyB b.recs))) := Lib.hid fun W hW => spec_l5Body v b W (h.below hW) hb
  have C2 : Hid (∀ W u, Ints W u (bodyB b.recs) → Calls Try.prog 75 #[u] W (NewInts1 W (packP (bodyB b.recs)))) := Lib.hid fun W u hu => spec_l4Pack u _ W hu (by have := body_len hb; omega)
  have I2 : Hid (∀ W n, 0 ≤ n → n ≤ 65535 → Calls Try.prog 76 #[.int .i64 n, .int .i64 2] W (NewInts1 W (sfx 2 n))) := Lib.hid fun W n h0 h1 => spec_l2Int n 2 W (by omega) (by omega) h0 (by omega)
  have I3 : Hid (∀ W n, 0 ≤ n → n ≤ 16777215 → Calls Try.prog 76 #[.int .i64 n, .int .i64 3] W (NewInts1 W (sfx 3 n))) := Lib.hid fun W n h0 h1 => spec_l2Int n 3 W (by omega) (by omega) h0 h1
  have hfin : ∀ fl PB, fl = flagsN b → PB = pbodyB b → ([fl, b.prod, b.epoch] ++ sfx 2 b.seq ++ sfx 3 (recAt b.recs 0).time ++ [(b.recs.length : Int), 0, 0] ++ PB).length ≤ 221 ∧ okBs ([fl, b.prod, b.epoch] ++ sfx 2 b.seq ++ sfx 3 (recAt b.recs 0).time ++ [(b.recs.length : Int), 0, 0] ++ PB) = true ∧ PB.length ≤ 210 ∧ batB b = sfx 3 (recAt b.recs 0).off ++ sfx 2 (([fl, b.prod, b.epoch] ++ sfx 2 b.seq ++ sfx 3 (recAt b.recs 0).time ++ [(b.recs.length : Int), 0, 0] ++ PB).length : Int) ++ sfx 2 (sumB ([fl, b.prod, b.epoch] ++ sfx 2 b.seq ++ sfx 3 (recAt b.recs 0).time ++ [(b.recs.length : Int), 0, 0] ++ PB)) ++ ([fl, b.prod, b.epoch] ++ sfx 2 b.seq ++ sfx 3 (recAt b.recs 0).time ++ [(b.recs.length : Int), 0, 0] ++ PB) := by
    rintro fl PB rfl rfl
    exact ⟨(restB_len hb).2, restB_ok hb, pbody_len hb, rfl⟩
  have hin := headIn_of hb
  have hl1 := (batOk_iff.1 hb).1
  obtain ⟨a, cap, rfl, hr, hl, hm⟩ := h.parts
  clear h hb
  obtain ⟨packed, mark, prod, epoch, seq, recs⟩ := b
  simp only at hl1 hr hl hin hfin C1 C2 ⊢
  obtain ⟨hl1, hl6⟩ := hl1
  obtain ⟨g, off, cap', eg, q3⟩ := hr.form (by omega)
  simp only [Value.slice.injEq, true_and] at eg
  obtain ⟨rfl, rfl⟩ := eg
  obtain ⟨r, a1, c1, a2, c2, Hr, hR⟩ := hr.parts 0 (by omega)
  rw [Hr.out] at hin hfin
  obtain ⟨ro, rt, rhk, rkey, rhv, rval⟩ := r
  obtain ⟨e0, e1, ix⟩ := hR
  clear ix
  rw [Nat.zero_mul, Nat.add_zero] at e0 e1
  simp only at e0 e1 hin hfin
  obtain ⟨⟨o0, o1⟩, y1, ⟨p0, p1⟩, ⟨ep0, ep1⟩, ⟨s0, s1⟩, ⟨t0, t1⟩, y2⟩ := hin
  clear y1 y2
  have lg : g < w.heap.size := World.block_lt_of_cell? _ _ e0
  have HC : Hid (∀ W, Below w.heap.size w W → W.cell? ⟨g, off, none⟩ = some (.int .i64 ro) ∧ W.cell? ⟨g, off + 1, none⟩ = some (.int .i64 rt)) := Lib.hid fun W hW => ⟨(hW.cell lg).trans e0, (hW.cell lg).trans e1⟩
  have HP : Hid (pbodyB ⟨packed, mark, prod, epoch, seq, recs⟩ = if packed = true then packP (bodyB recs) else bodyB recs) := Lib.hid rfl
  have HF : Hid (flagsN ⟨packed, mark, prod, epoch, seq, recs⟩ = (if packed = true then 1 else 0) + (if mark = true then 2 else 0)) := Lib.hid rfl
  have HFin := Lib.hid hfin
  have hlp : 0 < recs.length := by omega
  clear hr Hr q3 hm e0 e1 hfin
  obtain ⟨T, hT⟩ : ∃ T, batB ⟨packed, mark, prod, epoch, seq, recs⟩ = T := ⟨_, rfl⟩
  rw [hT]
  have HT := Lib.hid hT
  clear hT
  have x0 := Blk.made w #[.bool packed, .bool mark, .int .i64 prod, .int .i64 epoch, .int .i64 seq, .slice (some ⟨g, off, none⟩) recs.length cap] 43
  have b0 := alloc_below' w (.cells #[.bool packed, .bool mark, .int .i64 prod, .int .i64 epoch, .int .i64 seq, .slice (some ⟨g, off, none⟩) recs.length cap] 43)
  go_enter Try.func60, Try.ntmps60
  go_wp2_with fail
  generalize w.alloc (.cells #[.bool packed, .bool mark, .int .i64 prod, .int .i64 epoch, .int .i64 seq, .slice (some ⟨g, off, none⟩) recs.length cap] 43) = wb at x0 b0 ⊢
  obtain ⟨A, hA⟩ : ∃ A, w.heap.size = A := ⟨_, rfl⟩
  rw [hA] at x0 b0 lg HC C1 ⊢
  have HA := Lib.hid hA
  clear hA
  (with_reducible refine (C1.out wb b0).mono ?_)
  rintro e w1 ⟨v1, rfl, own1, b1⟩
  have x1 := x0.belowS b1
  have B1 : Below A w w1 := b0.trans (b1.mono (Nat.le_of_lt x0.lt))
  have a0 := x1.cell 0
  have a1' := x1.cell 1
  have hi1 := own1.ints
  clear x0 b0 own1 b1 C1
  rcases packed with _ | _
  · rcases mark with _ | _
    · go_upto_region 8 with (fail)
      obtain ⟨hRl, hRo, hPl, hBat⟩ := HFin.out 0 (bodyB recs) (by rw [HF.out]; rfl) (by rw [HP.out]; rfl)
      rw [HT.out] at hBat
      obtain ⟨PB, hPB⟩ : ∃ PB, bodyB recs = PB := ⟨_, rfl⟩
      rw [hPB] at hRl hRo hPl hBat hi1
      clear hPB HP HF HFin HT C2
      obtain ⟨L2, hL2⟩ : ∃ L2, sfx 2 seq = L2 := ⟨_, rfl⟩
      have hL2n : L2.length = 2 := by rw [← hL2]; exact sfx_len _ _
      obtain ⟨L3, hL3⟩ : ∃ L3, sfx 3 rt = L3 := ⟨_, rfl⟩
      have hL3n : L3.length = 3 := by rw [← hL3]; exact sfx_len _ _
      obtain ⟨L4, hL4⟩ : ∃ L4, sfx 3 ro = L4 := ⟨_, rfl⟩
      have hL4n : L4.length = 3 := by rw [← hL4]; exact sfx_len _ _
      rw [hL2, hL3] at hRl hRo
      rw [hL2, hL3, hL4] at hBat
      obtain ⟨RR, hRR⟩ : ∃ RR, [0, prod, epoch] ++ L2 ++ L3 ++ [(recs.length : Int), 0, 0] ++ PB = RR := ⟨_, rfl⟩
      rw [hRR] at hRl hRo hBat
      have hsb := sumB_bound RR
      have J2 := Lib.hid fun W => I2.out W seq s0 (by omega)
      have J3 := Lib.hid fun W => I3.out W rt t0 (by omega)
      have J4 := Lib.hid fun W => I3.out W ro o0 (by omega)
      have J5 := Lib.hid fun W => I2.out W (RR.length : Int) (by omega) (by omega)
      have J6 := Lib.hid fun W => I2.out W (sumB RR) (by omega) (by omega)
      obtain ⟨L5, hL5⟩ : ∃ L5, sfx 2 (RR.length : Int) = L5 := ⟨_, rfl⟩
      have hL5n : L5.length = 2 := by rw [← hL5]; exact sfx_len _ _
      obtain ⟨L6, hL6⟩ : ∃ L6, sfx 2 (sumB RR) = L6 := ⟨_, rfl⟩
      have hL6n : L6.length = 2 := by rw [← hL6]; exact sfx_len _ _
      rw [hL2] at J2
      rw [hL3] at J3
      rw [hL4] at J4
      rw [hL5] at J5 hBat
      rw [hL6] at J6 hBat
      obtain ⟨ss, hss⟩ : ∃ ss, sumB RR = ss := ⟨_, rfl⟩
      rw [hss] at J6
      have JS : Hid (∀ W u, Ints W u RR → Calls Try.prog 77 #[u] W fun e W' => e = .returned (.int .i64 ss) ∧ W = W') := Lib.hid fun W u hu => by have := spec_l2Sum u RR W hu hRo; rwa [hss] at this
      have HRR := Lib.hid hRR
      have HBat := Lib.hid hBat
      have Ix := Lib.hid hi1
      clear hBat a1' hi1 hRR hL2 hL3 hL4 hL5 hL6 hss hsb hRo I2 I3
      have c2' := x1.cell 2
      have c3 := x1.cell 3
      have c4 := x1.cell 4
      have bdr : Below w1.heap.size w1 w1.drew := below_drewN (Below.refl _ _) 1
      have bdrA : Below w1.heap.size w1 (w1.alloc (.cells #[.int .i64 0, .int .i64 prod, .int .i64 epoch] 3)).drew := Bstep (alloc_below' _ _) (below_drewN (Below.refl _ _) 1)
      have HS : Hid (∀ W, Below w1.heap.size w1 W → W.cell? ⟨A, 2, none⟩ = some (.int .i64 prod) ∧ W.cell? ⟨A, 3, none⟩ = some (.int .i64 epoch) ∧ W.cell? ⟨A, 4, none⟩ = some (.int .i64 seq)) := Lib.hid fun W hW => by
        have y := x1.belowS hW
        exact ⟨y.cell 2, y.cell 3, y.cell 4⟩
      have S1 := HS.out _ bdr
      have S1a := HS.out _ bdrA
      have ownL := (own_lit3 w1 w1.heap.size 0 prod epoch (Nat.le_refl _)).below (w' := (w1.alloc (.cells #[.int .i64 0, .int .i64 prod, .int .i64 epoch] 3)).drew) (below_drewN (Below.refl _ _) 1)
      have hln : [(0 : Int), prod, epoch].length + L2.length < 10000000000 := by rw [hL2n]; simp
      have hla : ([(0 : Int), prod, epoch] ++ L2).length + L3.length < 10000000000 := by simp only [List.length_append, List.length_cons, List.length_nil, hL2n, hL3n]; omega
      have hlb : ([(0 : Int), prod, epoch] ++ L2 ++ L3).length + [(recs.length : Int), 0, 0].length < 10000000000 := by simp only [List.length_append, List.length_cons, List.length_nil, hL2n, hL3n]; omega
      have hlc : ([(0 : Int), prod, epoch] ++ L2 ++ L3 ++ [(recs.length : Int), 0, 0]).length + PB.length < 10000000000 := by simp only [List.length_append, List.length_cons, List.length_nil, hL2n, hL3n]; omega
      have hld : L4.length + L5.length < 10000000000 := by omega
      have hle : (L4 ++ L5).length + L6.length < 10000000000 := by simp only [List.length_append]; omega
      have hlf : (L4 ++ L5 ++ L6).length + RR.length < 10000000000 := by simp only [List.length_append]; omega
      go_cut [5] from 19 to 28 (fun s5 wc => Own wc w1.heap.size s5 ([0, prod, epoch] ++ L2) ∧ Below w1.heap.size w1 wc)
      case first =>
        go_region_held3 (fun W => W.cell? ⟨A, 2, none⟩ = some (.int .i64 prod) ∧ W.cell? ⟨A, 3, none⟩ = some (.int .i64 epoch) ∧ W.cell? ⟨A, 4, none⟩ = some (.int .i64 seq)) (first | with_reducible exact S1 | with_reducible exact S1a | with_reducible exact hS2 | with_reducible exact hS2a | with_reducible exact hS3 | go_keep)
          (first
            | (go_at_call 76; ((with_reducible refine (J2.out _).mono ?_); rintro x W2 ⟨v27, rfl, own27, b27⟩; have B27 : Below w1.heap.size w1 W2 := (by first | with_reducible exact Bstep bdr b27 | with_reducible exact Bstep bdrA b27); have hS2 := HS.out W2 B27; have hS2a := HS.out _ (Bstep B27 (alloc_below' W2 (.cells #[.int .i64 0, .int .i64 prod, .int .i64 epoch] 3)))))
            | (refine step_appI rfl (.tmp 24) (.tmp 27) rfl w1.heap.size (.slice (some ⟨w1.heap.size, 0, none⟩) 3 3) v27 [0, prod, epoch] L2 rfl rfl (ownL.below b27) own27.ints hln B27.size ?_; intro v28 W3 own28 g28; have B28 := B27.grown g28 B27.size (ownL.below b27).lt; have hS3 := HS.out W3 B28)
            | (refine step_appI rfl (.tmp 24) (.tmp 27) rfl w1.heap.size (.slice (some ⟨W2.heap.size, 0, none⟩) 3 3) v27 [0, prod, epoch] L2 rfl rfl (own_lit3 W2 w1.heap.size 0 prod epoch B27.size) (own27.below (alloc_below' _ _)).ints hln (Bstep B27 (alloc_below' _ _)).size ?_; intro v28 W3 own28 g28; have B28 := (Bstep B27 (alloc_below' W2 (.cells #[.int .i64 0, .int .i64 prod, .int .i64 epoch] 3))).grown g28 (Bstep B27 (alloc_below' _ _)).size (own_lit3 W2 w1.heap.size 0 prod epoch B27.size).lt; have hS3 := HS.out W3 B28))
        all_goals (go_wp2_with fail; go_meet; exact ⟨own28, B28⟩)
      case rest =>
        obtain ⟨own5, B5⟩ := hcut
        have lN : A ≤ w1.heap.size := Nat.le_of_lt x1.lt
        have x5 := x1.belowS B5
        have a5 := x5.cell 5
        obtain ⟨d0, d1⟩ := HC.out wc (B1.trans (B5.mono lN))
        clear S1 S1a bdr bdrA ownL HS c2' c3 c4 J2
        go_wp2_with fail
        (with_reducible refine (J3.out _).mono ?_)
        rintro e w6 ⟨v6, rfl, own6, b6⟩
        have B6 := Bstep B5 b6
        have own56 := own5.below b6
        clear a5 d0 d1 x5
        go_wp2_with (
          at_builtin
          first
            | (refine wp_appI rfl _ _ rfl w1.heap.size u5 v6 ([0, prod, epoch] ++ L2) L3 rfl rfl own56 own6.ints hla B6.size ?_; intro v7 w7 own7 g7; have B7 := B6.grown g7 B6.size own56.lt; have y7 := x1.belowS B7; have a7 := y7.cell 5)
            | (refine wp_appI rfl _ _ rfl w1.heap.size v7 (.slice (some ⟨w7.heap.size, 0, none⟩) 3 3) ([0, prod, epoch] ++ L2 ++ L3) [(recs.length : Int), 0, 0] rfl rfl (own7.below (alloc_below' _ _)) (own_lit3 w7 w1.heap.size (recs.length : Int) 0 0 B7.size).ints hlb (Bstep B7 (alloc_below' _ _)).size ?_; intro v8 w8 own8 g8; have B8 := (Bstep B7 (alloc_below' w7 (.cells #[.int .i64 (recs.length : Int), .int .i64 0, .int .i64 0] 3))).grown g8 (Bstep B7 (alloc_below' _ _)).size own7.lt)
            | (refine wp_appI rfl _ _ rfl w1.heap.size v8 v1 ([0, prod, epoch] ++ L2 ++ L3 ++ [(recs.length : Int), 0, 0]) PB rfl rfl own8 (Ix.out.below B8) hlc B8.size ?_; intro v9 w9 own9 g9; have B9 := B8.grown g9 B8.size own8.lt; have y9 := x1.belowS B9; have a9 := y9.cell 5; obtain ⟨d0, d1⟩ := HC.out w9 (B1.trans (B9.mono lN)); rw [HRR.out] at own9; obtain ⟨p9, q9, rfl, hl9, hm9, hc9⟩ := id own9.ints; clear hc9))
        (with_reducible refine (J4.out _).mono ?_)
        rintro e w10 ⟨v10, rfl, own10, b10⟩
        clear a7 a9 d0 d1 y7 y9 own7 own8 g7 g8 g9 own6 own56 own5
        go_wp2_with fail
        (with_reducible refine (J5.out _).mono ?_)
        rintro e w11 ⟨v11, rfl, own11, b11⟩
        have own10' := own10.below b11
        have B11 := Bstep b10 b11
        go_wp2_with (at_builtin; refine wp_appI rfl _ _ rfl w9.heap.size v10 v11 L4 L5 rfl rfl own10' own11.ints hld B11.size ?_; intro v12 w12 own12 g12; have B12 := B11.grown g12 B11.size own10'.lt)
        (with_reducible refine (JS.out _ _ (own9.below B12).ints).mono ?_)
        rintro e w12' ⟨rfl, rfl⟩
        go_wp2_with fail
        (with_reducible refine (J6.out _).mono ?_)
        rintro e w13 ⟨v13, rfl, own13, b13⟩
        have B13 := Bstep B12 b13
        have own12' := own12.below b13
        go_wp2_with (
          at_builtin
          first
            | (refine wp_appI rfl _ _ rfl w9.heap.size v12 v13 (L4 ++ L5) L6 rfl rfl own12' own13.ints hle B13.size ?_; intro v14 w14 own14 g14; have B14 := B13.grown g14 B13.size own12'.lt)
            | (refine wp_appI rfl _ _ rfl w9.heap.size v14 (.slice p9 RR.length q9) (L4 ++ L5 ++ L6) RR rfl rfl own14 (own9.below B14).ints hlf B14.size ?_; intro v15 w15 own15 g15; have B15 := B14.grown g15 B14.size own14.lt))
        go_ret
        rw [← HBat.out] at own15
        have e1 : A ≤ w9.heap.size := Nat.le_trans lN B9.size
        exact ⟨_, rfl, own15.base (by rw [HA.out]; exact e1), by rw [HA.out]; exact (B1.trans (B9.mono lN)).trans (B15.mono e1)⟩
    · go_upto_region 8 with (fail)
      obtain ⟨hRl, hRo, hPl, hBat⟩ := HFin.out 2 (bodyB recs) (by rw [HF.out]; rfl) (by rw [HP.out]; rfl)
      rw [HT.out] at hBat
      obtain ⟨PB, hPB⟩ : ∃ PB, bodyB recs = PB := ⟨_, rfl⟩
      rw [hPB] at hRl hRo hPl hBat hi1
      clear hPB HP HF HFin HT C2
      obtain ⟨L2, hL2⟩ : ∃ L2, sfx 2 seq = L2 := ⟨_, rfl⟩
      have hL2n : L2.length = 2 := by rw [← hL2]; exact sfx_len _ _
      obtain ⟨L3, hL3⟩ : ∃ L3, sfx 3 rt = L3 := ⟨_, rfl⟩
      have hL3n : L3.length = 3 := by rw [← hL3]; exact sfx_len _ _
      obtain ⟨L4, hL4⟩ : ∃ L4, sfx 3 ro = L4 := ⟨_, rfl⟩
      have hL4n : L4.length = 3 := by rw [← hL4]; exact sfx_len _ _
      rw [hL2, hL3] at hRl hRo
      rw [hL2, hL3, hL4] at hBat
      obtain ⟨RR, hRR⟩ : ∃ RR, [2, prod, epoch] ++ L2 ++ L3 ++ [(recs.length : Int), 0, 0] ++ PB = RR := ⟨_, rfl⟩
      rw [hRR] at hRl hRo hBat
      have hsb := sumB_bound RR
      have J2 := Lib.hid fun W => I2.out W seq s0 (by omega)
      have J3 := Lib.hid fun W => I3.out W rt t0 (by omega)
      have J4 := Lib.hid fun W => I3.out W ro o0 (by omega)
      have J5 := Lib.hid fun W => I2.out W (RR.length : Int) (by omega) (by omega)
      have J6 := Lib.hid fun W => I2.out W (sumB RR) (by omega) (by omega)
      obtain ⟨L5, hL5⟩ : ∃ L5, sfx 2 (RR.length : Int) = L5 := ⟨_, rfl⟩
      have hL5n : L5.length = 2 := by rw [← hL5]; exact sfx_len _ _
      obtain ⟨L6, hL6⟩ : ∃ L6, sfx 2 (sumB RR) = L6 := ⟨_, rfl⟩
      have hL6n : L6.length = 2 := by rw [← hL6]; exact sfx_len _ _
      rw [hL2] at J2
      rw [hL3] at J3
      rw [hL4] at J4
      rw [hL5] at J5 hBat
      rw [hL6] at J6 hBat
      obtain ⟨ss, hss⟩ : ∃ ss, sumB RR = ss := ⟨_, rfl⟩
      rw [hss] at J6
      have JS : Hid (∀ W u, Ints W u RR → Calls Try.prog 77 #[u] W fun e W' => e = .returned (.int .i64 ss) ∧ W = W') := Lib.hid fun W u hu => by have := spec_l2Sum u RR W hu hRo; rwa [hss] at this
      have HRR := Lib.hid hRR
      have HBat := Lib.hid hBat
      have Ix := Lib.hid hi1
      clear hBat a1' hi1 hRR hL2 hL3 hL4 hL5 hL6 hss hsb hRo I2 I3
      have c2' := x1.cell 2
      have c3 := x1.cell 3
      have c4 := x1.cell 4
      have bdr : Below w1.heap.size w1 w1.drew := below_drewN (Below.refl _ _) 1
      have bdrA : Below w1.heap.size w1 (w1.alloc (.cells #[.int .i64 2, .int .i64 prod, .int .i64 epoch] 3)).drew := Bstep (alloc_below' _ _) (below_drewN (Below.refl _ _) 1)
      have HS : Hid (∀ W, Below w1.heap.size w1 W → W.cell? ⟨A, 2, none⟩ = some (.int .i64 prod) ∧ W.cell? ⟨A, 3, none⟩ = some (.int .i64 epoch) ∧ W.cell? ⟨A, 4, none⟩ = some (.int .i64 seq)) := Lib.hid fun W hW => by
        have y := x1.belowS hW
        exact ⟨y.cell 2, y.cell 3, y.cell 4⟩
      have S1 := HS.out _ bdr
      have S1a := HS.out _ bdrA
      have ownL := (own_lit3 w1 w1.heap.size 2 prod epoch (Nat.le_refl _)).below (w' := (w1.alloc (.cells #[.int .i64 2, .int .i64 prod, .int .i64 epoch] 3)).drew) (below_drewN (Below.refl _ _) 1)
      have hln : [(2 : Int), prod, epoch].length + L2.length < 10000000000 := by rw [hL2n]; simp
      have hla : ([(2 : Int), prod, epoch] ++ L2).length + L3.length < 10000000000 := by simp only [List.length_append, List.length_cons, List.length_nil, hL2n, hL3n]; omega
      have hlb : ([(2 : Int), prod, epoch] ++ L2 ++ L3).length + [(recs.length : Int), 0, 0].length < 10000000000 := by simp only [List.length_append, List.length_cons, List.length_nil, hL2n, hL3n]; omega
      have hlc : ([(2 : Int), prod, epoch] ++ L2 ++ L3 ++ [(recs.length : Int), 0, 0]).length + PB.length < 10000000000 := by simp only [List.length_append, List.length_cons, List.length_nil, hL2n, hL3n]; omega
      have hld : L4.length + L5.length < 10000000000 := by omega
      have hle : (L4 ++ L5).length + L6.length < 10000000000 := by simp only [List.length_append]; omega
      have hlf : (L4 ++ L5 ++ L6).length + RR.length < 10000000000 := by simp only [List.length_append]; omega
      go_cut [5] from 19 to 28 (fun s5 wc => Own wc w1.heap.size s5 ([2, prod, epoch] ++ L2) ∧ Below w1.heap.size w1 wc)
      case first =>
        go_region_held3 (fun W => W.cell? ⟨A, 2, none⟩ = some (.int .i64 prod) ∧ W.cell? ⟨A, 3, none⟩ = some (.int .i64 epoch) ∧ W.cell? ⟨A, 4, none⟩ = some (.int .i64 seq)) (first | with_reducible exact S1 | with_reducible exact S1a | with_reducible exact hS2 | with_reducible exact hS2a | with_reducible exact hS3 | go_keep)
          (first
            | (go_at_call 76; ((with_reducible refine (J2.out _).mono ?_); rintro x W2 ⟨v27, rfl, own27, b27⟩; have B27 : Below w1.heap.size w1 W2 := (by first | with_reducible exact Bstep bdr b27 | with_reducible exact Bstep bdrA b27); have hS2 := HS.out W2 B27; have hS2a := HS.out _ (Bstep B27 (alloc_below' W2 (.cells #[.int .i64 2, .int .i64 prod, .int .i64 epoch] 3)))))
            | (refine step_appI rfl (.tmp 24) (.tmp 27) rfl w1.heap.size (.slice (some ⟨w1.heap.size, 0, none⟩) 3 3) v27 [2, prod, epoch] L2 rfl rfl (ownL.below b27) own27.ints hln B27.size ?_; intro v28 W3 own28 g28; have B28 := B27.grown g28 B27.size (ownL.below b27).lt; have hS3 := HS.out W3 B28)
            | (refine step_appI rfl (.tmp 24) (.tmp 27) rfl w1.heap.size (.slice (some ⟨W2.heap.size, 0, none⟩) 3 3) v27 [2, prod, epoch] L2 rfl rfl (own_lit3 W2 w1.heap.size 2 prod epoch B27.size) (own27.below (alloc_below' _ _)).ints hln (Bstep B27 (alloc_below' _ _)).size ?_; intro v28 W3 own28 g28; have B28 := (Bstep B27 (alloc_below' W2 (.cells #[.int .i64 2, .int .i64 prod, .int .i64 epoch] 3))).grown g28 (Bstep B27 (alloc_below' _ _)).size (own_lit3 W2 w1.heap.size 2 prod epoch B27.size).lt; have hS3 := HS.out W3 B28))
        all_goals (go_wp2_with fail; go_meet; exact ⟨own28, B28⟩)
      case rest =>
        obtain ⟨own5, B5⟩ := hcut
        have lN : A ≤ w1.heap.size := Nat.le_of_lt x1.lt
        have x5 := x1.belowS B5
        have a5 := x5.cell 5
        obtain ⟨d0, d1⟩ := HC.out wc (B1.trans (B5.mono lN))
        clear S1 S1a bdr bdrA ownL HS c2' c3 c4 J2
        go_wp2_with fail
        (with_reducible refine (J3.out _).mono ?_)
        rintro e w6 ⟨v6, rfl, own6, b6⟩
        have B6 := Bstep B5 b6
        have own56 := own5.below b6
        clear a5 d0 d1 x5
        go_wp2_with (
          at_builtin
          first
            | (refine wp_appI rfl _ _ rfl w1.heap.size u5 v6 ([2, prod, epoch] ++ L2) L3 rfl rfl own56 own6.ints hla B6.size ?_; intro v7 w7 own7 g7; have B7 := B6.grown g7 B6.size own56.lt; have y7 := x1.belowS B7; have a7 := y7.cell 5)
            | (refine wp_appI rfl _ _ rfl w1.heap.size v7 (.slice (some ⟨w7.heap.size, 0, none⟩) 3 3) ([2, prod, epoch] ++ L2 ++ L3) [(recs.length : Int), 0, 0] rfl rfl (own7.below (alloc_below' _ _)) (own_lit3 w7 w1.heap.size (recs.length : Int) 0 0 B7.size).ints hlb (Bstep B7 (alloc_below' _ _)).size ?_; intro v8 w8 own8 g8; have B8 := (Bstep B7 (alloc_below' w7 (.cells #[.int .i64 (recs.length : Int), .int .i64 0, .int .i64 0] 3))).grown g8 (Bstep B7 (alloc_below' _ _)).size own7.lt)
            | (refine wp_appI rfl _ _ rfl w1.heap.size v8 v1 ([2, prod, epoch] ++ L2 ++ L3 ++ [(recs.length : Int), 0, 0]) PB rfl rfl own8 (Ix.out.below B8) hlc B8.size ?_; intro v9 w9 own9 g9; have B9 := B8.grown g9 B8.size own8.lt; have y9 := x1.belowS B9; have a9 := y9.cell 5; obtain ⟨d0, d1⟩ := HC.out w9 (B1.trans (B9.mono lN)); rw [HRR.out] at own9; obtain ⟨p9, q9, rfl, hl9, hm9, hc9⟩ := id own9.ints; clear hc9))
        (with_reducible refine (J4.out _).mono ?_)
        rintro e w10 ⟨v10, rfl, own10, b10⟩
        clear a7 a9 d0 d1 y7 y9 own7 own8 g7 g8 g9 own6 own56 own5
        go_wp2_with fail
        (with_reducible refine (J5.out _).mono ?_)
        rintro e w11 ⟨v11, rfl, own11, b11⟩
        have own10' := own10.below b11
        have B11 := Bstep b10 b11
        go_wp2_with (at_builtin; refine wp_appI rfl _ _ rfl w9.heap.size v10 v11 L4 L5 rfl rfl own10' own11.ints hld B11.size ?_; intro v12 w12 own12 g12; have B12 := B11.grown g12 B11.size own10'.lt)
        (with_reducible refine (JS.out _ _ (own9.below B12).ints).mono ?_)
        rintro e w12' ⟨rfl, rfl⟩
        go_wp2_with fail
        (with_reducible refine (J6.out _).mono ?_)
        rintro e w13 ⟨v13, rfl, own13, b13⟩
        have B13 := Bstep B12 b13
        have own12' := own12.below b13
        go_wp2_with (
          at_builtin
          first
            | (refine wp_appI rfl _ _ rfl w9.heap.size v12 v13 (L4 ++ L5) L6 rfl rfl own12' own13.ints hle B13.size ?_; intro v14 w14 own14 g14; have B14 := B13.grown g14 B13.size own12'.lt)
            | (refine wp_appI rfl _ _ rfl w9.heap.size v14 (.slice p9 RR.length q9) (L4 ++ L5 ++ L6) RR rfl rfl own14 (own9.below B14).ints hlf B14.size ?_; intro v15 w15 own15 g15; have B15 := B14.grown g15 B14.size own14.lt))
        go_ret
        rw [← HBat.out] at own15
        have e1 : A ≤ w9.heap.size := Nat.le_trans lN B9.size
        exact ⟨_, rfl, own15.base (by rw [HA.out]; exact e1), by rw [HA.out]; exact (B1.trans (B9.mono lN)).trans (B15.mono e1)⟩
  · rcases mark with _ | _
    · go_wp2_with fail
      (with_reducible refine (C2.out w1 v1 hi1).mono ?_)
      rintro e w2 ⟨v2, rfl, own2, b2⟩
      have x2 := x1.belowS b2
      have B2 : Below A w w2 := B1.trans (b2.mono (Nat.le_of_lt x1.lt))
      have hi2 := own2.ints
      clear a0 a1'
      have a1' := x2.cell 1
      go_upto_region 8 with (fail)
      obtain ⟨hRl, hRo, hPl, hBat⟩ := HFin.out 1 (packP (bodyB recs)) (by rw [HF.out]; rfl) (by rw [HP.out]; rfl)
      rw [HT.out] at hBat
      obtain ⟨PB, hPB⟩ : ∃ PB, packP (bodyB recs) = PB := ⟨_, rfl⟩
      rw [hPB] at hRl hRo hPl hBat hi2
      clear hPB HP HF HFin HT C2
      obtain ⟨L2, hL2⟩ : ∃ L2, sfx 2 seq = L2 := ⟨_, rfl⟩
      have hL2n : L2.length = 2 := by rw [← hL2]; exact sfx_len _ _
      obtain ⟨L3, hL3⟩ : ∃ L3, sfx 3 rt = L3 := ⟨_, rfl⟩
      have hL3n : L3.length = 3 := by rw [← hL3]; exact sfx_len _ _
      obtain ⟨L4, hL4⟩ : ∃ L4, sfx 3 ro = L4 := ⟨_, rfl⟩
      have hL4n : L4.length = 3 := by rw [← hL4]; exact sfx_len _ _
      rw [hL2, hL3] at hRl hRo
      rw [hL2, hL3, hL4] at hBat
      obtain ⟨RR, hRR⟩ : ∃ RR, [1, prod, epoch] ++ L2 ++ L3 ++ [(recs.length : Int), 0, 0] ++ PB = RR := ⟨_, rfl⟩
      rw [hRR] at hRl hRo hBat
      have hsb := sumB_bound RR
      have J2 := Lib.hid fun W => I2.out W seq s0 (by omega)
      have J3 := Lib.hid fun W => I3.out W rt t0 (by omega)
      have J4 := Lib.hid fun W => I3.out W ro o0 (by omega)
      have J5 := Lib.hid fun W => I2.out W (RR.length : Int) (by omega) (by omega)
      have J6 := Lib.hid fun W => I2.out W (sumB RR) (by omega) (by omega)
      obtain ⟨L5, hL5⟩ : ∃ L5, sfx 2 (RR.length : Int) = L5 := ⟨_, rfl⟩
      have hL5n : L5.length = 2 := by rw [← hL5]; exact sfx_len _ _
      obtain ⟨L6, hL6⟩ : ∃ L6, sfx 2 (sumB RR) = L6 := ⟨_, rfl⟩
      have hL6n : L6.length = 2 := by rw [← hL6]; exact sfx_len _ _
      rw [hL2] at J2
      rw [hL3] at J3
      rw [hL4] at J4
      rw [hL5] at J5 hBat
      rw [hL6] at J6 hBat
      obtain ⟨ss, hss⟩ : ∃ ss, sumB RR = ss := ⟨_, rfl⟩
      rw [hss] at J6
      have JS : Hid (∀ W u, Ints W u RR → Calls Try.prog 77 #[u] W fun e W' => e = .returned (.int .i64 ss) ∧ W = W') := Lib.hid fun W u hu => by have := spec_l2Sum u RR W hu hRo; rwa [hss] at this
      have HRR := Lib.hid hRR
      have HBat := Lib.hid hBat
      have Ix := Lib.hid hi2
      clear hBat a1' hi2 hRR hL2 hL3 hL4 hL5 hL6 hss hsb hRo I2 I3
      have c2' := x2.cell 2
      have c3 := x2.cell 3
      have c4 := x2.cell 4
      have bdr : Below w2.heap.size w2 w2.drew := below_drewN (Below.refl _ _) 1
      have bdrA : Below w2.heap.size w2 (w2.alloc (.cells #[.int .i64 1, .int .i64 prod, .int .i64 epoch] 3)).drew := Bstep (alloc_below' _ _) (below_drewN (Below.refl _ _) 1)
      have HS : Hid (∀ W, Below w2.heap.size w2 W → W.cell? ⟨A, 2, none⟩ = some (.int .i64 prod) ∧ W.cell? ⟨A, 3, none⟩ = some (.int .i64 epoch) ∧ W.cell? ⟨A, 4, none⟩ = some (.int .i64 seq)) := Lib.hid fun W hW => by
        have y := x2.belowS hW
        exact ⟨y.cell 2, y.cell 3, y.cell 4⟩
      have S1 := HS.out _ bdr
      have S1a := HS.out _ bdrA
      have ownL := (own_lit3 w2 w2.heap.size 1 prod epoch (Nat.le_refl _)).below (w' := (w2.alloc (.cells #[.int .i64 1, .int .i64 prod, .int .i64 epoch] 3)).drew) (below_drewN (Below.refl _ _) 1)
      have hln : [(1 : Int), prod, epoch].length + L2.length < 10000000000 := by rw [hL2n]; simp
      have hla : ([(1 : Int), prod, epoch] ++ L2).length + L3.length < 10000000000 := by simp only [List.length_append, List.length_cons, List.length_nil, hL2n, hL3n]; omega
      have hlb : ([(1 : Int), prod, epoch] ++ L2 ++ L3).length + [(recs.length : Int), 0, 0].length < 10000000000 := by simp only [List.length_append, List.length_cons, List.length_nil, hL2n, hL3n]; omega
      have hlc : ([(1 : Int), prod, epoch] ++ L2 ++ L3 ++ [(recs.length : Int), 0, 0]).length + PB.length < 10000000000 := by simp only [List.length_append, List.length_cons, List.length_nil, hL2n, hL3n]; omega
      have hld : L4.length + L5.length < 10000000000 := by omega
      have hle : (L4 ++ L5).length + L6.length < 10000000000 := by simp only [List.length_append]; omega
      have hlf : (L4 ++ L5 ++ L6).length + RR.length < 10000000000 := by simp only [List.length_append]; omega
      go_cut [5] from 19 to 28 (fun s5 wc => Own wc w2.heap.size s5 ([1, prod, epoch] ++ L2) ∧ Below w2.heap.size w2 wc)
      case first =>
        go_region_held3 (fun W => W.cell? ⟨A, 2, none⟩ = some (.int .i64 prod) ∧ W.cell? ⟨A, 3, none⟩ = some (.int .i64 epoch) ∧ W.cell? ⟨A, 4, none⟩ = some (.int .i64 seq)) (first | with_reducible exact S1 | with_reducible exact S1a | with_reducible exact hS2 | with_reducible exact hS2a | with_reducible exact hS3 | go_keep)
          (first
            | (go_at_call 76; ((with_reducible refine (J2.out _).mono ?_); rintro x W2 ⟨v27, rfl, own27, b27⟩; have B27 : Below w2.heap.size w2 W2 := (by first | with_reducible exact Bstep bdr b27 | with_reducible exact Bstep bdrA b27); have hS2 := HS.out W2 B27; have hS2a := HS.out _ (Bstep B27 (alloc_below' W2 (.cells #[.int .i64 1, .int .i64 prod, .int .i64 epoch] 3)))))
            | (refine step_appI rfl (.tmp 24) (.tmp 27) rfl w2.heap.size (.slice (some ⟨w2.heap.size, 0, none⟩) 3 3) v27 [1, prod, epoch] L2 rfl rfl (ownL.below b27) own27.ints hln B27.size ?_; intro v28 W3 own28 g28; have B28 := B27.grown g28 B27.size (ownL.below b27).lt; have hS3 := HS.out W3 B28)
            | (refine step_appI rfl (.tmp 24) (.tmp 27) rfl w2.heap.size (.slice (some ⟨W2.heap.size, 0, none⟩) 3 3) v27 [1, prod, epoch] L2 rfl rfl (own_lit3 W2 w2.heap.size 1 prod epoch B27.size) (own27.below (alloc_below' _ _)).ints hln (Bstep B27 (alloc_below' _ _)).size ?_; intro v28 W3 own28 g28; have B28 := (Bstep B27 (alloc_below' W2 (.cells #[.int .i64 1, .int .i64 prod, .int .i64 epoch] 3))).grown g28 (Bstep B27 (alloc_below' _ _)).size (own_lit3 W2 w2.heap.size 1 prod epoch B27.size).lt; have hS3 := HS.out W3 B28))
        all_goals (go_wp2_with fail; go_meet; exact ⟨own28, B28⟩)
      case rest =>
        obtain ⟨own5, B5⟩ := hcut
        have lN : A ≤ w2.heap.size := Nat.le_of_lt x2.lt
        have x5 := x2.belowS B5
        have a5 := x5.cell 5
        obtain ⟨d0, d1⟩ := HC.out wc (B2.trans (B5.mono lN))
        clear S1 S1a bdr bdrA ownL HS c2' c3 c4 J2
        go_wp2_with fail
        (with_reducible refine (J3.out _).mono ?_)
        rintro e w6 ⟨v6, rfl, own6, b6⟩
        have B6 := Bstep B5 b6
        have own56 := own5.below b6
        clear a5 d0 d1 x5
        go_wp2_with (
          at_builtin
          first
            | (refine wp_appI rfl _ _ rfl w2.heap.size u5 v6 ([1, prod, epoch] ++ L2) L3 rfl rfl own56 own6.ints hla B6.size ?_; intro v7 w7 own7 g7; have B7 := B6.grown g7 B6.size own56.lt; have y7 := x2.belowS B7; have a7 := y7.cell 5)
            | (refine wp_appI rfl _ _ rfl w2.heap.size v7 (.slice (some ⟨w7.heap.size, 0, none⟩) 3 3) ([1, prod, epoch] ++ L2 ++ L3) [(recs.length : Int), 0, 0] rfl rfl (own7.below (alloc_below' _ _)) (own_lit3 w7 w2.heap.size (recs.length : Int) 0 0 B7.size).ints hlb (Bstep B7 (alloc_below' _ _)).size ?_; intro v8 w8 own8 g8; have B8 := (Bstep B7 (alloc_below' w7 (.cells #[.int .i64 (recs.length : Int), .int .i64 0, .int .i64 0] 3))).grown g8 (Bstep B7 (alloc_below' _ _)).size own7.lt)
            | (refine wp_appI rfl _ _ rfl w2.heap.size v8 v2 ([1, prod, epoch] ++ L2 ++ L3 ++ [(recs.length : Int), 0, 0]) PB rfl rfl own8 (Ix.out.below B8) hlc B8.size ?_; intro v9 w9 own9 g9; have B9 := B8.grown g9 B8.size own8.lt; have y9 := x2.belowS B9; have a9 := y9.cell 5; obtain ⟨d0, d1⟩ := HC.out w9 (B2.trans (B9.mono lN)); rw [HRR.out] at own9; obtain ⟨p9, q9, rfl, hl9, hm9, hc9⟩ := id own9.ints; clear hc9))
        (with_reducible refine (J4.out _).mono ?_)
        rintro e w10 ⟨v10, rfl, own10, b10⟩
        clear a7 a9 d0 d1 y7 y9 own7 own8 g7 g8 g9 own6 own56 own5
        go_wp2_with fail
        (with_reducible refine (J5.out _).mono ?_)
        rintro e w11 ⟨v11, rfl, own11, b11⟩
        have own10' := own10.below b11
        have B11 := Bstep b10 b11
        go_wp2_with (at_builtin; refine wp_appI rfl _ _ rfl w9.heap.size v10 v11 L4 L5 rfl rfl own10' own11.ints hld B11.size ?_; intro v12 w12 own12 g12; have B12 := B11.grown g12 B11.size own10'.lt)
        (with_reducible refine (JS.out _ _ (own9.below B12).ints).mono ?_)
        rintro e w12' ⟨rfl, rfl⟩
        go_wp2_with fail
        (with_reducible refine (J6.out _).mono ?_)
        rintro e w13 ⟨v13, rfl, own13, b13⟩
        have B13 := Bstep B12 b13
        have own12' := own12.below b13
        go_wp2_with (
          at_builtin
          first
            | (refine wp_appI rfl _ _ rfl w9.heap.size v12 v13 (L4 ++ L5) L6 rfl rfl own12' own13.ints hle B13.size ?_; intro v14 w14 own14 g14; have B14 := B13.grown g14 B13.size own12'.lt)
            | (refine wp_appI rfl _ _ rfl w9.heap.size v14 (.slice p9 RR.length q9) (L4 ++ L5 ++ L6) RR rfl rfl own14 (own9.below B14).ints hlf B14.size ?_; intro v15 w15 own15 g15; have B15 := B14.grown g15 B14.size own14.lt))
        go_ret
        rw [← HBat.out] at own15
        have e1 : A ≤ w9.heap.size := Nat.le_trans lN B9.size
        exact ⟨_, rfl, own15.base (by rw [HA.out]; exact e1), by rw [HA.out]; exact (B2.trans (B9.mono lN)).trans (B15.mono e1)⟩
    · go_wp2_with fail
      (with_reducible refine (C2.out w1 v1 hi1).mono ?_)
      rintro e w2 ⟨v2, rfl, own2, b2⟩
      have x2 := x1.belowS b2
      have B2 : Below A w w2 := B1.trans (b2.mono (Nat.le_of_lt x1.lt))
      have hi2 := own2.ints
      clear a0 a1'
      have a1' := x2.cell 1
      go_upto_region 8 with (fail)
      obtain ⟨hRl, hRo, hPl, hBat⟩ := HFin.out 3 (packP (bodyB recs)) (by rw [HF.out]; rfl) (by rw [HP.out]; rfl)
      rw [HT.out] at hBat
      obtain ⟨PB, hPB⟩ : ∃ PB, packP (bodyB recs) = PB := ⟨_, rfl⟩
      rw [hPB] at hRl hRo hPl hBat hi2
      clear hPB HP HF HFin HT C2
      obtain ⟨L2, hL2⟩ : ∃ L2, sfx 2 seq = L2 := ⟨_, rfl⟩
      have hL2n : L2.length = 2 := by rw [← hL2]; exact sfx_len _ _
      obtain ⟨L3, hL3⟩ : ∃ L3, sfx 3 rt = L3 := ⟨_, rfl⟩
      have hL3n : L3.length = 3 := by rw [← hL3]; exact sfx_len _ _
      obtain ⟨L4, hL4⟩ : ∃ L4, sfx 3 ro = L4 := ⟨_, rfl⟩
      have hL4n : L4.length = 3 := by rw [← hL4]; exact sfx_len _ _
      rw [hL2, hL3] at hRl hRo
      rw [hL2, hL3, hL4] at hBat
      obtain ⟨RR, hRR⟩ : ∃ RR, [3, prod, epoch] ++ L2 ++ L3 ++ [(recs.length : Int), 0, 0] ++ PB = RR := ⟨_, rfl⟩
      rw [hRR] at hRl hRo hBat
      have hsb := sumB_bound RR
      have J2 := Lib.hid fun W => I2.out W seq s0 (by omega)
      have J3 := Lib.hid fun W => I3.out W rt t0 (by omega)
      have J4 := Lib.hid fun W => I3.out W ro o0 (by omega)
      have J5 := Lib.hid fun W => I2.out W (RR.length : Int) (by omega) (by omega)
      have J6 := Lib.hid fun W => I2.out W (sumB RR) (by omega) (by omega)
      obtain ⟨L5, hL5⟩ : ∃ L5, sfx 2 (RR.length : Int) = L5 := ⟨_, rfl⟩
      have hL5n : L5.length = 2 := by rw [← hL5]; exact sfx_len _ _
      obtain ⟨L6, hL6⟩ : ∃ L6, sfx 2 (sumB RR) = L6 := ⟨_, rfl⟩
      have hL6n : L6.length = 2 := by rw [← hL6]; exact sfx_len _ _
      rw [hL2] at J2
      rw [hL3] at J3
      rw [hL4] at J4
      rw [hL5] at J5 hBat
      rw [hL6] at J6 hBat
      obtain ⟨ss, hss⟩ : ∃ ss, sumB RR = ss := ⟨_, rfl⟩
      rw [hss] at J6
      have JS : Hid (∀ W u, Ints W u RR → Calls Try.prog 77 #[u] W fun e W' => e = .returned (.int .i64 ss) ∧ W = W') := Lib.hid fun W u hu => by have := spec_l2Sum u RR W hu hRo; rwa [hss] at this
      have HRR := Lib.hid hRR
      have HBat := Lib.hid hBat
      have Ix := Lib.hid hi2
      clear hBat a1' hi2 hRR hL2 hL3 hL4 hL5 hL6 hss hsb hRo I2 I3
      have c2' := x2.cell 2
      have c3 := x2.cell 3
      have c4 := x2.cell 4
      have bdr : Below w2.heap.size w2 w2.drew := below_drewN (Below.refl _ _) 1
      have bdrA : Below w2.heap.size w2 (w2.alloc (.cells #[.int .i64 3, .int .i64 prod, .int .i64 epoch] 3)).drew := Bstep (alloc_below' _ _) (below_drewN (Below.refl _ _) 1)
      have HS : Hid (∀ W, Below w2.heap.size w2 W → W.cell? ⟨A, 2, none⟩ = some (.int .i64 prod) ∧ W.cell? ⟨A, 3, none⟩ = some (.int .i64 epoch) ∧ W.cell? ⟨A, 4, none⟩ = some (.int .i64 seq)) := Lib.hid fun W hW => by
        have y := x2.belowS hW
        exact ⟨y.cell 2, y.cell 3, y.cell 4⟩
      have S1 := HS.out _ bdr
      have S1a := HS.out _ bdrA
      have ownL := (own_lit3 w2 w2.heap.size 3 prod epoch (Nat.le_refl _)).below (w' := (w2.alloc (.cells #[.int .i64 3, .int .i64 prod, .int .i64 epoch] 3)).drew) (below_drewN (Below.refl _ _) 1)
      have hln : [(3 : Int), prod, epoch].length + L2.length < 10000000000 := by rw [hL2n]; simp
      have hla : ([(3 : Int), prod, epoch] ++ L2).length + L3.length < 10000000000 := by simp only [List.length_append, List.length_cons, List.length_nil, hL2n, hL3n]; omega
      have hlb : ([(3 : Int), prod, epoch] ++ L2 ++ L3).length + [(recs.length : Int), 0, 0].length < 10000000000 := by simp only [List.length_append, List.length_cons, List.length_nil, hL2n, hL3n]; omega
      have hlc : ([(3 : Int), prod, epoch] ++ L2 ++ L3 ++ [(recs.length : Int), 0, 0]).length + PB.length < 10000000000 := by simp only [List.length_append, List.length_cons, List.length_nil, hL2n, hL3n]; omega
      have hld : L4.length + L5.length < 10000000000 := by omega
      have hle : (L4 ++ L5).length + L6.length < 10000000000 := by simp only [List.length_append]; omega
      have hlf : (L4 ++ L5 ++ L6).length + RR.length < 10000000000 := by simp only [List.length_append]; omega
      go_cut [5] from 19 to 28 (fun s5 wc => Own wc w2.heap.size s5 ([3, prod, epoch] ++ L2) ∧ Below w2.heap.size w2 wc)
      case first =>
        go_region_held3 (fun W => W.cell? ⟨A, 2, none⟩ = some (.int .i64 prod) ∧ W.cell? ⟨A, 3, none⟩ = some (.int .i64 epoch) ∧ W.cell? ⟨A, 4, none⟩ = some (.int .i64 seq)) (first | with_reducible exact S1 | with_reducible exact S1a | with_reducible exact hS2 | with_reducible exact hS2a | with_reducible exact hS3 | go_keep)
          (first
            | (go_at_call 76; ((with_reducible refine (J2.out _).mono ?_); rintro x W2 ⟨v27, rfl, own27, b27⟩; have B27 : Below w2.heap.size w2 W2 := (by first | with_reducible exact Bstep bdr b27 | with_reducible exact Bstep bdrA b27); have hS2 := HS.out W2 B27; have hS2a := HS.out _ (Bstep B27 (alloc_below' W2 (.cells #[.int .i64 3, .int .i64 prod, .int .i64 epoch] 3)))))
            | (refine step_appI rfl (.tmp 24) (.tmp 27) rfl w2.heap.size (.slice (some ⟨w2.heap.size, 0, none⟩) 3 3) v27 [3, prod, epoch] L2 rfl rfl (ownL.below b27) own27.ints hln B27.size ?_; intro v28 W3 own28 g28; have B28 := B27.grown g28 B27.size (ownL.below b27).lt; have hS3 := HS.out W3 B28)
            | (refine step_appI rfl (.tmp 24) (.tmp 27) rfl w2.heap.size (.slice (some ⟨W2.heap.size, 0, none⟩) 3 3) v27 [3, prod, epoch] L2 rfl rfl (own_lit3 W2 w2.heap.size 3 prod epoch B27.size) (own27.below (alloc_below' _ _)).ints hln (Bstep B27 (alloc_below' _ _)).size ?_; intro v28 W3 own28 g28; have B28 := (Bstep B27 (alloc_below' W2 (.cells #[.int .i64 3, .int .i64 prod, .int .i64 epoch] 3))).grown g28 (Bstep B27 (alloc_below' _ _)).size (own_lit3 W2 w2.heap.size 3 prod epoch B27.size).lt; have hS3 := HS.out W3 B28))
        all_goals (go_wp2_with fail; go_meet; exact ⟨own28, B28⟩)
      case rest =>
        obtain ⟨own5, B5⟩ := hcut
        have lN : A ≤ w2.heap.size := Nat.le_of_lt x2.lt
        have x5 := x2.belowS B5
        have a5 := x5.cell 5
        obtain ⟨d0, d1⟩ := HC.out wc (B2.trans (B5.mono lN))
        clear S1 S1a bdr bdrA ownL HS c2' c3 c4 J2
        go_wp2_with fail
        (with_reducible refine (J3.out _).mono ?_)
        rintro e w6 ⟨v6, rfl, own6, b6⟩
        have B6 := Bstep B5 b6
        have own56 := own5.below b6
        clear a5 d0 d1 x5
        go_wp2_with (
          at_builtin
          first
            | (refine wp_appI rfl _ _ rfl w2.heap.size u5 v6 ([3, prod, epoch] ++ L2) L3 rfl rfl own56 own6.ints hla B6.size ?_; intro v7 w7 own7 g7; have B7 := B6.grown g7 B6.size own56.lt; have y7 := x2.belowS B7; have a7 := y7.cell 5)
            | (refine wp_appI rfl _ _ rfl w2.heap.size v7 (.slice (some ⟨w7.heap.size, 0, none⟩) 3 3) ([3, prod, epoch] ++ L2 ++ L3) [(recs.length : Int), 0, 0] rfl rfl (own7.below (alloc_below' _ _)) (own_lit3 w7 w2.heap.size (recs.length : Int) 0 0 B7.size).ints hlb (Bstep B7 (alloc_below' _ _)).size ?_; intro v8 w8 own8 g8; have B8 := (Bstep B7 (alloc_below' w7 (.cells #[.int .i64 (recs.length : Int), .int .i64 0, .int .i64 0] 3))).grown g8 (Bstep B7 (alloc_below' _ _)).size own7.lt)
            | (refine wp_appI rfl _ _ rfl w2.heap.size v8 v2 ([3, prod, epoch] ++ L2 ++ L3 ++ [(recs.length : Int), 0, 0]) PB rfl rfl own8 (Ix.out.below B8) hlc B8.size ?_; intro v9 w9 own9 g9; have B9 := B8.grown g9 B8.size own8.lt; have y9 := x2.belowS B9; have a9 := y9.cell 5; obtain ⟨d0, d1⟩ := HC.out w9 (B2.trans (B9.mono lN)); rw [HRR.out] at own9; obtain ⟨p9, q9, rfl, hl9, hm9, hc9⟩ := id own9.ints; clear hc9))
        (with_reducible refine (J4.out _).mono ?_)
        rintro e w10 ⟨v10, rfl, own10, b10⟩
        clear a7 a9 d0 d1 y7 y9 own7 own8 g7 g8 g9 own6 own56 own5
        go_wp2_with fail
        (with_reducible refine (J5.out _).mono ?_)
        rintro e w11 ⟨v11, rfl, own11, b11⟩
        have own10' := own10.below b11
        have B11 := Bstep b10 b11
        go_wp2_with (at_builtin; refine wp_appI rfl _ _ rfl w9.heap.size v10 v11 L4 L5 rfl rfl own10' own11.ints hld B11.size ?_; intro v12 w12 own12 g12; have B12 := B11.grown g12 B11.size own10'.lt)
        (with_reducible refine (JS.out _ _ (own9.below B12).ints).mono ?_)
        rintro e w12' ⟨rfl, rfl⟩
        go_wp2_with fail
        (with_reducible refine (J6.out _).mono ?_)
        rintro e w13 ⟨v13, rfl, own13, b13⟩
        have B13 := Bstep B12 b13
        have own12' := own12.below b13
        go_wp2_with (
          at_builtin
          first
            | (refine wp_appI rfl _ _ rfl w9.heap.size v12 v13 (L4 ++ L5) L6 rfl rfl own12' own13.ints hle B13.size ?_; intro v14 w14 own14 g14; have B14 := B13.grown g14 B13.size own12'.lt)
            | (refine wp_appI rfl _ _ rfl w9.heap.size v14 (.slice p9 RR.length q9) (L4 ++ L5 ++ L6) RR rfl rfl own14 (own9.below B14).ints hlf B14.size ?_; intro v15 w15 own15 g15; have B15 := B14.grown g15 B14.size own14.lt))
        go_ret
        rw [← HBat.out] at own15
        have e1 : A ≤ w9.heap.size := Nat.le_trans lN B9.size
        exact ⟨_, rfl, own15.base (by rw [HA.out]; exact e1), by rw [HA.out]; exact (B2.trans (B9.mono lN)).trans (B15.mono e1)⟩
-- W5j

end Go.Proofs.Ytfapeppocfodpaa
