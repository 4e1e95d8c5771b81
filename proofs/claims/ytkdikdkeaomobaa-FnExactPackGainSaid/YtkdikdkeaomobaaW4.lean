/- Chapter 4: how the program undoes packed forms. -/
import Derived.Test.YtkdikdkeaomobaaP4b
import Derived.Test.YtkdikdkeaomobaaB1
import Derived.Deep.Cut
namespace Go.Proofs.Ytkdikdkeaomobaa
open Go.ChangeShapes Go.WideShapes Go.ChangeAt Go.RowKit
set_option linter.unusedVariables false

/-- numbers of the call's own, grown from others -/
def AppRes (w : World) (base : Nat) (ys : List Int) (e : Ending) (w' : World) : Prop := ∃ v, e = .returned v ∧ Own w' base v ys ∧ Below base w w'

theorem impl_withRepeated (v : Value) (out : List Int) (back many base : Nat) (w : World) (h : Own w base v out) (hb : base ≤ w.heap.size) (b1 : 1 ≤ back) (b2 : back ≤ out.length) (hl : out.length ≤ 10000) (hm : many ≤ 100) :
    Calls Try.prog 45 #[v, .int .i64 (back : Int), .int .i64 (many : Int)] w (AppRes w base (repF many out back)) := by
  obtain ⟨R, hR⟩ : ∃ R, repF many out back = R := ⟨_, rfl⟩
  rw [hR]
  have HR := Lib.hid hR
  clear hR
  go_enter Try.func45, Try.ntmps45
  go_wp2
  go_loopw [0, 8] (fun u i wr => ∃ (k : Nat) (cur : List Int), i = .int .i64 k ∧ k ≤ many ∧ cur.length = out.length + k ∧ Own wr base u cur ∧ Hid (repF (many - k) cur back = R) ∧ Below base w wr) (fun _ i _ => many - (intOf i).toNat)
  case atStart => exact ⟨0, out, rfl, Nat.zero_le _, rfl, h, HR, Below.refl _ _⟩
  case round =>
    obtain ⟨k, cur, rfl, hk, hcl, hown, hrep, hbel⟩ := hrel
    have hsz := Nat.le_trans hb hbel.size
    by_cases hlt : k < many
    · obtain ⟨g, cap, rfl⟩ := hown.form (by omega)
      have hcell := hown.ints.cell (cur.length - back) (by omega)
      rw [Nat.zero_add] at hcell
      obtain ⟨q, hq⟩ : ∃ q, cur.length - back = q := ⟨_, rfl⟩
      obtain ⟨x, hx⟩ : ∃ x, cur.getD (cur.length - back) 0 = x := ⟨_, rfl⟩
      rw [hq] at hx
      rw [hq, hx] at hcell
      have hs := hown.ints.sizes
      have hs2 := hs.2.1
      have hs3 := hs.2.2
      unfold maxLen at hs3
      have s1 : IntKind.i64.wrap ((cur.length : Int) - (back : Int)) = (q : Int) := by rw [← hq]; rw [IntWalk.i64_in _ ⟨by omega, by omega⟩]; omega
      have s2 : (cur.length : Int) - (back : Int) = (q : Int) := by omega
      have q1 : (q : Int) < (cur.length : Int) := by omega
      have q2 : (0 : Int) ≤ (q : Int) := by omega
      have HX := Lib.hid hx
      have HQ := Lib.hid hq
      have HC := Lib.hid hcl
      have hc2 : cur.length ≤ 20000 := by omega
      clear hx hq hcl hs
      go_wp2_with (at_builtin; refine wp_app1 rfl _ _ rfl base (.slice (some ⟨g, 0, none⟩) cur.length cap) cur _ rfl rfl hown (by omega) hsz ?_; intro v2 w1 own1 g1 hv1)
      go_roundw
      case rel =>
        refine ⟨k + 1, cur ++ [x], by go_num, by omega, by rw [List.length_append, List.length_singleton, HC.out]; omega, own1, ?_, hbel.grown g1 hsz hown.lt⟩
        have hr := hrep.out
        rw [show many - k = (many - (k + 1)) + 1 by omega] at hr
        unfold repF at hr
        rw [HQ.out, HX.out] at hr
        exact hr
      case measure => simp [intOf]; omega
    · obtain rfl : k = many := by omega
      have hr := hrep.out
      rw [Nat.sub_self] at hr
      have e : cur = R := hr
      clear hr
      subst e
      go_wp2
      go_ret
      exact ⟨_, rfl, hown, hbel⟩

/-- the first piece of a form: what has come with it, and how many bytes it has -/
def pieceP (form out : List Int) : Option (List Int × Nat) :=
  match form with
  | [] => none
  | x :: rest =>
    if x < 64 then (if rest.length < x.toNat + 1 then none else some (out ++ rest.take (x.toNat + 1), x.toNat + 2))
    else if x < 128 then
      (match rest with
       | [] => none
       | y :: _ => if y < 1 then none else if (out.length : Int) < y then none else some (repF (x - 61).toNat out y.toNat, 2))
    else none
theorem unpackG_piece {form out : List Int} (h : form ≠ []) : unpackG form out = match pieceP form out with
    | none => none
    | some (out2, k) => if 200 < out2.length then none else unpackG (form.drop k) out2 := by
  cases form with
  | nil => exact absurd rfl h
  | cons x rest =>
    unfold pieceP
    conv => lhs; unfold unpackG; rw [List.length_cons]; unfold unpackF
    simp only
    split
    · split
      · rfl
      · simp only
        split
        · rfl
        · exact unpackF_more _ _ _ _ (by rw [List.length_drop]; omega) (by rw [List.drop_succ_cons]; exact Nat.le_refl _)
    · split
      · cases rest with
        | nil => rfl
        | cons y rest2 =>
          simp only
          split
          · rfl
          · split
            · rfl
            · simp only [repF_len]
              split
              · rfl
              · exact unpackF_more _ _ _ _ (by simp) (Nat.le_refl _)
      · rfl
theorem pieceP_size {form out out2 : List Int} {k : Nat} (h : pieceP form out = some (out2, k)) (hok : okBs form = true) : 2 ≤ k ∧ k ≤ form.length ∧ out2.length ≤ out.length + 66 ∧ k ≤ 300 := by
  unfold pieceP at h
  split at h
  · cases h
  · rename_i x rest
    have hx := (okB_cons.1 hok).1
    split at h
    · split at h
      · cases h
      · simp only [Option.some.injEq, Prod.mk.injEq] at h
        obtain ⟨rfl, rfl⟩ := h
        simp only [List.length_append, List.length_take, List.length_cons]
        omega
    · split at h
      · split at h
        · cases h
        · split at h
          · cases h
          · split at h
            · cases h
            · simp only [Option.some.injEq, Prod.mk.injEq] at h
              obtain ⟨rfl, rfl⟩ := h
              rw [repF_len]
              simp only [List.length_cons]
              omega
      · cases h
def PieceRes (w : World) (base : Nat) (v : Value) (g : Option (List Int × Nat)) (e : Ending) (w' : World) : Prop :=
  match g with
  | none => e = .returned (.tuple #[v, .int .i64 0]) ∧ w = w'
  | some (ys, k) => ∃ u, e = .returned (.tuple #[u, .int .i64 (k : Int)]) ∧ Own w' base u ys ∧ Below base w w'

theorem impl_withPiece (v u : Value) (out form : List Int) (base : Nat) (w : World) (h : Own w base v out) (hf : Ints w u form) (hb : base ≤ w.heap.size) (hl : out.length ≤ 1000) (hne : form ≠ []) (hok : okBs form = true) (hfl : form.length ≤ 2000000) :
    Calls Try.prog 36 #[v, u] w (PieceRes w base v (pieceP form out)) := by
  obtain ⟨x, rest, rfl⟩ : ∃ x rest, form = x :: rest := by
    cases form with
    | nil => exact absurd rfl hne
    | cons x rest => exact ⟨x, rest, rfl⟩
  obtain ⟨⟨x0, x1⟩, hok2⟩ := okB_cons.1 hok
  obtain ⟨p, rfl⟩ := Int.eq_ofNat_of_zero_le x0
  have hf2 := hf
  obtain ⟨b, off, cap, rfl, l1, m1, c0⟩ := hf.cons2
  unfold maxLen at m1
  simp only [List.length_cons] at hfl
  have hv := h
  obtain ⟨av, capv, rfl, lv, mv, _⟩ := h.ints
  unfold maxLen at mv
  unfold pieceP
  simp only
  have e0 := c0 0 (by omega)
  rw [Nat.add_zero] at e0
  have e0' : w.cell? ⟨b, off, none⟩ = some (.int .i64 (p : Int)) := e0
  clear e0
  by_cases hp : (p : Int) < 64
  · rw [if_pos hp]
    have d0 : decide ((p : Int) + 1 ≤ 64) = true := decide_eq_true (by omega)
    rw [Int.toNat_natCast]
    by_cases hr : rest.length < p + 1
    · rw [if_pos hr]
      have d1 : decide ((rest.length : Int) + 1 < 1 + ((p : Int) + 1)) = true := decide_eq_true (by omega)
      clear c0 hf hf2 hv h
      go_enter Try.func36, Try.ntmps36
      go_wp2_with fail
      go_ret2
      exact ⟨rfl, rfl⟩
    · rw [if_neg hr]
      have d1 : decide ((rest.length : Int) + 1 < 1 + ((p : Int) + 1)) = false := decide_eq_false (by omega)
      obtain ⟨us, hu, iu⟩ := run_part hf2 1 (p + 1) (by omega)
      have hu' : ∀ W, (Instr.slice 23 (.slice (some ⟨b, off, none⟩) (rest.length + 1) cap) (some (.int .i64 1)) (some (.int .i64 (1 + ((p : Int) + 1)))) none).run Try.prog W = .ok us W := hu
      have iu2 := iu w hf2
      rw [show ((p : Int) :: rest).drop 1 = rest from rfl] at iu2
      have ht : (rest.take (p + 1)).length = p + 1 := by rw [List.length_take]; omega
      obtain ⟨ys, hys⟩ : ∃ ys, rest.take (p + 1) = ys := ⟨_, rfl⟩
      rw [hys] at iu2 ht ⊢
      have hyl : ys.length ≤ 64 := by omega
      clear c0 hf hf2 hu iu hys ht
      go_enter Try.func36, Try.ntmps36
      go_wp2_with (at_builtin; refine wp_appI rfl _ _ rfl base (.slice av out.length capv) us out ys rfl rfl hv iu2 (by omega) hb ?_; intro v2 w2 own2 g2)
      go_ret2
      exact ⟨v2, by rw [show ((p + 2 : Nat) : Int) = 1 + ((p : Int) + 1) by omega]; rfl, own2, (Below.refl _ _).grown g2 hb hv.lt⟩
  · rw [if_neg hp]
    have d0 : decide ((p : Int) + 1 ≤ 64) = false := decide_eq_false (by omega)
    by_cases hq : (p : Int) < 128
    · rw [if_pos hq]
      have d1 : decide (66 < (p : Int) - 61) = false := decide_eq_false (by omega)
      rw [show ((p : Int) - 61).toNat = p - 61 by omega]
      have hqe : ((p - 61 : Nat) : Int) = (p : Int) - 61 := by omega
      obtain ⟨q, hq2⟩ : ∃ q : Nat, p - 61 = q := ⟨_, rfl⟩
      have hq66 : q ≤ 66 := by omega
      rw [hq2] at hqe ⊢
      have HQ := Lib.hid hqe
      clear hqe hq2
      cases rest with
      | nil =>
        clear c0 hf hf2 hv h
        go_enter Try.func36, Try.ntmps36
        go_wp2_with fail
        go_ret2
        exact ⟨rfl, rfl⟩
      | cons y rest2 =>
        have hy := (okB_cons.1 hok2).1
        have e1 : w.cell? ⟨b, off + 1, none⟩ = some (.int .i64 y) := c0 1 (by simp)
        simp only [List.length_cons] at hfl l1 ⊢
        have d2 : decide ((rest2.length : Int) + 1 + 1 < 2) = false := decide_eq_false (by omega)
        clear c0 hf
        by_cases hy1 : y < 1
        · rw [if_pos hy1]
          have d3 : decide (y < 1) = true := decide_eq_true hy1
          clear hf2 hv h
          go_enter Try.func36, Try.ntmps36
          go_wp2_with fail
          go_ret2
          exact ⟨rfl, rfl⟩
        · rw [if_neg hy1]
          have d3 : decide (y < 1) = false := decide_eq_false hy1
          by_cases hy2 : (out.length : Int) < y
          · rw [if_pos hy2]
            have d4 : decide ((out.length : Int) < y) = true := decide_eq_true hy2
            clear hf2 hv h
            go_enter Try.func36, Try.ntmps36
            go_wp2_with fail
            go_ret2
            exact ⟨rfl, rfl⟩
          · rw [if_neg hy2]
            have d4 : decide ((out.length : Int) < y) = false := decide_eq_false hy2
            obtain ⟨y, rfl⟩ := Int.eq_ofNat_of_zero_le hy.1
            have C1' := impl_withRepeated (.slice av out.length capv) out y q base w hv hb (by omega) (by omega) (by omega) (by omega)
            rw [HQ.out] at C1'
            have C1 := Lib.hid C1'
            clear C1'
            rw [Int.toNat_natCast]
            obtain ⟨R, hR⟩ : ∃ R, repF q out y = R := ⟨_, rfl⟩
            rw [hR] at C1 ⊢
            clear hR hf2 hv h
            go_enter Try.func36, Try.ntmps36
            go_wp2_with fail
            refine C1.out.mono ?_
            rintro e w1 ⟨u1, rfl, own1, b1⟩
            go_wp2_with fail
            go_ret2
            exact ⟨_, rfl, own1, b1⟩
    · rw [if_neg hq]
      have d1 : decide (66 < (p : Int) - 61) = true := decide_eq_true (by omega)
      clear c0 hf hf2 hv h
      go_enter Try.func36, Try.ntmps36
      go_wp2_with fail
      go_ret2
      exact ⟨rfl, rfl⟩

/-- what unpacking answers -/
def unpI (form : List Int) : List Int := (unpackP form).getD []
def unpB (form : List Int) : Bool := okBs form && (unpackP form).isSome
def unpL (form : List Int) : List Int := if okBs form = true then unpI form else []
set_option maxHeartbeats 1000000 in
theorem impl_UnpackBytes (v : Value) (form : List Int) (w : World) (h : Ints w v form) (hfl : form.length ≤ 2000000) :
    Calls Try.prog 17 #[v] w (NewInts w (unpL form) (unpB form)) := by
  have C1 := Lib.hid (impl_areBytes v form w h)
  cases hok : okBs form with
  | false =>
    rw [hok] at C1
    rw [show unpL form = [] by unfold unpL; rw [hok]; rfl, show unpB form = false by unfold unpB; rw [hok]; rfl]
    clear hok
    go_enter Try.func17, Try.ntmps17
    go_wp2_with fail
    refine C1.out.mono ?_
    rintro e w1 ⟨rfl, rfl⟩
    go_wp2_with fail
    go_ret2
    exact ⟨_, rfl, own_nil _ _, Below.refl _ _⟩
  | true =>
    rw [hok] at C1
    have hU : unpackG form [] = unpackP form := rfl
    have e1 : unpL form = (unpackP form).getD [] := by unfold unpL unpI; rw [hok]; rfl
    have e2 : unpB form = (unpackP form).isSome := by unfold unpB; rw [hok]; rfl
    obtain ⟨R, hR⟩ : ∃ R, unpackP form = R := ⟨_, rfl⟩
    rw [hR] at hU e1 e2
    have E1 := Lib.hid e1
    have E2 := Lib.hid e2
    have HU := Lib.hid hU
    have HOK := Lib.hid hok
    clear hR hU e1 e2 hok
    have hv := h
    obtain ⟨a, cap, rfl, l1, m1, _⟩ := hv
    have own0 := own_empty w w.heap.size (Nat.le_refl _)
    have b0 := alloc_below' w (.cells #[] 3)
    go_enter Try.func17, Try.ntmps17
    go_wp2_with fail
    refine C1.out.mono ?_
    rintro e w1 ⟨rfl, rfl⟩
    go_wp2_with fail
    go_loopw [0, 4, 5, 13] (fun u r sz tp wr => ∃ (form2 cur : List Int), Ints w u form2 ∧ Hid (okBs form2 = true) ∧ form2.length ≤ 2000000 ∧ cur.length ≤ 200 ∧ Own wr w.heap.size r cur ∧ Hid (unpackG form2 cur = R) ∧ Below w.heap.size w wr) (fun u _ _ _ _ => match u with | .slice _ n _ => n | _ => 0)
    case atStart => exact ⟨form, [], h, HOK, hfl, by simp, own0, HU, b0⟩
    case round =>
      obtain ⟨form2, cur, if2, hok2, hfl2, hcl, hown, hu, hbel⟩ := hrel
      by_cases hne : form2 = []
      · subst hne
        have hu2 := hu.out
        rw [unpackG_nil] at hu2
        obtain ⟨a2, cap2, rfl, l2, m2, _⟩ := if2
        have F1 : Hid (unpL form = cur) := Lib.hid (by rw [E1.out, ← hu2]; rfl)
        have F2 : Hid (unpB form = true) := Lib.hid (by rw [E2.out, ← hu2]; rfl)
        clear hu2 E1 E2
        go_wp2_with fail
        go_ret2
        rw [F1.out, F2.out]
        exact ⟨_, rfl, hown, hbel⟩
      · have hlt : 0 < form2.length := List.length_pos_iff.2 hne
        have hif := if2.below hbel
        have hsz := hbel.size
        have C2' := impl_withPiece _ _ cur form2 w.heap.size wr hown hif hsz (by omega) hne hok2.out hfl2
        have hps : ∀ out2 k, pieceP form2 cur = some (out2, k) → 2 ≤ k ∧ k ≤ form2.length ∧ out2.length ≤ cur.length + 66 ∧ k ≤ 300 := fun out2 k hk => pieceP_size hk hok2.out
        have hup := unpackG_piece (out := cur) hne
        rw [hu.out] at hup
        obtain ⟨g, hg⟩ : ∃ g, pieceP form2 cur = g := ⟨_, rfl⟩
        rw [hg] at C2' hup hps
        have C2 := Lib.hid C2'
        obtain ⟨a2, cap2, rfl, l2, m2, _⟩ := id if2
        unfold maxLen at m2
        have hown2 := hown
        obtain ⟨a3, cap3, rfl, l3, m3, _⟩ := hown.ints
        unfold maxLen at m3
        clear C2' hg hne hown hu hif
        cases g with
        | none =>
          have F1 : Hid (unpL form = []) := Lib.hid (by rw [E1.out, hup]; rfl)
          have F2 : Hid (unpB form = false) := Lib.hid (by rw [E2.out, hup]; rfl)
          clear hup hps E1 E2
          go_wp2_with fail
          refine C2.out.mono ?_
          rintro e w2 ⟨rfl, rfl⟩
          go_wp2_with fail
          go_ret2
          rw [F1.out, F2.out]
          exact ⟨_, rfl, own_nil _ _, hbel⟩
        | some g =>
          obtain ⟨ys, k⟩ := g
          obtain ⟨k1, k2, k3, k4⟩ := hps ys k rfl
          have dk : ((k : Int) == 0) = false := by rw [beq_eq_false_iff_ne]; omega
          by_cases hbig : 200 < ys.length
          · have d5 : decide ((200 : Int) < (ys.length : Int)) = true := decide_eq_true (by omega)
            have d6 : decide (200 < ys.length) = true := decide_eq_true hbig
            simp only [if_pos hbig] at hup
            have F1 : Hid (unpL form = []) := Lib.hid (by rw [E1.out, hup]; rfl)
            have F2 : Hid (unpB form = false) := Lib.hid (by rw [E2.out, hup]; rfl)
            clear hup hps E1 E2
            go_wp2_with fail
            refine C2.out.mono ?_
            rintro e w2 ⟨u2, rfl, own2, b2⟩
            obtain ⟨a4, cap4, rfl, l4, m4, _⟩ := own2.ints
            unfold maxLen at m4
            go_wp2_with fail
            go_ret2
            rw [F1.out, F2.out]
            exact ⟨_, rfl, own_nil _ _, hbel.trans b2⟩
          · have d5 : decide ((200 : Int) < (ys.length : Int)) = false := decide_eq_false (by omega)
            have d6 : decide (200 < ys.length) = false := decide_eq_false hbig
            simp only [if_neg hbig] at hup
            have HUP := Lib.hid hup
            obtain ⟨a5, cap5, hs, is⟩ := run_from if2 k k2
            have is2 := is w if2
            have hok3 : Hid (okBs (form2.drop k) = true) := Lib.hid (okBs_drop hok2.out k)
            have hdl : (form2.drop k).length = form2.length - k := List.length_drop
            have HDL := Lib.hid hdl
            clear hup hps hdl is if2
            go_wp2_with fail
            refine C2.out.mono ?_
            rintro e w2 ⟨u2, rfl, own2, b2⟩
            obtain ⟨a4, cap4, rfl, l4, m4, _⟩ := own2.ints
            unfold maxLen at m4
            go_wp2_with fail
            go_roundw
            case rel => exact ⟨form2.drop k, ys, is2, hok3, by rw [HDL.out]; omega, by omega, own2, Lib.hid HUP.out.symm, hbel.trans b2⟩
            case measure => simp; omega
end Go.Proofs.Ytkdikdkeaomobaa
