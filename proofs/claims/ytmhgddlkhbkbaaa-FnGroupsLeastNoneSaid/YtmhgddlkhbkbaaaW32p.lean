/- Chapter 32: a group is put, by the model. -/
import Derived.Test.YtmhgddlkhbkbaaaW32d
import Derived.Test.YtmhgddlkhbkbaaaW32b
namespace Go.Proofs.Ytmhgddlkhbkbaaa
open Go.ChangeShapes Go.WideShapes Go.ChangeAt Go.RowKit
set_option linter.unusedVariables false

/-- the row behind a group that was looked at -/
def putA (now : Bool) (pre : List Trm) (g : Trm) : List Trm := if now = true then pre ++ [g] else pre
def putB (eqb : Bool) (a : List Trm) (t : Trm) : List Trm := if eqb = true then a else a ++ [t]
theorem name_beq (a b : ByteArray) : (a.toList == b.toList) = decide (a = b) := by
  by_cases h : a = b
  · subst h; simp
  · rw [decide_eq_false h, beq_eq_false_iff_ne]; exact fun e => h (name_ext e)
theorem putK_step {ts : List Trm} {g : Trm} {k : Nat} {pre : List Trm} {dn lo eqb : Bool} {t : Trm} (h : putK ts g k = (pre, dn)) (ht : tAt ts k = t) (h1 : bl t.name g.name = lo) (h2 : (t.name.toList == g.name.toList) = eqb) :
    putK ts g (k + 1) = (putB eqb (putA (!dn && !lo) pre g) t, dn || (!dn && !lo)) := by
  show (if (tAt ts k).name = g.name then (if (!(putK ts g k).2 && !bl (tAt ts k).name g.name) = true then (putK ts g k).1 ++ [g] else (putK ts g k).1) else (if (!(putK ts g k).2 && !bl (tAt ts k).name g.name) = true then (putK ts g k).1 ++ [g] else (putK ts g k).1) ++ [tAt ts k], (putK ts g k).2 || (!(putK ts g k).2 && !bl (tAt ts k).name g.name)) = _
  rw [h, ht, h1]
  rw [name_beq] at h2
  unfold putB putA
  by_cases e : t.name = g.name
  · rw [decide_eq_true e] at h2
    subst h2
    rw [if_pos e]
    simp
  · rw [decide_eq_false e] at h2
    subst h2
    rw [if_neg e]
    simp
theorem putK_len (ts : List Trm) (g : Trm) (k : Nat) : (putK ts g k).1.length ≤ 2 * k := by
  induction k with
  | zero => exact Nat.le_refl _
  | succ k ih =>
    rw [putK_step (pre := (putK ts g k).1) (dn := (putK ts g k).2) rfl rfl rfl rfl]
    unfold putB putA
    split <;> split <;> simp <;> omega
theorem putOk_bad {ts : List Trm} {g : Trm} (h : tsOk ts = false ∨ termOk g = false ∨ 8 < (putR ts g).length) : putOk ts g = false ∧ putL ts g = [] := by
  have : putOk ts g = false := by
    unfold putOk
    rcases h with h | h | h
    · rw [h]; rfl
    · rw [h]; simp
    · rw [decide_eq_false (by omega)]; simp
  exact ⟨this, by unfold putL; rw [if_neg (by rw [this]; simp)]⟩
theorem putOk_good {ts : List Trm} {g : Trm} (h1 : tsOk ts = true) (h2 : termOk g = true) (h3 : (putR ts g).length ≤ 8) : putOk ts g = true ∧ putL ts g = putR ts g := by
  have : putOk ts g = true := by
    unfold putOk
    rw [h1, h2, decide_eq_true h3]
    rfl
  exact ⟨this, by unfold putL; rw [if_pos this]⟩
/-- the cells that are read -/
def PutT (W : World) (b q X : Nat) (t g : Trm) : Prop := W.cell? ⟨b, q, none⟩ = some (.string t.name) ∧ W.cell? ⟨b, q + 1, none⟩ = some (.int .i64 t.next) ∧ W.cell? ⟨X, 0, none⟩ = some (.string g.name) ∧ W.cell? ⟨X, 1, none⟩ = some (.int .i64 g.next)
def BoxT (W : World) (X : Nat) (g : Trm) : Prop := W.cell? ⟨X, 0, none⟩ = some (.string g.name) ∧ W.cell? ⟨X, 1, none⟩ = some (.int .i64 g.next)

set_option maxHeartbeats 4000000 in
set_option maxRecDepth 100000 in
theorem spec_GroupsPut (v : Value) (ts : List Trm) (g : Trm) (w : World) (h : Ts w v ts) : Calls Try.prog 13 #[v, .agg #[.string g.name, .int .i64 g.next]] w (NewT w (putL ts g) (putOk ts g)) := by
  have hv := h
  obtain ⟨a, cap, rfl, hl, hm, hc⟩ := h
  unfold maxLen at hm
  clear hc
  have bX := alloc_below' w (.cells #[.string g.name, .int .i64 g.next] 25)
  have xX := Blk.made w #[.string g.name, .int .i64 g.next] 25
  have hsw : (w.alloc (.cells #[.string g.name, .int .i64 g.next] 25)).heap.size = w.heap.size + 1 := by simp
  go_enter Try.func13, Try.ntmps13
  go_upto_region 1 with (fail)
  generalize hwb : w.alloc (.cells #[.string g.name, .int .i64 g.next] 25) = wb at bX xX hsw ⊢
  clear hwb
  obtain ⟨X, hX⟩ : ∃ X, w.heap.size = X := ⟨_, rfl⟩
  rw [hX] at xX hsw ⊢
  have HX := Lib.hid hX
  clear hX
  have hvb := hv.below bX
  have HB : Hid (∀ W, Below wb.heap.size wb W → BoxT W X g) := Lib.hid fun W hW => ⟨(xX.belowS hW).cell 0, (xX.belowS hW).cell 1⟩
  have C1 := Lib.hid (spec_GroupsValid _ ts wb hvb)
  have C2 : Hid (∀ W, Calls Try.prog 35 #[.agg #[.string g.name, .int .i64 g.next]] W (Same W (termOk g))) := fun W => spec_l32Group g W
  have HO : Hid (X ≤ wb.heap.size) := Lib.hid (by omega)
  obtain ⟨okb, hok⟩ : ∃ okb, tsOk ts = okb := ⟨_, rfl⟩
  rw [hok] at C1
  cases okb with
  | false =>
    have Q := Lib.hid (putOk_bad (g := g) (.inl hok))
    clear hok hv
    go_wp2_with fail
    refine C1.out.mono ?_
    rintro e w1 ⟨rfl, b1⟩
    have hs : w.heap.size ≤ w1.heap.size := by have := b1.size; have := HO.out; have := HX.out; omega
    have bE := alloc_below' w1 (.cells #[] 25)
    go_wp2_with fail
    go_ret2
    exact NewT.mk' rfl Q.out.1 Q.out.2 (own_emptyT w1 w.heap.size hs) (Bstep (Bstep bX b1) bE)
  | true =>
  obtain ⟨okg, hog⟩ : ∃ okg, termOk g = okg := ⟨_, rfl⟩
  rw [hog] at C2
  cases okg with
  | false =>
    have Q := Lib.hid (putOk_bad (ts := ts) (.inr (.inl hog)))
    clear hok hog hv
    have HB' := Lib.hid (fun W h => (HB.out W h).1)
    have HB2 := Lib.hid (fun W h => (HB.out W h).2)
    go_wp2_with fail
    refine C1.out.mono ?_
    rintro e w1 ⟨rfl, b1⟩
    have z0 := HB'.out w1 b1
    have z1 := HB2.out w1 b1
    go_wp2_with fail
    refine (C2.out w1).mono ?_
    rintro e w2 ⟨rfl, b2⟩
    have B2 := Bstep b1 b2
    have hs : w.heap.size ≤ w2.heap.size := by have := B2.size; have := HO.out; have := HX.out; omega
    have bE := alloc_below' w2 (.cells #[] 25)
    go_wp2_with fail
    go_ret2
    exact NewT.mk' rfl Q.out.1 Q.out.2 (own_emptyT w2 w.heap.size hs) (Bstep (Bstep bX B2) bE)
  | true =>
  have hn8 := (tsOk_iff.1 hok).1
  have HBAD : Hid (8 < (putR ts g).length → putOk ts g = false ∧ putL ts g = []) := Lib.hid fun h => putOk_bad (.inr (.inr h))
  have HGOOD : Hid ((putR ts g).length ≤ 8 → putOk ts g = true ∧ putL ts g = putR ts g) := Lib.hid fun h => putOk_good hok hog h
  clear hok hog hv
  have HB' := Lib.hid (fun W h => (HB.out W h).1)
  have HB2 := Lib.hid (fun W h => (HB.out W h).2)
  go_wp2_with fail
  refine C1.out.mono ?_
  rintro e w1 ⟨rfl, b1⟩
  have z0 := HB'.out w1 b1
  have z1 := HB2.out w1 b1
  go_wp2_with fail
  refine (C2.out w1).mono ?_
  rintro e w2 ⟨rfl, b2⟩
  have B2 := Bstep b1 b2
  have hs2 : wb.heap.size ≤ w2.heap.size := B2.size
  have bE := Bstep B2 (alloc_below' w2 (.cells #[] 25))
  have own0 := own_emptyT w2 wb.heap.size hs2
  clear z0 z1 b1 b2 B2 C1 C2
  go_wp2_with fail
  go_loopw [6, 7, 8] (fun u d i wr => ∃ (k : Nat) (pre : List Trm) (dn : Bool), k ≤ ts.length ∧ i = .int .i64 k ∧ d = .bool dn ∧ OwnT wr wb.heap.size u pre ∧ Hid (putK ts g k = (pre, dn)) ∧ Below wb.heap.size wb wr) (fun _ _ i _ => ts.length - (intOf i).toNat)
  case atStart => exact ⟨0, [], false, Nat.zero_le _, rfl, rfl, own0, Lib.hid rfl, bE⟩
  case round =>
    clear own0 bE hs2
    obtain ⟨k, pre, dn, hk, rfl, rfl, hown, hput, bel⟩ := hrel
    have hpl : pre.length ≤ 2 * k := by have := putK_len ts g k; rw [hput.out] at this; exact this
    have hsz : wb.heap.size ≤ wr.heap.size := bel.size
    by_cases hlt : k < ts.length
    · obtain ⟨b, off, cp, e, _, _, _⟩ := hvb.form (by omega)
      simp only [Value.slice.injEq, true_and] at e
      obtain ⟨rfl, rfl⟩ := e
      obtain ⟨c0, c1⟩ := hvb.cells k hlt
      obtain ⟨t, Ht⟩ : ∃ t, Hid (tAt ts k = t) := ⟨_, Lib.hid rfl⟩
      rw [Ht.out] at c0 c1
      have HS : Hid (∀ W, Below wb.heap.size wb W → PutT W b (off + k * 2) X t g) := Lib.hid fun W hW =>
        ⟨(hW.cell (World.block_lt_of_cell? _ _ c0)).trans c0, (hW.cell (World.block_lt_of_cell? _ _ c1)).trans c1, (HB.out W hW).1, (HB.out W hW).2⟩
      have HST : Hid (∀ lo eqb, bl t.name g.name = lo → (t.name.toList == g.name.toList) = eqb → putK ts g (k + 1) = (putB eqb (putA (!dn && !lo) pre g) t, dn || (!dn && !lo))) := Lib.hid fun lo eqb h1 h2 => putK_step hput.out Ht.out h1 h2
      have HIR : Hid (bl t.name g.name = true → (t.name.toList == g.name.toList) = true → False) := Lib.hid fun h1 h2 => bl_ne h1 (name_ext (by simpa using h2))
      obtain ⟨lo, hlo⟩ : ∃ lo, bl t.name g.name = lo := ⟨_, rfl⟩
      obtain ⟨eqb, heq⟩ : ∃ eqb, (t.name.toList == g.name.toList) = eqb := ⟨_, rfl⟩
      have HN := Lib.hid (HST.out lo eqb hlo heq)
      have hno : lo = true → eqb = true → False := by rw [← hlo, ← heq]; exact HIR.out
      have hlo' : Op.bytesLess t.name.toList g.name.toList = lo := hlo
      clear hlo HST HIR Ht c0 c1 hput
      have i0 : (0 : Int) ≤ (k : Int) := by omega
      have i1 : (k : Int) < (ts.length : Int) := by omega
      have S1 := HS.out wr bel
      unfold PutT at S1
      obtain ⟨s0, s1, s2, s3⟩ := S1
      cases dn with
      | true =>
        cases lo with
        | true =>
          obtain rfl : eqb = false := by cases eqb; rfl; exact (hno rfl rfl).elim
          clear hno
          go_wp2_with fail
          go_quiet (fail)
          have own4 := hown.below (below_drewN (Below.refl wr.heap.size wr) nq)
          have bel4 := below_drewN bel nq
          generalize wr.drewN nq = w4 at own4 bel4 ⊢
          have hsw4 : wb.heap.size ≤ w4.heap.size := bel4.size
          have S1 := HS.out w4 bel4
          unfold PutT at S1
          clear s0 s1 s2 s3 hown bel nq
          obtain ⟨s0, s1, s2, s3⟩ := S1
          go_wp2_with fail
          go_quiet (fail)
          have own6 := own4.below (below_drewN (Below.refl w4.heap.size w4) nq)
          have bel6 := below_drewN bel4 nq
          generalize w4.drewN nq = w6 at own6 bel6 ⊢
          have hsw6 : wb.heap.size ≤ w6.heap.size := bel6.size
          have S1 := HS.out w6 bel6
          unfold PutT at S1
          clear s0 s1 s2 s3 own4 bel4 nq
          obtain ⟨s0, s1, s2, s3⟩ := S1
          go_wp2_with (at_builtin; refine wp_appT rfl _ _ rfl wb.heap.size u6 pre t w6.heap.size rfl rfl rfl own6 (by omega) hsw6 ?_; intro g2 cp2 w7 own7 g7; have B7 := bel6.grown g7 hsw6 (fun q hq => (own6.lt q hq).1))
          go_roundw
          case rel => exact ⟨k + 1, _, _, by omega, by go_num, rfl, own7, Lib.hid (by rw [HN.out]; rfl), B7⟩
          case measure => simp [intOf]; omega
        | false =>
          cases eqb with
          | true =>
            clear hno
            go_wp2_with fail
            go_quiet (fail)
            have own4 := hown.below (below_drewN (Below.refl wr.heap.size wr) nq)
            have bel4 := below_drewN bel nq
            generalize wr.drewN nq = w4 at own4 bel4 ⊢
            have hsw4 : wb.heap.size ≤ w4.heap.size := bel4.size
            have S1 := HS.out w4 bel4
            unfold PutT at S1
            clear s0 s1 s2 s3 hown bel nq
            obtain ⟨s0, s1, s2, s3⟩ := S1
            go_wp2_with fail
            go_quiet (fail)
            have own6 := own4.below (below_drewN (Below.refl w4.heap.size w4) nq)
            have bel6 := below_drewN bel4 nq
            generalize w4.drewN nq = w6 at own6 bel6 ⊢
            have hsw6 : wb.heap.size ≤ w6.heap.size := bel6.size
            have S1 := HS.out w6 bel6
            unfold PutT at S1
            clear s0 s1 s2 s3 own4 bel4 nq
            obtain ⟨s0, s1, s2, s3⟩ := S1
            go_wp2_with fail
            go_roundw
            case rel => exact ⟨k + 1, _, _, by omega, by go_num, rfl, own6, Lib.hid (by rw [HN.out]; rfl), bel6⟩
            case measure => simp [intOf]; omega
          | false =>
            clear hno
            go_wp2_with fail
            go_quiet (fail)
            have own4 := hown.below (below_drewN (Below.refl wr.heap.size wr) nq)
            have bel4 := below_drewN bel nq
            generalize wr.drewN nq = w4 at own4 bel4 ⊢
            have hsw4 : wb.heap.size ≤ w4.heap.size := bel4.size
            have S1 := HS.out w4 bel4
            unfold PutT at S1
            clear s0 s1 s2 s3 hown bel nq
            obtain ⟨s0, s1, s2, s3⟩ := S1
            go_wp2_with fail
            go_quiet (fail)
            have own6 := own4.below (below_drewN (Below.refl w4.heap.size w4) nq)
            have bel6 := below_drewN bel4 nq
            generalize w4.drewN nq = w6 at own6 bel6 ⊢
            have hsw6 : wb.heap.size ≤ w6.heap.size := bel6.size
            have S1 := HS.out w6 bel6
            unfold PutT at S1
            clear s0 s1 s2 s3 own4 bel4 nq
            obtain ⟨s0, s1, s2, s3⟩ := S1
            go_wp2_with (at_builtin; refine wp_appT rfl _ _ rfl wb.heap.size u6 pre t w6.heap.size rfl rfl rfl own6 (by omega) hsw6 ?_; intro g2 cp2 w7 own7 g7; have B7 := bel6.grown g7 hsw6 (fun q hq => (own6.lt q hq).1))
            go_roundw
            case rel => exact ⟨k + 1, _, _, by omega, by go_num, rfl, own7, Lib.hid (by rw [HN.out]; rfl), B7⟩
            case measure => simp [intOf]; omega
      | false =>
        cases lo with
        | true =>
          obtain rfl : eqb = false := by cases eqb; rfl; exact (hno rfl rfl).elim
          clear hno
          go_wp2_with fail
          go_quiet (fail)
          have own4 := hown.below (below_drewN (Below.refl wr.heap.size wr) nq)
          have bel4 := below_drewN bel nq
          generalize wr.drewN nq = w4 at own4 bel4 ⊢
          have hsw4 : wb.heap.size ≤ w4.heap.size := bel4.size
          have S1 := HS.out w4 bel4
          unfold PutT at S1
          clear s0 s1 s2 s3 hown bel nq
          obtain ⟨s0, s1, s2, s3⟩ := S1
          go_wp2_with fail
          go_quiet (fail)
          have own6 := own4.below (below_drewN (Below.refl w4.heap.size w4) nq)
          have bel6 := below_drewN bel4 nq
          generalize w4.drewN nq = w6 at own6 bel6 ⊢
          have hsw6 : wb.heap.size ≤ w6.heap.size := bel6.size
          have S1 := HS.out w6 bel6
          unfold PutT at S1
          clear s0 s1 s2 s3 own4 bel4 nq
          obtain ⟨s0, s1, s2, s3⟩ := S1
          go_wp2_with (at_builtin; refine wp_appT rfl _ _ rfl wb.heap.size u6 pre t w6.heap.size rfl rfl rfl own6 (by omega) hsw6 ?_; intro g2 cp2 w7 own7 g7; have B7 := bel6.grown g7 hsw6 (fun q hq => (own6.lt q hq).1))
          go_roundw
          case rel => exact ⟨k + 1, _, _, by omega, by go_num, rfl, own7, Lib.hid (by rw [HN.out]; rfl), B7⟩
          case measure => simp [intOf]; omega
        | false =>
          cases eqb with
          | true =>
            clear hno
            go_wp2_with fail
            go_quiet (fail)
            have own4 := hown.below (below_drewN (Below.refl wr.heap.size wr) nq)
            have bel4 := below_drewN bel nq
            generalize wr.drewN nq = w4 at own4 bel4 ⊢
            have hsw4 : wb.heap.size ≤ w4.heap.size := bel4.size
            have S1 := HS.out w4 bel4
            unfold PutT at S1
            clear s0 s1 s2 s3 hown bel nq
            obtain ⟨s0, s1, s2, s3⟩ := S1
            go_wp2_with (at_builtin; refine wp_appT rfl _ _ rfl wb.heap.size u6 pre g w4.heap.size rfl rfl rfl own4 (by omega) hsw4 ?_; intro g1 cp1 w5 own5 g5; have bel5 := bel4.grown g5 hsw4 (fun q hq => (own4.lt q hq).1); have S5 := HS.out w5 bel5; unfold PutT at S5; obtain ⟨n0, n1, n2, n3⟩ := S5; have hpl5 : (pre ++ [g]).length < 100000000 := (by simp; omega); clear s0 s1 s2 s3 own4 bel4 g5)
            go_quiet (fail)
            have own6 := own5.below (below_drewN (Below.refl w5.heap.size w5) nq)
            have bel6 := below_drewN bel5 nq
            generalize w5.drewN nq = w6 at own6 bel6 ⊢
            have hsw6 : wb.heap.size ≤ w6.heap.size := bel6.size
            have S1 := HS.out w6 bel6
            unfold PutT at S1
            clear n0 n1 n2 n3 own5 bel5 nq
            obtain ⟨s0, s1, s2, s3⟩ := S1
            go_wp2_with fail
            go_roundw
            case rel => exact ⟨k + 1, _, _, by omega, by go_num, rfl, own6, Lib.hid (by rw [HN.out]; rfl), bel6⟩
            case measure => simp [intOf]; omega
          | false =>
            clear hno
            go_wp2_with fail
            go_quiet (fail)
            have own4 := hown.below (below_drewN (Below.refl wr.heap.size wr) nq)
            have bel4 := below_drewN bel nq
            generalize wr.drewN nq = w4 at own4 bel4 ⊢
            have hsw4 : wb.heap.size ≤ w4.heap.size := bel4.size
            have S1 := HS.out w4 bel4
            unfold PutT at S1
            clear s0 s1 s2 s3 hown bel nq
            obtain ⟨s0, s1, s2, s3⟩ := S1
            go_wp2_with (at_builtin; refine wp_appT rfl _ _ rfl wb.heap.size u6 pre g w4.heap.size rfl rfl rfl own4 (by omega) hsw4 ?_; intro g1 cp1 w5 own5 g5; have bel5 := bel4.grown g5 hsw4 (fun q hq => (own4.lt q hq).1); have S5 := HS.out w5 bel5; unfold PutT at S5; obtain ⟨n0, n1, n2, n3⟩ := S5; have hpl5 : (pre ++ [g]).length < 100000000 := (by simp; omega); clear s0 s1 s2 s3 own4 bel4 g5)
            go_quiet (fail)
            have own6 := own5.below (below_drewN (Below.refl w5.heap.size w5) nq)
            have bel6 := below_drewN bel5 nq
            generalize w5.drewN nq = w6 at own6 bel6 ⊢
            have hsw6 : wb.heap.size ≤ w6.heap.size := bel6.size
            have S1 := HS.out w6 bel6
            unfold PutT at S1
            clear n0 n1 n2 n3 own5 bel5 nq
            obtain ⟨s0, s1, s2, s3⟩ := S1
            go_wp2_with (at_builtin; refine wp_appT rfl _ _ rfl wb.heap.size (.slice (some ⟨g1, 0, none⟩) (pre.length + 1) cp1) (pre ++ [g]) t w6.heap.size rfl rfl rfl own6 hpl5 hsw6 ?_; intro g2 cp2 w7 own7 g7; have B7 := bel6.grown g7 hsw6 (fun q hq => (own6.lt q hq).1))
            go_roundw
            case rel => exact ⟨k + 1, _, _, by omega, by go_num, rfl, (by have q := own7; rw [List.length_append] at q; exact q), Lib.hid (by rw [HN.out]; rfl), B7⟩
            case measure => simp [intOf]; omega
    · obtain rfl : k = ts.length := by omega
      cases dn with
      | true =>
        have HR : Hid (putR ts g = pre) := Lib.hid (by unfold putR; rw [hput.out]; rfl)
        by_cases hgt : 8 < pre.length
        · have Q := Lib.hid (HBAD.out (by rw [HR.out]; exact hgt))
          have dg : decide ((8 : Int) < (pre.length : Int)) = true := decide_eq_true (by omega)
          have dgn : decide (8 < pre.length) = true := decide_eq_true hgt
          obtain ⟨a1, c1, rfl⟩ := hown.form'
          have hs : w.heap.size ≤ wr.heap.size := by have := HO.out; have := HX.out; omega
          have bE := alloc_below' wr (.cells #[] 25)
          clear HBAD HGOOD
          go_wp2_with fail
          go_ret2
          exact NewT.mk' rfl Q.out.1 Q.out.2 (own_emptyT wr w.heap.size hs) (Bstep (Bstep bX bel) bE)
        · have Q := Lib.hid (HGOOD.out (by rw [HR.out]; omega))
          have Q2 := Lib.hid (Q.out.2.trans HR.out)
          have dg : decide ((8 : Int) < (pre.length : Int)) = false := decide_eq_false (by omega)
          have dgn : decide (8 < pre.length) = false := decide_eq_false hgt
          obtain ⟨a1, c1, rfl⟩ := hown.form'
          have hs : w.heap.size ≤ wb.heap.size := by have := HO.out; have := HX.out; omega
          clear HBAD HGOOD
          go_wp2_with fail
          go_ret2
          exact NewT.mk' rfl Q.out.1 Q2.out (hown.base hs) (Bstep bX bel)
      | false =>
        have HR : Hid (putR ts g = pre ++ [g]) := Lib.hid (by unfold putR; rw [hput.out]; rfl)
        have S1 := HB.out wr bel
        unfold BoxT at S1
        obtain ⟨s0, s1⟩ := S1
        have hs : w.heap.size ≤ wb.heap.size := by have := HO.out; have := HX.out; omega
        by_cases hgt : 8 < pre.length + 1
        · have Q := Lib.hid (HBAD.out (by rw [HR.out]; simpa using hgt))
          have dg : decide ((8 : Int) < (pre.length : Int) + 1) = true := decide_eq_true (by omega)
          have dgn : decide (8 < pre.length + 1) = true := decide_eq_true hgt
          clear HBAD HGOOD
          go_wp2_with (at_builtin; refine wp_appT rfl _ _ rfl wb.heap.size u6 pre g wr.heap.size rfl rfl rfl hown (by omega) hsz ?_; intro g1 cp1 w5 own5 g5; have B5 := bel.grown g5 hsz (fun q hq => (hown.lt q hq).1))
          go_ret2
          exact NewT.mk' rfl Q.out.1 Q.out.2 (own_emptyT w5 w.heap.size (Nat.le_trans hs B5.size)) (Bstep (Bstep bX B5) (alloc_below' w5 (.cells #[] 25)))
        · have Q := Lib.hid (HGOOD.out (by rw [HR.out]; simp; omega))
          have Q2 := Lib.hid (Q.out.2.trans HR.out)
          have dg : decide ((8 : Int) < (pre.length : Int) + 1) = false := decide_eq_false (by omega)
          have dgn : decide (8 < pre.length + 1) = false := decide_eq_false hgt
          clear HBAD HGOOD
          go_wp2_with (at_builtin; refine wp_appT rfl _ _ rfl wb.heap.size u6 pre g wr.heap.size rfl rfl rfl hown (by omega) hsz ?_; intro g1 cp1 w5 own5 g5; have B5 := bel.grown g5 hsz (fun q hq => (hown.lt q hq).1))
          go_ret2
          exact NewT.mk' rfl Q.out.1 Q2.out (own5.base hs) (Bstep bX B5)
end Go.Proofs.Ytmhgddlkhbkbaaa
