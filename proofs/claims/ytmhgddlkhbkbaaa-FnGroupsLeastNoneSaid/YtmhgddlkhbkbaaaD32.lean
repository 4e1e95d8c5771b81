/- Chapter 32: groups are drawn. -/
import Derived.Test.YtmhgddlkhbkbaaaDA
import Derived.Test.YtmhgddlkhbkbaaaW32p
namespace Go.Proofs.Ytmhgddlkhbkbaaa
open Go.ChangeShapes Go.WideShapes Go.ChangeAt Go.RowKit
set_option linter.unusedVariables false

def ShortB (ts : List Trm) : Prop := ts.length ≤ 8 ∧ True
def TermsRes (w : World) (B c : Nat) (e : Ending) (w' : World) : Prop := ∃ v ts, e = .returned v ∧ OwnT w' w.heap.size v ts ∧ ShortB ts ∧ Rd w' B (c + 40) ∧ w.grownBy w' (some B)
theorem Rd.byT {w w' : World} {B c base : Nat} {v : Value} {ts : List Trm} (h : Rd w B c) (hown : OwnT w base v ts) (hB : B < base) (hg : w.grownBy w' v.ownBlock) : Rd w' B c :=
  h.keep fun b hb => hg.block b (Nat.lt_of_le_of_lt hb h.lt) fun e => by have := (hown.lt b e.symm).1; omega
theorem grown_rowT {a b c : World} {B base : Nat} {v : Value} {ts : List Trm} (h : a.grownBy b (some B)) (hown : OwnT b base v ts) (hb : a.heap.size ≤ base) (k : b.grownBy c v.ownBlock) : a.grownBy c (some B) :=
  ⟨k.os.trans h.os, k.tape.trans h.tape, k.output.trans h.output, Nat.le_trans h.size k.size, fun i hi hne => (k.block i (Nat.lt_of_lt_of_le hi h.size) fun e => by have := (hown.lt i e.symm).1; omega).trans (h.block i hi hne)⟩

/-- the name of a term of a row is stored -/
theorem OwnT.store0 {w : World} {base g n cap : Nat} {ts ss : List Trm} (h : OwnT w base (.slice (some ⟨g, 0, none⟩) n cap) ts) (i : Nat) (hi : i < ts.length) (t : Trm) (hl : ss.length = ts.length)
    (hat : tAt ss i = t) (hnx : t.next = (tAt ts i).next) (hne : ∀ j, j < ts.length → j ≠ i → tAt ss j = tAt ts j) :
    OwnT (w.setCell ⟨g, i * 2, none⟩ (.string t.name)) base (.slice (some ⟨g, 0, none⟩) n cap) ss ∧ w.grownBy (w.setCell ⟨g, i * 2, none⟩ (.string t.name)) (some g) := by
  have hn : n = ts.length := h.ts.sizes.1
  subst hn
  have h' : Row2 w base (.slice (some ⟨g, 0, none⟩) ts.length cap) ts.length (rowT ts) := h
  refine ⟨?_, cell_grown _ _ _ _⟩
  unfold OwnT
  rw [hl]
  refine (h'.set (i * 2) (by omega) (.string t.name)).congr fun j hj => ?_
  by_cases e1 : j = i * 2
  · subst e1
    rw [if_pos rfl, rowT_0, hat]
  · rw [if_neg e1]
    by_cases e0 : j = i * 2 + 1
    · subst e0
      rw [rowT_1, rowT_1, hat, hnx]
    · exact (rowT_eq (hne (j / 2) (by omega) (by omega))).symm

/-- a row of strings -/
def StrsAt (w : World) (b n : Nat) (f : Nat → ByteArray) : Prop := ∀ i, i < n → w.cell? ⟨b, i, none⟩ = some (.string (f i))
def OfRes (w : World) (B c n : Nat) (f : Nat → ByteArray) (e : Ending) (w' : World) : Prop := ∃ k, k < n ∧ e = .returned (.string (f k)) ∧ Rd w' B (c + 1) ∧ w.grownBy w' (some B)
theorem spec_of (B c b n : Nat) (f : Nat → ByteArray) (w : World) (h : Rd w B c) (hc : c ≤ 900000000) (hf : StrsAt w b n f) (hn0 : 0 < n) (hn : n ≤ 1000) (hbB : b ≠ B) :
    Calls Try.prog 30 #[.pointer (some ⟨B, 0, none⟩), .slice (some ⟨b, 0, none⟩) n n] w (OfRes w B c n f) := by
  have hnI : (n : Int) ≤ 1000 := by omega
  have hnp : (0 : Int) < (n : Int) := by omega
  go_enter Try.func30, Try.ntmps30
  go_wp2_with fail
  refine (spec_pick B c (n : Int) w h (by omega) (by omega) (by omega)).mono ?_
  rintro e w1 ⟨k, rfl, hk, hR1, g1⟩
  have hkn : k < n := by omega
  have c0 := hf k hkn
  have c1 : w1.cell? ⟨b, k, none⟩ = some (.string (f k)) := (World.cell?_of_block (g1.block b (World.block_lt_of_cell? (a := ⟨b, k, none⟩) w c0) (fun e => hbB (by simpa using e)))).trans c0
  obtain ⟨s, hs⟩ : ∃ s, f k = s := ⟨_, rfl⟩
  have Hs := Lib.hid hs
  rw [hs] at c1
  have i0 : (0 : Int) ≤ (k : Int) := by omega
  have i1 : (k : Int) < (n : Int) := by omega
  clear c0 hs hk
  go_wp2_with fail
  refine bodyPost_ret (v := .string s) (by simp [results, Try.results30, go_sem]) rfl ?_
  exact ⟨k, hkn, by rw [Hs.out], hR1, g1⟩
def nm8 (i : Nat) : ByteArray := [⟨#[97]⟩, ⟨#[98, 101, 101]⟩, ⟨#[99, 97, 116]⟩, ⟨#[100, 111, 103]⟩, ⟨#[101, 109, 117]⟩, ⟨#[102, 111, 120]⟩, ⟨#[103, 110, 117]⟩, ⟨#[104, 101, 110]⟩].getD i ⟨#[]⟩
def nm3 (i : Nat) : ByteArray := [⟨#[]⟩, ⟨#[90]⟩, ⟨#[97, 98, 99, 100, 101, 102, 103]⟩].getD i ⟨#[]⟩
theorem nm8_fits (i : Nat) (h : i < 8) : (nm8 i).size ≤ maxLen := by
  match i, h with
  | 0, _ | 1, _ | 2, _ | 3, _ | 4, _ | 5, _ | 6, _ | 7, _ => simp [nm8, ByteArray.size, maxLen]
theorem nm3_fits (i : Nat) (h : i < 3) : (nm3 i).size ≤ maxLen := by
  match i, h with
  | 0, _ | 1, _ | 2, _ => simp [nm3, ByteArray.size, maxLen]
def cells8 : Array Value := #[.string ⟨#[97]⟩, .string ⟨#[98, 101, 101]⟩, .string ⟨#[99, 97, 116]⟩, .string ⟨#[100, 111, 103]⟩, .string ⟨#[101, 109, 117]⟩, .string ⟨#[102, 111, 120]⟩, .string ⟨#[103, 110, 117]⟩, .string ⟨#[104, 101, 110]⟩]
def cells3 : Array Value := #[.string ⟨#[]⟩, .string ⟨#[90]⟩, .string ⟨#[97, 98, 99, 100, 101, 102, 103]⟩]
theorem strs8 (w : World) : StrsAt (w.alloc (.cells cells8 9)) w.heap.size 8 nm8 := fun i h => by
  have b := Blk.made w cells8 9
  match i, h with
  | 0, _ => exact b.cell 0
  | 1, _ => exact b.cell 1
  | 2, _ => exact b.cell 2
  | 3, _ => exact b.cell 3
  | 4, _ => exact b.cell 4
  | 5, _ => exact b.cell 5
  | 6, _ => exact b.cell 6
  | 7, _ => exact b.cell 7
theorem strs3 (w : World) : StrsAt (w.alloc (.cells cells3 9)) w.heap.size 3 nm3 := fun i h => by
  have b := Blk.made w cells3 9
  match i, h with
  | 0, _ => exact b.cell 0
  | 1, _ => exact b.cell 1
  | 2, _ => exact b.cell 2
set_option maxHeartbeats 2000000 in
theorem spec_l92Groups (B c : Nat) (w : World) (h : Rd w B c) (hc : c ≤ 800000000) :
    Calls Try.prog 29 #[.pointer (some ⟨B, 0, none⟩)] w (TermsRes w B c) := by
  have hB := h.lt
  have own0 := own_emptyT w w.heap.size (Nat.le_refl _)
  have g0 := grown_of_below (row := some B) (alloc_below w (.cells #[] 25))
  have hR0 := h.below (alloc_below w (.cells #[] 25))
  go_enter Try.func29, Try.ntmps29
  go_wp2_with fail
  refine (spec_pick B c 6 _ hR0 (by omega) (by omega) (by omega)).mono ?_
  rintro e w1 ⟨n, rfl, hn, hR1, g1⟩
  have own1 := own0.by hB g1
  have G1 := grown_trans g0 g1
  have hn5 : n ≤ 5 := by omega
  clear own0 g0 g1 hR0 hn
  go_wp2_with fail
  go_loopw [3, 5] (fun u i wr => ∃ (j : Nat) (pre : List Trm), i = .int .i64 j ∧ j ≤ n ∧ pre.length ≤ 8 ∧ OwnT wr w.heap.size u pre ∧ Rd wr B (c + 1 + 2 * j) ∧ w.grownBy wr (some B)) (fun _ i _ => n - (intOf i).toNat)
  case atStart => exact ⟨0, [], rfl, by omega, by simp, own1, hR1.more (by omega), G1⟩
  case round =>
    clear own1 hR1 G1
    obtain ⟨j, pre, rfl, hj, hp8, hown, hRr, gr⟩ := hrel
    have hsz : w.heap.size ≤ wr.heap.size := gr.size
    by_cases hlt : j < n
    · have bS := alloc_below' wr (.cells cells8 9)
      have hRS := hRr.below bS
      have ownS := hown.below bS
      have gS := grown_trans gr (grown_of_below (row := some B) bS)
      have HOF : Hid (Calls Try.prog 30 #[.pointer (some ⟨B, 0, none⟩), .slice (some ⟨wr.heap.size, 0, none⟩) 8 8] (wr.alloc (.cells cells8 9)) (OfRes (wr.alloc (.cells cells8 9)) B (c + 1 + 2 * j) 8 nm8)) := Lib.hid (spec_of B _ _ 8 nm8 _ hRS (by omega) (strs8 wr) (by omega) (by omega) (by have := hRr.lt; omega))
      unfold cells8 at HOF
      clear hRr hown gr bS hRS
      go_wp2_with fail
      refine HOF.out.mono ?_
      rintro e w2 ⟨k1, hk1, rfl, hR2, g2⟩
      have own2 := ownS.by hB g2
      have G2 := grown_trans gS g2
      clear HOF ownS gS g2
      go_wp2_with fail
      refine (spec_pick B _ 20 w2 hR2 (by omega) (by omega) (by omega)).mono ?_
      rintro e w3 ⟨k2, rfl, hk2, hR3, g3⟩
      have own3 := own2.by hB g3
      have G3 := grown_trans G2 g3
      clear own2 G2 g3 hR2
      have C1 : Hid (Calls Try.prog 13 #[u3, .agg #[.string (nm8 k1), .int .i64 (k2 : Int)]] w3 (NewT w3 (putL pre ⟨nm8 k1, k2, nm8_fits k1 hk1⟩) (putOk pre ⟨nm8 k1, k2, nm8_fits k1 hk1⟩))) := Lib.hid (spec_GroupsPut u3 pre ⟨nm8 k1, k2, nm8_fits k1 hk1⟩ w3 own3.ts)
      have HL : Hid (∀ r, putOk pre ⟨nm8 k1, k2, nm8_fits k1 hk1⟩ = r → r = true → (putL pre ⟨nm8 k1, k2, nm8_fits k1 hk1⟩).length ≤ 8) := Lib.hid fun r h1 h2 => by
        subst h2
        unfold putL
        rw [if_pos h1]
        unfold putOk at h1
        simp only [Bool.and_eq_true, decide_eq_true_eq] at h1
        exact h1.2
      obtain ⟨us, hus⟩ : ∃ us, putL pre ⟨nm8 k1, k2, nm8_fits k1 hk1⟩ = us := ⟨_, rfl⟩
      obtain ⟨okp, hokp⟩ : ∃ okp, putOk pre ⟨nm8 k1, k2, nm8_fits k1 hk1⟩ = okp := ⟨_, rfl⟩
      rw [hus, hokp] at C1
      have hl8 := HL.out okp hokp
      rw [hus] at hl8
      obtain ⟨nn, hnn⟩ : ∃ nn, nm8 k1 = nn := ⟨_, rfl⟩
      rw [hnn] at C1 ⊢
      clear HL hus hokp hnn
      go_wp2_with fail
      refine C1.out.mono ?_
      rintro e w4 ⟨v4, rfl, own4, b4⟩
      have hB3 := hR3.lt
      have hR4 := hR3.below b4
      have G4 := grown_trans G3 (grown_of_below (row := some B) b4)
      have hw3 : w.heap.size ≤ w3.heap.size := G3.size
      have own4' := own4.base hw3
      have own3' := own3.below b4
      clear C1 own3 b4 G3 hR3 own4
      cases okp with
      | true =>
        have hl := hl8 rfl
        go_wp2_with fail
        go_roundw
        case rel => exact ⟨j + 1, us, by go_num, by omega, hl, own4', hR4.more (by omega), G4⟩
        case measure => simp [intOf]; omega
      | false =>
        go_wp2_with fail
        go_roundw
        case rel => exact ⟨j + 1, pre, by go_num, by omega, hp8, own3', hR4.more (by omega), G4⟩
        case measure => simp [intOf]; omega
    · obtain rfl : j = n := by omega
      by_cases h1 : 0 < pre.length
      · obtain ⟨g, cp, rfl⟩ := hown.form h1
        have d1 : decide ((0 : Int) < (pre.length : Int)) = true := decide_eq_true (by omega)
        have d1n : decide (0 < pre.length) = true := decide_eq_true h1
        go_wp2_with fail
        refine (spec_pick B _ 24 wr hRr (by omega) (by omega) (by omega)).mono ?_
        rintro e w5 ⟨k5, rfl, hk5', hR5, g5⟩
        have own5 := hown.by hB g5
        have G5 := grown_trans gr g5
        clear hown gr g5 hRr
        by_cases q0 : k5 = 0
        · have e5 : ((k5 : Int) == 0) = true := by rw [beq_iff_eq]; omega
          go_wp2_with fail
          refine (spec_pick B _ (pre.length : Int) w5 hR5 (by omega) (by omega) (by omega)).mono ?_
          rintro e w6 ⟨k6, rfl, hk6, hR6, g6⟩
          have own6 := own5.by hB g6
          have G6 := grown_trans G5 g6
          have hk6l : k6 < pre.length := by omega
          clear own5 G5 g6 hR5 hk6
          have bS := alloc_below' w6 (.cells cells3 9)
          have hRS := hR6.below bS
          have ownS := own6.below bS
          have gS := grown_trans G6 (grown_of_below (row := some B) bS)
          have HOF : Hid (Calls Try.prog 30 #[.pointer (some ⟨B, 0, none⟩), .slice (some ⟨w6.heap.size, 0, none⟩) 3 3] (w6.alloc (.cells cells3 9)) (OfRes (w6.alloc (.cells cells3 9)) B (c + 1 + 2 * j + 1 + 1) 3 nm3)) := Lib.hid (spec_of B _ _ 3 nm3 _ hRS (by omega) (strs3 w6) (by omega) (by omega) (by have := hR6.lt; omega))
          unfold cells3 at HOF
          clear hR6 own6 G6 bS hRS
          go_wp2_with fail
          refine HOF.out.mono ?_
          rintro e w7 ⟨k7, hk7, rfl, hR7, g7⟩
          have own7 := ownS.by hB g7
          have G7 := grown_trans gS g7
          clear HOF ownS gS g7
          obtain ⟨t7, ht7⟩ : ∃ t7 : Trm, t7 = ⟨nm3 k7, (tAt pre k6).next, nm3_fits k7 hk7⟩ := ⟨_, rfl⟩
          have st := own7.store0 (ss := pre.set k6 t7) k6 hk6l t7 (by simp) (by simp [tAt, hk6l]) (by rw [ht7]) (fun i hi hne => by
            unfold tAt List.getD
            rw [List.getElem?_set_ne (fun e => hne e.symm)])
          obtain ⟨c0, c1, c2, c3⟩ := own7.cellsAt k6 hk6l
          have BR : Rd (w7.setCell ⟨g, k6 * 2, none⟩ (.string t7.name)) B (c + 40) := ((hR7.more (show c + 1 + 2 * j + 1 + 1 + 1 ≤ c + 40 by omega)).byT own7 hB st.2)
          have BG := grown_rowT G7 own7 (Nat.le_refl _) st.2
          have BO := st.1
          have HBL : Hid ((pre.set k6 t7).length ≤ 8) := Lib.hid (by rw [List.length_set]; exact hp8)
          have hn7 : t7.name = nm3 k7 := by rw [ht7]
          rw [hn7] at BR BG BO
          obtain ⟨nn, hnn⟩ : ∃ nn, nm3 k7 = nn := ⟨_, rfl⟩
          rw [hnn] at BR BG BO ⊢
          obtain ⟨old, ho⟩ : ∃ x, w7.cell? ⟨g, k6 * 2, none⟩ = some x := ⟨_, c0⟩
          have i0 : (0 : Int) ≤ (k6 : Int) := by omega
          have i1 : (k6 : Int) < (pre.length : Int) := by omega
          clear st own7 hR7 G7 c0 c1 hn7 hnn ht7
          go_wp2_with fail
          go_ret
          exact ⟨_, _, rfl, BO, ⟨HBL.out, trivial⟩, BR, BG⟩
        · have e5 : ((k5 : Int) == 0) = false := by rw [beq_eq_false_iff_ne]; omega
          go_wp2_with fail
          go_ret
          exact ⟨_, pre, rfl, own5, ⟨hp8, trivial⟩, hR5.more (by omega), G5⟩
      · have d1 : decide ((0 : Int) < (pre.length : Int)) = false := decide_eq_false (by omega)
        have d1n : decide (0 < pre.length) = false := decide_eq_false (by omega)
        obtain ⟨a1, c1, rfl⟩ := hown.form'
        go_wp2_with fail
        go_ret
        exact ⟨_, pre, rfl, hown, ⟨hp8, trivial⟩, hRr.more (by omega), gr⟩
theorem spec_DrawGroupsValid (v : Value) (zs : List Int) (w : World) (h : U8s w v zs) (hs : zs.length ≤ 1048576) :
    Calls Try.prog 20 #[v] w fun e w' => ∃ u ts, e = .returned u ∧ OwnT w' w.heap.size u ts ∧ ShortB ts ∧ Below w.heap.size w w' := by
  have C1 := Lib.hid (spec_l6Open v zs w h hs)
  go_enter Try.func20, Try.ntmps20
  go_wp2_with fail
  refine C1.out.mono ?_
  rintro e w1 ⟨B, rfl, hB, hR, bel⟩
  go_wp2_with fail
  refine (spec_l92Groups B 0 w1 hR (by omega)).mono ?_
  rintro e w2 ⟨u, ts, rfl, own2, hT, hR2, g2⟩
  go_wp2_with fail
  go_ret
  exact ⟨u, ts, rfl, own2.base bel.size, hT, below_of_grown bel hB g2⟩
theorem spec_DrawGroupsLeast (v : Value) (zs : List Int) (w : World) (h : U8s w v zs) (hs : zs.length ≤ 1048576) :
    Calls Try.prog 16 #[v] w fun e w' => ∃ u ts, e = .returned u ∧ OwnT w' w.heap.size u ts ∧ ShortB ts ∧ Below w.heap.size w w' := by
  have C1 := Lib.hid (spec_l6Open v zs w h hs)
  go_enter Try.func16, Try.ntmps16
  go_wp2_with fail
  refine C1.out.mono ?_
  rintro e w1 ⟨B, rfl, hB, hR, bel⟩
  go_wp2_with fail
  refine (spec_l92Groups B 0 w1 hR (by omega)).mono ?_
  rintro e w2 ⟨u, ts, rfl, own2, hT, hR2, g2⟩
  go_wp2_with fail
  go_ret
  exact ⟨u, ts, rfl, own2.base bel.size, hT, below_of_grown bel hB g2⟩
end Go.Proofs.Ytmhgddlkhbkbaaa
