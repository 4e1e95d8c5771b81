/- Chapter 13: the entry that is found, by the model and by the program. -/
import Derived.Test.YtlifglljneaknaaW8f
namespace Go.Proofs.Ytlifglljneaknaa
open Go.ChangeShapes Go.WideShapes Go.ChangeAt Go.RowKit
set_option linter.unusedVariables false

def FoundIs (w : World) (ts : List Trm) (o : Int) (e : Ending) (w' : World) : Prop := ∃ (t : Trm) (b : Bool), e = .returned (.tuple #[.agg #[.int .i64 t.num, .int .i64 t.first], .bool b]) ∧ FindIs ts o t b ∧ Below w.heap.size w w'
def FoundR (w : World) (ts : List Trm) (o : Int) (e : Ending) (w' : World) : Prop := ∃ (t : Trm) (b : Bool), e = .returned (.tuple #[.agg #[.int .i64 t.num, .int .i64 t.first], .bool b]) ∧ FindR ts o t b ∧ Below w.heap.size w w'
/-- what is found among the first k -/
def FindK (ts : List Trm) (o : Int) (k : Nat) (p q : Int) (b : Bool) : Prop :=
  (b = false ∧ (p = 0 ∧ q = 0) ∧ ∀ i, i < k → o < (tAt ts i).num) ∨
  (b = true ∧ ∃ i, i < k ∧ tAt ts i = ⟨p, q⟩ ∧ (tAt ts i).num ≤ o ∧ ∀ j, i < j → j < k → o < (tAt ts j).num)
theorem FindK.less {ts : List Trm} {o : Int} {k : Nat} {p q : Int} {b : Bool} (h : FindK ts o k p q b) (hk : o < (tAt ts k).num) : FindK ts o (k + 1) p q b := by
  have key : ∀ j, j < k + 1 → ¬ j < k → o < (tAt ts j).num := fun j h1 h2 => by
    have : j = k := by omega
    rw [this]; exact hk
  rcases h with ⟨h1, h2, h3⟩ | ⟨h1, i, hi, h2, h3, h4⟩
  · exact .inl ⟨h1, h2, fun i hi => if c : i < k then h3 i c else key i hi c⟩
  · exact .inr ⟨h1, i, by omega, h2, h3, fun j hj hk' => if c : j < k then h4 j hj c else key j hk' c⟩
theorem FindK.here {ts : List Trm} {o : Int} {k : Nat} {x y : Int} (e : tAt ts k = ⟨x, y⟩) (hk : x ≤ o) : FindK ts o (k + 1) x y true :=
  .inr ⟨rfl, k, by omega, e, by rw [e]; exact hk, fun j h1 h2 => by omega⟩
theorem FindK.all {ts : List Trm} {o : Int} {p q : Int} {b : Bool} (h : FindK ts o ts.length p q b) : FindIs ts o ⟨p, q⟩ b := by
  rcases h with ⟨h1, ⟨rfl, rfl⟩, h3⟩ | ⟨h1, i, hi, h2, h3, h4⟩
  · exact .inl ⟨h1, rfl, h3⟩
  · exact .inr ⟨h1, i, hi, h2.symm, h3, h4⟩

set_option maxHeartbeats 2000000 in
theorem spec_l13Find (v : Value) (ts : List Trm) (o : Int) (w : World) (h : Ts w v ts) : Calls Try.prog 20 #[v, .int .i64 o] w (FoundIs w ts o) := by
  have hv := h
  obtain ⟨a, cap, rfl, hl, hm, hc⟩ := h
  unfold maxLen at hm
  clear hc
  have bA := alloc_below' w (.cells #[.int .i64 0, .int .i64 0] 27)
  have bB := alloc_below' (w.alloc (.cells #[.int .i64 0, .int .i64 0] 27)) (.cells #[.int .i64 0, .int .i64 0] 27)
  have rA := Blk.made w #[.int .i64 0, .int .i64 0] 27
  have rB := Blk.made (w.alloc (.cells #[.int .i64 0, .int .i64 0] 27)) #[.int .i64 0, .int .i64 0] 27
  have rA2 := rA.belowS bB
  have bel0 := Bstep bA bB
  rw [World.size_alloc] at rB
  go_enter Try.func20, Try.ntmps20
  go_wp2_with fail
  generalize (w.alloc (.cells #[.int .i64 0, .int .i64 0] 27)).alloc (.cells #[.int .i64 0, .int .i64 0] 27) = wb at rA2 rB bel0 ⊢
  obtain ⟨R, hR⟩ : ∃ R, w.heap.size = R := ⟨_, rfl⟩
  rw [hR] at rA2 rB ⊢
  have HR := Lib.hid hR
  clear hR bA bB rA
  go_loopw [7, 8] (fun s i wr => ∃ (k : Nat) (p q : Int) (sb : Bool), k ≤ ts.length ∧ i = .int .i64 k ∧ s = .bool sb ∧ FindK ts o k p q sb ∧ Blk wr R #[.int .i64 0, .int .i64 0] ∧ Blk wr (R + 1) #[.int .i64 p, .int .i64 q] ∧ Below w.heap.size w wr) (fun _ i _ => ts.length - (intOf i).toNat)
  case atStart => exact ⟨0, 0, 0, false, Nat.zero_le _, rfl, rfl, .inl ⟨rfl, ⟨rfl, rfl⟩, fun i hi => by omega⟩, rA2, rB, bel0⟩
  case round =>
    clear rA2 rB bel0
    obtain ⟨k, p, q, sb, hk, rfl, rfl, hF, r0, r1, bel⟩ := hrel
    by_cases hlt : k < ts.length
    · obtain ⟨b, off, cp, e, _, _, hcell⟩ := (hv.below bel).form (by omega)
      simp only [Value.slice.injEq, true_and] at e
      obtain ⟨rfl, rfl⟩ := e
      obtain ⟨c0, c1⟩ := hcell k hlt
      have lb := hv.lt (by omega) b rfl
      have hbR : b ≠ R + 1 := by have := HR.out; omega
      obtain ⟨⟨x, y⟩, Ht⟩ : ∃ t, Hid (tAt ts k = t) := ⟨_, Lib.hid rfl⟩
      rw [Ht.out] at c0 c1
      simp only at c0 c1
      have i0 : (0 : Int) ≤ (k : Int) := by omega
      have i1 : (k : Int) < (ts.length : Int) := by omega
      clear hcell lb
      by_cases hx : x ≤ o
      · have d1 : decide (x ≤ o) = true := decide_eq_true hx
        have HN := Lib.hid (FindK.here Ht.out hx)
        have x0 := r1.cell 0
        have x1 := r1.cell 1
        have xf := r1.free
        have xl := r1.lt
        have r1' := (r1.set 0 (.int .i64 x)).set 1 (.int .i64 y)
        have r0' : Blk ((wr.setCell ⟨R + 1, 0, none⟩ (.int .i64 x)).setCell ⟨R + 1, 1, none⟩ (.int .i64 y)) R #[.int .i64 0, .int .i64 0] := (r0.other (by omega)).other (by omega)
        have bel2 : Below w.heap.size w ((wr.setCell ⟨R + 1, 0, none⟩ (.int .i64 x)).setCell ⟨R + 1, 1, none⟩ (.int .i64 y)) := (bel.setCell (by have := HR.out; simp; omega) _).setCell (by have := HR.out; simp; omega) _
        clear hF r1 r0 hx bel
        go_wp2_with fail
        go_roundw
        case rel => exact ⟨k + 1, x, y, true, by omega, by go_num, rfl, HN.out, r0', r1', bel2⟩
        case measure => simp [intOf]; omega
      · have d1 : decide (x ≤ o) = false := decide_eq_false hx
        have HN := Lib.hid (hF.less (by rw [Ht.out]; simp only; omega))
        clear hF hx
        go_wp2_with fail
        go_roundw
        case rel => exact ⟨k + 1, p, q, sb, by omega, by go_num, rfl, HN.out, r0, r1, bel⟩
        case measure => simp [intOf]; omega
    · obtain rfl : k = ts.length := by omega
      have x0 := r1.cell 0
      have x1 := r1.cell 1
      have y0 := r0.cell 0
      have y1 := r0.cell 1
      have yf := r0.free
      have yl := r0.lt
      have HN := Lib.hid hF.all
      have r0' := (r0.set 0 (.int .i64 p)).set 1 (.int .i64 q)
      have f0 : ((wr.setCell ⟨R, 0, none⟩ (.int .i64 p)).setCell ⟨R, 1, none⟩ (.int .i64 q)).cell? ⟨R, 0, none⟩ = some (.int .i64 p) := r0'.cell 0
      have f1 : ((wr.setCell ⟨R, 0, none⟩ (.int .i64 p)).setCell ⟨R, 1, none⟩ (.int .i64 q)).cell? ⟨R, 1, none⟩ = some (.int .i64 q) := r0'.cell 1
      have bel2 : Below w.heap.size w ((wr.setCell ⟨R, 0, none⟩ (.int .i64 p)).setCell ⟨R, 1, none⟩ (.int .i64 q)) := (bel.setCell (by have := HR.out; simp; omega) _).setCell (by have := HR.out; simp; omega) _
      clear hF r0 r1 r0'
      go_wp2_with fail
      refine bodyPost_ret (v := .tuple #[.agg #[.int .i64 p, .int .i64 q], .bool sb]) (by simp [results, Try.results20, go_sem, f0, f1]) rfl ?_
      exact ⟨⟨p, q⟩, sb, rfl, HN.out, bel2⟩
set_option maxHeartbeats 2000000 in
theorem spec_IndexFind (v : Value) (ts : List Trm) (o : Int) (w : World) (h : Ts w v ts) : Calls Try.prog 8 #[v, .int .i64 o] w (FoundR w ts o) := by
  have hv := h
  have bA := alloc_below' w (.cells #[.int .i64 0, .int .i64 0] 27)
  have rA := Blk.made w #[.int .i64 0, .int .i64 0] 27
  have C1 : Hid (∀ W, Below w.heap.size w W → Calls Try.prog 9 #[v] W (Same W (tsOk ts))) := Lib.hid fun W hW => spec_IndexValid v ts W (hv.below hW)
  have C2 : Hid (∀ W, Below w.heap.size w W → Calls Try.prog 20 #[v, .int .i64 o] W (FoundIs W ts o)) := Lib.hid fun W hW => spec_l13Find v ts o W (hv.below hW)
  obtain ⟨ok, hok⟩ : ∃ b, tsOk ts = b := ⟨_, rfl⟩
  rw [hok] at C1
  go_enter Try.func8, Try.ntmps8
  go_wp2_with fail
  generalize w.alloc (.cells #[.int .i64 0, .int .i64 0] 27) = wb at rA bA ⊢
  obtain ⟨R, hR⟩ : ∃ R, w.heap.size = R := ⟨_, rfl⟩
  rw [hR] at rA ⊢
  have HR := Lib.hid hR
  clear hR
  refine (C1.out wb bA).mono ?_
  rintro e w1 ⟨rfl, b1⟩
  have r1 := rA.belowS b1
  have B1 := Bstep bA b1
  clear rA bA b1 C1
  cases ok with
  | false =>
    have y0 := r1.cell 0
    have y1 := r1.cell 1
    have yf := r1.free
    have yl := r1.lt
    have r1' := (r1.set 0 (.int .i64 0)).set 1 (.int .i64 0)
    have f0 : ((w1.setCell ⟨R, 0, none⟩ (.int .i64 0)).setCell ⟨R, 1, none⟩ (.int .i64 0)).cell? ⟨R, 0, none⟩ = some (.int .i64 0) := r1'.cell 0
    have f1 : ((w1.setCell ⟨R, 0, none⟩ (.int .i64 0)).setCell ⟨R, 1, none⟩ (.int .i64 0)).cell? ⟨R, 1, none⟩ = some (.int .i64 0) := r1'.cell 1
    have bel2 : Below w.heap.size w ((w1.setCell ⟨R, 0, none⟩ (.int .i64 0)).setCell ⟨R, 1, none⟩ (.int .i64 0)) := (B1.setCell (by have := HR.out; simp; omega) _).setCell (by have := HR.out; simp; omega) _
    have HN : Hid (FindR ts o ⟨0, 0⟩ false) := Lib.hid (.inl ⟨hok, rfl, rfl⟩)
    clear r1' r1 hok
    go_wp2_with fail
    refine bodyPost_ret (v := .tuple #[.agg #[.int .i64 0, .int .i64 0], .bool false]) (by simp [results, Try.results8, go_sem, f0, f1]) rfl ?_
    exact ⟨⟨0, 0⟩, false, rfl, HN.out, bel2⟩
  | true =>
    go_wp2_with fail
    refine (C2.out w1 B1).mono ?_
    rintro e w2 ⟨⟨p, q⟩, b, rfl, hF, b2⟩
    have r2 := r1.belowS b2
    have B2 := Bstep B1 b2
    have y0 := r2.cell 0
    have y1 := r2.cell 1
    have yf := r2.free
    have yl := r2.lt
    have r1' := (r2.set 0 (.int .i64 p)).set 1 (.int .i64 q)
    have f0 : ((w2.setCell ⟨R, 0, none⟩ (.int .i64 p)).setCell ⟨R, 1, none⟩ (.int .i64 q)).cell? ⟨R, 0, none⟩ = some (.int .i64 p) := r1'.cell 0
    have f1 : ((w2.setCell ⟨R, 0, none⟩ (.int .i64 p)).setCell ⟨R, 1, none⟩ (.int .i64 q)).cell? ⟨R, 1, none⟩ = some (.int .i64 q) := r1'.cell 1
    have bel2 : Below w.heap.size w ((w2.setCell ⟨R, 0, none⟩ (.int .i64 p)).setCell ⟨R, 1, none⟩ (.int .i64 q)) := (B2.setCell (by have := HR.out; simp; omega) _).setCell (by have := HR.out; simp; omega) _
    have HN : Hid (FindR ts o ⟨p, q⟩ b) := Lib.hid (.inr ⟨hok, hF⟩)
    clear r1' r1 r2 hok hF
    go_wp2_with fail
    refine bodyPost_ret (v := .tuple #[.agg #[.int .i64 p, .int .i64 q], .bool b]) (by simp [results, Try.results8, go_sem, f0, f1]) rfl ?_
    exact ⟨⟨p, q⟩, b, rfl, HN.out, bel2⟩

set_option maxHeartbeats 2000000 in
theorem impl_IndexFind (v : Value) (ts : List Trm) (o : Int) (w : World) (h : Ts w v ts) : Calls Try.prog 7 #[v, .int .i64 o] w (FoundR w ts o) := by
  have hv := h
  have bA := alloc_below' w (.cells #[.int .i64 0, .int .i64 0] 27)
  have rA := Blk.made w #[.int .i64 0, .int .i64 0] 27
  have C1 : Hid (∀ W, Below w.heap.size w W → Calls Try.prog 17 #[v] W (Same W (tsOk ts))) := Lib.hid fun W hW => impl_IndexValid v ts W (hv.below hW)
  have C2 : Hid (∀ W, Below w.heap.size w W → Calls Try.prog 18 #[v] W (TreeRes W ts)) := Lib.hid fun W hW => impl_treeOf ts.length v ts W (Nat.le_refl _) (hv.below hW)
  obtain ⟨ok, hok⟩ : ∃ b, tsOk ts = b := ⟨_, rfl⟩
  rw [hok] at C1
  go_enter Try.func7, Try.ntmps7
  go_wp2_with fail
  generalize w.alloc (.cells #[.int .i64 0, .int .i64 0] 27) = wb at rA bA ⊢
  obtain ⟨R, hR⟩ : ∃ R, w.heap.size = R := ⟨_, rfl⟩
  rw [hR] at rA ⊢
  have HR := Lib.hid hR
  clear hR
  refine (C1.out wb bA).mono ?_
  rintro e w1 ⟨rfl, b1⟩
  have r1 := rA.belowS b1
  have B1 := Bstep bA b1
  clear rA bA b1 C1
  cases ok with
  | false =>
    have y0 := r1.cell 0
    have y1 := r1.cell 1
    have yf := r1.free
    have yl := r1.lt
    have r1' := (r1.set 0 (.int .i64 0)).set 1 (.int .i64 0)
    have f0 : ((w1.setCell ⟨R, 0, none⟩ (.int .i64 0)).setCell ⟨R, 1, none⟩ (.int .i64 0)).cell? ⟨R, 0, none⟩ = some (.int .i64 0) := r1'.cell 0
    have f1 : ((w1.setCell ⟨R, 0, none⟩ (.int .i64 0)).setCell ⟨R, 1, none⟩ (.int .i64 0)).cell? ⟨R, 1, none⟩ = some (.int .i64 0) := r1'.cell 1
    have bel2 : Below w.heap.size w ((w1.setCell ⟨R, 0, none⟩ (.int .i64 0)).setCell ⟨R, 1, none⟩ (.int .i64 0)) := (B1.setCell (by have := HR.out; simp; omega) _).setCell (by have := HR.out; simp; omega) _
    have HN : Hid (FindR ts o ⟨0, 0⟩ false) := Lib.hid (.inl ⟨hok, rfl, rfl⟩)
    clear r1' r1 hok
    go_wp2_with fail
    refine bodyPost_ret (v := .tuple #[.agg #[.int .i64 0, .int .i64 0], .bool false]) (by simp [results, Try.results7, go_sem, f0, f1]) rfl ?_
    exact ⟨⟨0, 0⟩, false, rfl, HN.out, bel2⟩
  | true =>
    go_wp2_with fail
    refine (C2.out w1 B1).mono ?_
    rintro e w2 ⟨p, rfl, tr, b2⟩
    have C3 := Lib.hid (impl_lastUpTo _ ts o w2 hok tr)
    have r2 := r1.belowS b2
    have B2 := Bstep B1 b2
    clear r1 B1 b2 tr
    go_wp2_with fail
    refine C3.out.mono ?_
    rintro e w3 ⟨u, rfl, b3, hres⟩
    have r3 := r2.belowS b3
    have B3 := Bstep B2 b3
    clear r2 B2 b3
    have y0 := r3.cell 0
    have y1 := r3.cell 1
    have yf := r3.free
    have yl := r3.lt
    rcases hres with ⟨rfl, hno⟩ | ⟨Bn, i, rfl, c0, c1, hi, hle, hgt⟩
    · have r1' := (r3.set 0 (.int .i64 0)).set 1 (.int .i64 0)
      have f0 : ((w3.setCell ⟨R, 0, none⟩ (.int .i64 0)).setCell ⟨R, 1, none⟩ (.int .i64 0)).cell? ⟨R, 0, none⟩ = some (.int .i64 0) := r1'.cell 0
      have f1 : ((w3.setCell ⟨R, 0, none⟩ (.int .i64 0)).setCell ⟨R, 1, none⟩ (.int .i64 0)).cell? ⟨R, 1, none⟩ = some (.int .i64 0) := r1'.cell 1
      have bel2 : Below w.heap.size w ((w3.setCell ⟨R, 0, none⟩ (.int .i64 0)).setCell ⟨R, 1, none⟩ (.int .i64 0)) := (B3.setCell (by have := HR.out; simp; omega) _).setCell (by have := HR.out; simp; omega) _
      have HN : Hid (FindR ts o ⟨0, 0⟩ false) := Lib.hid (.inr ⟨hok, .inl ⟨rfl, rfl, hno⟩⟩)
      clear r1' r3 hok hno
      go_wp2_with fail
      refine bodyPost_ret (v := .tuple #[.agg #[.int .i64 0, .int .i64 0], .bool false]) (by simp [results, Try.results7, go_sem, f0, f1]) rfl ?_
      exact ⟨⟨0, 0⟩, false, rfl, HN.out, bel2⟩
    · have HN : Hid (FindR ts o (tAt ts i) true) := Lib.hid (.inr ⟨hok, .inr ⟨rfl, i, hi, rfl, hle, hgt⟩⟩)
      obtain ⟨⟨p, q⟩, ht⟩ : ∃ t, tAt ts i = t := ⟨_, rfl⟩
      rw [ht] at c0 c1 HN
      simp only at c0 c1
      have r1' := (r3.set 0 (.int .i64 p)).set 1 (.int .i64 q)
      have f0 : ((w3.setCell ⟨R, 0, none⟩ (.int .i64 p)).setCell ⟨R, 1, none⟩ (.int .i64 q)).cell? ⟨R, 0, none⟩ = some (.int .i64 p) := r1'.cell 0
      have f1 : ((w3.setCell ⟨R, 0, none⟩ (.int .i64 p)).setCell ⟨R, 1, none⟩ (.int .i64 q)).cell? ⟨R, 1, none⟩ = some (.int .i64 q) := r1'.cell 1
      have bel2 : Below w.heap.size w ((w3.setCell ⟨R, 0, none⟩ (.int .i64 p)).setCell ⟨R, 1, none⟩ (.int .i64 q)) := (B3.setCell (by have := HR.out; simp; omega) _).setCell (by have := HR.out; simp; omega) _
      clear r1' r3 hok hle hgt ht
      go_wp2_with fail
      refine bodyPost_ret (v := .tuple #[.agg #[.int .i64 p, .int .i64 q], .bool true]) (by simp [results, Try.results7, go_sem, f0, f1]) rfl ?_
      exact ⟨⟨p, q⟩, true, rfl, HN.out, bel2⟩
end Go.Proofs.Ytlifglljneaknaa
