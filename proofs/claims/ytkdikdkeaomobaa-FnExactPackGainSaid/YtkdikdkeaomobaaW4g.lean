/- Chapter 4: the program adds a place. -/
import Derived.Test.YtkdikdkeaomobaaM1
namespace Go.Proofs.Ytkdikdkeaomobaa
open Go.ChangeShapes Go.WideShapes Go.ChangeAt Go.RowKit
set_option linter.unusedVariables false

/-- what lies ahead of block b, and where r lies, has not turned -/
def KeptP (w w' : World) (b : Nat) (r : Value) : Prop := w'.os = w.os ∧ w'.tape = w.tape ∧ w'.output = w.output ∧ w.heap.size ≤ w'.heap.size ∧ ∀ k, k < w.heap.size → (k < b ∨ (r.ownBlock = some k ∧ k ≠ b)) → w'.heap[k]? = w.heap[k]?
theorem KeptP.refl (w : World) (b : Nat) (r : Value) : KeptP w w b r := ⟨rfl, rfl, rfl, Nat.le_refl _, fun _ _ _ => rfl⟩
theorem KeptP.trans {a c d : World} {b : Nat} {r : Value} (h : KeptP a c b r) (k : KeptP c d b r) : KeptP a d b r :=
  ⟨k.1.trans h.1, k.2.1.trans h.2.1, k.2.2.1.trans h.2.2.1, Nat.le_trans h.2.2.2.1 k.2.2.2.1, fun i hi hk => (k.2.2.2.2 i (Nat.lt_of_lt_of_le hi h.2.2.2.1) hk).trans (h.2.2.2.2 i hi hk)⟩
theorem KeptP.of_below {w w' : World} {b : Nat} {r : Value} (h : Below w.heap.size w w') : KeptP w w' b r := ⟨h.os, h.tape, h.output, h.size, fun k hk _ => h.block k hk⟩
theorem KeptP.of_map {w w' : World} {b : Nat} {r : Value} (h : w.grownBy w' (some b)) : KeptP w w' b r := ⟨h.os, h.tape, h.output, h.size, fun k hk hb => h.block k hk fun e => by
  simp only [Option.some.injEq] at e
  rcases hb with h | ⟨_, h⟩
  · omega
  · exact h e⟩
theorem KeptP.of_row {w w' : World} {b : Nat} {r v : Value} (h : w.grownBy w' v.ownBlock) (hv : ∀ k, v.ownBlock = some k → b < k) (ha : Apart v r) : KeptP w w' b r := ⟨h.os, h.tape, h.output, h.size, fun k hk hb => h.block k hk fun e => by
  rcases hb with h | ⟨h, _⟩
  · have := hv k e.symm; omega
  · exact ha k h e.symm⟩
theorem Plc.skip {w : World} {b n : Nat} {xs : List Int} {r : Value} (h : Plc w b xs n r) (hn : ¬ (n + 3 ≤ xs.length)) : Plc w b xs (n + 1) r := by
  obtain ⟨es, clock, hb, h1, h2, h3, h4, h5, h6⟩ := h
  refine ⟨es, clock, hb, h1, by omega, fun x hx => ?_, fun q hq hq3 => h4 q (by omega) hq3, h5, h6⟩
  obtain ⟨q, e, ho⟩ := h3 x hx
  exact ⟨q, e, by rw [plcOf_other (.inl hn)]; exact ho⟩
def AddRes (w : World) (b : Nat) (xs : List Int) (n : Nat) (r : Value) (e : Ending) (w' : World) : Prop := e = .returned (.tuple #[]) ∧ Plc w' b xs (n + 1) r ∧ KeptP w w' b r

set_option maxHeartbeats 1000000 in
theorem impl_add (b n : Nat) (v r : Value) (xs : List Int) (w : World) (hv : Ints w v xs) (hP : Plc w b xs n r) (hf : Fits xs) (hl : xs.length ≤ 1000) (hn : n ≤ xs.length) (hr : ∀ k, r.ownBlock = some k → k < w.heap.size) :
    Calls Try.prog 32 #[.map (some b), v, .int .i64 (n : Int)] w (AddRes w b xs n r) := by
  by_cases h3 : n + 3 ≤ xs.length
  · have d1 : decide ((n : Int) + 3 ≤ (xs.length : Int)) = true := decide_eq_true (by omega)
    have C1 := Lib.hid (impl_tripleAt v xs n w hv h3 hl)
    obtain ⟨a, cap, rfl, _, _, _⟩ := hv
    go_enter Try.func32, Try.ntmps32
    go_wp2_with fail
    refine C1.out.mono ?_
    rintro e w1 ⟨rfl, b1⟩
    have P1 := hP.below b1
    have hb1 := P1.lt
    clear hP
    have hT : trip xs n = .agg #[.int .i64 (xs.getD n 0), .int .i64 (xs.getD (n + 1) 0), .int .i64 (xs.getD (n + 2) 0)] := rfl
    have key := trip_key hf n
    unfold trip
    obtain ⟨x, ex⟩ : ∃ x, xs.getD n 0 = x := ⟨_, rfl⟩
    obtain ⟨y, ey⟩ : ∃ x, xs.getD (n + 1) 0 = x := ⟨_, rfl⟩
    obtain ⟨z, ez⟩ : ∃ x, xs.getD (n + 2) 0 = x := ⟨_, rfl⟩
    rw [ex, ey, ez] at hT ⊢
    clear ex ey ez
    have bk := Blk.made w1 #[.int .i64 x, .int .i64 y, .int .i64 z] 48
    have ba := alloc_below' w1 (.cells #[.int .i64 x, .int .i64 y, .int .i64 z] 48)
    have hbA : b < w1.heap.size := hb1
    obtain ⟨A, hA⟩ : ∃ A, w1.heap.size = A := ⟨_, rfl⟩
    go_upto_region 2 with (fail)
    have kb := (KeptP.of_below (b := b) (r := r) b1).trans (KeptP.of_below ba)
    have PW := P1.below ba
    rw [hA] at bk hbA
    generalize hW : w1.alloc (.cells #[.int .i64 x, .int .i64 y, .int .i64 z] 48) = W at bk kb PW ⊢
    clear hW ba P1 b1 hb1 C1 hA
    have hrW : ∀ k, r.ownBlock = some k → k < W.heap.size := fun k hk => Nat.lt_of_lt_of_le (hr k hk) kb.2.2.2.1
    have bl := alloc_below' W (.cells #[.int .i64 (n : Int)] 3)
    obtain ⟨v0, st, w2, run1, own0, g1, sz1, ap0, put⟩ := (PW.below bl).put hf h3 (by omega) (fun k hk => Nat.lt_of_lt_of_le (hrW k hk) bl.size)
    rw [hT] at run1
    have hbW := PW.lt
    have li : Ints w2 (.slice (some ⟨W.heap.size, 0, none⟩) 1 1) [(n : Int)] := (lit1 W (n : Int)).grown g1 fun k hk e => by
      simp only [Value.ownBlock, Option.some.injEq] at hk e
      omega
    have hlen := plcOf_len xs n n
    have hlen2 : (nums (plcOf xs n n)).length = (plcOf xs n n).length := by simp [nums]
    have hsz2 : b + 1 ≤ w2.heap.size := by rw [sz1]; have := bl.size; omega
    have k2 := kb.trans ((KeptP.of_below bl).trans (KeptP.of_map g1))
    have PUT := Lib.hid put
    have c0 := bk.cell 0
    have c1 := bk.cell 1
    have c2 := bk.cell 2
    clear put bk kb PW bl g1 sz1 hT key
    go_wp2_with (at_builtin; refine wp_appW rfl _ _ rfl (b + 1) v0 _ (nums (plcOf xs n n)) [(n : Int)] rfl rfl own0 li (by simp; omega) hsz2 ?_; intro v' w3 own3 g3 hat; obtain ⟨w4, run4, P4, g4⟩ := PUT.out v' w3 own3 g3 hat)
    refine bodyPost_end (results_none rfl _ _ _) rfl ?_
    exact ⟨rfl, P4, k2.trans ((KeptP.of_row g3 (fun k hk => own0.lt k hk) ap0).trans (KeptP.of_map g4))⟩
  · have d1 : decide ((n : Int) + 3 ≤ (xs.length : Int)) = false := decide_eq_false (by omega)
    have hs := hP.skip h3
    obtain ⟨a, cap, rfl, _, _, _⟩ := hv
    go_enter Try.func32, Try.ntmps32
    go_wp2_with fail
    refine bodyPost_end (results_none rfl _ _ _) rfl ?_
    exact ⟨rfl, hs, KeptP.refl w b r⟩
end Go.Proofs.Ytkdikdkeaomobaa
