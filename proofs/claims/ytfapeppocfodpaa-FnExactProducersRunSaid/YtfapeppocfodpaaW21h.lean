/- Chapter 21: producers take a batch, as the model says. -/
import Derived.Test.YtfapeppocfodpaaW21g
namespace Go.Proofs.Ytfapeppocfodpaa
open Go.ChangeShapes Go.WideShapes Go.ChangeAt Go.RowKit
set_option linter.unusedVariables false

theorem putCode_range (ts : List Trm) (b : Bat) : 0 ≤ putCode ts b ∧ putCode ts b ≤ 5 := by
  have := code_range ts b
  unfold putCode
  repeat' split
  all_goals omega
theorem putCode_five {ts : List Trm} {b : Bat} (h : checkP ts b = 5) : putCode ts b = 5 := by
  unfold putCode
  rw [h]
  rfl
theorem putCode_other {ts : List Trm} {b : Bat} (h0 : checkP ts b ≠ 0) (h5 : checkP ts b ≠ 5) : putCode ts b = checkP ts b ∧ putList ts b = ts ∧ tsOk ts = true := by
  have e : putCode ts b = checkP ts b := by unfold putCode; rw [if_neg h0]
  refine ⟨e, ?_, ?_⟩
  · unfold putList
    rw [e, if_neg h5, if_neg h0]
  · cases q : tsOk ts with
    | true => rfl
    | false => exact absurd (code_bad (.inl q)) h5
theorem putCode_zero {ts : List Trm} {b : Bat} (h0 : checkP ts b = 0) : batOk b = true ∧ ts.length ≤ 20 ∧
    (tsOk (putR (newT b) ts false) = true → putCode ts b = 0 ∧ putList ts b = putR (newT b) ts false) ∧ (tsOk (putR (newT b) ts false) = false → putCode ts b = 5 ∧ putList ts b = []) := by
  refine ⟨?_, ?_, fun q => ?_, fun q => ?_⟩
  · cases q : batOk b with
    | true => rfl
    | false => rw [code_bad (.inr q)] at h0; omega
  · cases q : tsOk ts with
    | true => exact (tsOk_iff.1 q).1
    | false => rw [code_bad (.inl q)] at h0; omega
  · have e : putCode ts b = 0 := by unfold putCode; rw [if_pos h0, if_pos q]
    refine ⟨e, ?_⟩
    unfold putList
    rw [e]
    rfl
  · have e : putCode ts b = 5 := by unfold putCode; rw [if_pos h0, if_neg (by rw [q]; decide)]
    exact ⟨e, putList_five e⟩
set_option maxRecDepth 100000 in
set_option maxHeartbeats 4000000 in
theorem spec_ProducersPut (u v : Value) (ts : List Trm) (b : Bat) (w : World) (g : Ts w u ts) (h : BatV w v b) : Calls Try.prog 30 #[u, v] w (PutRes w (putList ts b) (putCode ts b)) := by
  have C1 : Hid (∀ W, Below w.heap.size w W → Calls Try.prog 51 #[u, v] W (SaysC (checkP ts b) W)) := Lib.hid fun W hW => spec_ProducersCheck u v ts b W (g.below hW) (h.below hW)
  have C2 : Hid (∀ W, Below w.heap.size w W → ts.length ≤ 20 → Calls Try.prog 52 #[u, .agg #[.int .i64 b.prod, .int .i64 b.epoch, .int .i64 (b.seq + b.recs.length)]] W (NewT W (putR (newT b) ts false))) := Lib.hid fun W hW hl => spec_l21Put u ts (newT b) W (g.below hW) (by omega)
  have C3 : Hid (∀ W u ss, Ts W u ss → Calls Try.prog 53 #[u] W (Same W (tsOk ss))) := Lib.hid fun W u ss hu => spec_ProducersValid u ss W hu
  have H5 : Hid (checkP ts b = 5 → putCode ts b = 5 ∧ putList ts b = []) := Lib.hid fun e => ⟨putCode_five e, putList_five (putCode_five e)⟩
  have HO : Hid (checkP ts b ≠ 0 → checkP ts b ≠ 5 → putCode ts b = checkP ts b ∧ putList ts b = ts ∧ tsOk ts = true) := Lib.hid putCode_other
  have HZ : Hid (checkP ts b = 0 → ((0 ≤ b.seq ∧ b.seq ≤ 9999) ∧ b.recs.length ≤ 6) ∧ ts.length ≤ 20 ∧
    (tsOk (putR (newT b) ts false) = true → putCode ts b = 0 ∧ putList ts b = putR (newT b) ts false) ∧ (tsOk (putR (newT b) ts false) = false → putCode ts b = 5 ∧ putList ts b = [])) := Lib.hid fun e => by
    obtain ⟨h1, h2, h3, h4⟩ := putCode_zero e
    exact ⟨⟨⟨(batOk_prod h1).2.2.2.2.1, (batOk_prod h1).2.2.2.2.2⟩, (batOk_iff.1 h1).1.2⟩, h2, h3, h4⟩
  obtain ⟨M, hM⟩ : ∃ M, putCode ts b = M := ⟨_, rfl⟩
  obtain ⟨Ls, hLs⟩ : ∃ Ls, putList ts b = Ls := ⟨_, rfl⟩
  obtain ⟨N, hN⟩ : ∃ N, checkP ts b = N := ⟨_, rfl⟩
  obtain ⟨pl, hpl⟩ : ∃ pl, putR (newT b) ts false = pl := ⟨_, rfl⟩
  rw [hM] at H5 HO HZ ⊢
  rw [hLs] at H5 HO HZ ⊢
  rw [hN] at C1 H5 HO HZ
  rw [hpl] at C2 HZ
  clear hM hLs hN hpl
  obtain ⟨a, cap, rfl, hr, hl, hm⟩ := h.parts
  have hu := g
  clear h hr g
  obtain ⟨n, hn⟩ : ∃ n, b.recs.length = n := ⟨_, rfl⟩
  rw [hn] at C1 C2 HZ hl ⊢
  clear hn
  obtain ⟨packed, mark, prod, epoch, seq, recs⟩ := b
  simp only at C1 C2 HZ ⊢
  have x0 := Blk.made w #[.bool packed, .bool mark, .int .i64 prod, .int .i64 epoch, .int .i64 seq, .slice a n cap] 43
  have b0 := alloc_below' w (.cells #[.bool packed, .bool mark, .int .i64 prod, .int .i64 epoch, .int .i64 seq, .slice a n cap] 43)
  go_enter Try.func30, Try.ntmps30
  go_wp2_with fail
  generalize w.alloc (.cells #[.bool packed, .bool mark, .int .i64 prod, .int .i64 epoch, .int .i64 seq, .slice a n cap] 43) = w0 at x0 b0 ⊢
  obtain ⟨B, hB⟩ : ∃ B, w.heap.size = B := ⟨_, rfl⟩
  rw [hB] at x0 ⊢
  clear hB
  obtain ⟨c0, c1, c2, c3, c4, c5⟩ := x0.sixC
  go_wp2_with fail
  refine (C1.out w0 b0).mono ?_
  rintro e w1 ⟨rfl, b1⟩
  have x1 := x0.belowS b1
  have B1 := Bstep b0 b1
  clear x0 b0 b1 C1 c0 c1 c2 c3 c4 c5
  have oE := own_emptyT w1 w.heap.size B1.size
  have bE := alloc_below' w1 (.cells #[] 61)
  by_cases h5 : N = 5
  · have d5 : (N == 5) = true := by rw [beq_iff_eq]; exact h5
    obtain ⟨e1, e2⟩ := H5.out h5
    subst h5 e1 e2
    clear H5 HO HZ C2 C3
    go_wp2_with fail
    go_returns
    exact ⟨_, rfl, oE, Bstep B1 bE⟩
  have d5 : (N == 5) = false := by rw [beq_eq_false_iff_ne]; exact h5
  have N5 := Lib.hid h5
  clear h5
  have hu1 := (hu.below B1).below bE
  have BE := Bstep B1 bE
  have x2 := x1.belowS bE
  have hlB := x1.lt
  have hne : Hid ((Value.slice (some ⟨w1.heap.size, 0, none⟩) 0 0).ownBlock ≠ some B) := Lib.hid (by simp only [Value.ownBlock, ne_eq, Option.some.injEq]; omega)
  clear x1 H5
  by_cases h0 : N = 0
  · subst h0
    have d0 : ((0 : Int) == 0) = true := rfl
    obtain ⟨⟨⟨s0, s1⟩, n6⟩, hl20, HT, HF⟩ := HZ.out rfl
    have HT := Lib.hid HT
    have HF := Lib.hid HF
    clear HZ HO N5
    go_wp2_with (at_builtin; refine wp_appAny rfl _ _ rfl w.heap.size (.slice (some ⟨w1.heap.size, 0, none⟩) 0 0) u [] ts rfl rfl oE hu1 (by simp; omega) BE.size ?_; intro v3 w3 own3 g3
                 have B3 := below_row BE oE (Nat.le_refl _) g3
                 have x3 := x2.grown hne.out g3
                 obtain ⟨c0, c1, c2, c3, c4, c5⟩ := x3.sixC
                 have D2 := Lib.hid (C2.out w3 B3 hl20)
                 clear C2 oE bE hu1 BE x2 g3 B1)
    (with_reducible refine D2.out.mono ?_)
    rintro e w4 ⟨v4, rfl, own4, b4⟩
    have B4 := Bstep B3 b4
    have own4b := own4.base B3.size
    clear own4 b4 c0 c1 c2 c3 c4 c5 x3 own3
    go_wp2_with fail
    refine (C3.out w4 v4 pl own4b.ts).mono ?_
    rintro e w5 ⟨rfl, b5⟩
    have B5 := Bstep B4 b5
    have own5 := own4b.below b5
    clear own4b b5 B4
    obtain ⟨tv, htv⟩ : ∃ tv, tsOk pl = tv := ⟨_, rfl⟩
    rw [htv] at HT HF ⊢
    clear htv
    have oE := own_emptyT w5 w.heap.size B5.size
    have bE := Bstep B5 (alloc_below' w5 (.cells #[] 61))
    cases tv with
    | true =>
      obtain ⟨e1, e2⟩ := HT.out rfl
      subst e1 e2
      clear HT HF oE bE
      go_wp2_with fail
      go_returns
      exact ⟨_, rfl, own5, B5⟩
    | false =>
      obtain ⟨e1, e2⟩ := HF.out rfl
      subst e1 e2
      clear HT HF
      go_wp2_with fail
      go_returns
      exact ⟨_, rfl, oE, bE⟩
  · have d0 : (N == 0) = false := by rw [beq_eq_false_iff_ne]; exact h0
    obtain ⟨e1, e2, ok⟩ := HO.out h0 N5.out
    subst e1 e2
    have hl20 := (tsOk_iff.1 ok).1
    have C4 : Hid (∀ W u, Ts W u Ls → Calls Try.prog 53 #[u] W (Same W true)) := Lib.hid fun W u hu => by rw [← ok]; exact C3.out W u Ls hu
    clear HO HZ N5 C3 C2 h0 ok
    go_wp2_with (at_builtin; refine wp_appAny rfl _ _ rfl w.heap.size (.slice (some ⟨w1.heap.size, 0, none⟩) 0 0) u [] Ls rfl rfl oE hu1 (by simp; omega) BE.size ?_; intro v3 w3 own3 g3
                 have B3 := below_row BE oE (Nat.le_refl _) g3
                 have own3' : OwnT w3 w.heap.size v3 Ls := own3
                 clear oE bE hu1 BE x2 g3 B1 own3)
    refine (C4.out w3 v3 own3'.ts).mono ?_
    rintro e w5 ⟨rfl, b5⟩
    have B5 := Bstep B3 b5
    have own5 := own3'.below b5
    go_wp2_with fail
    go_returns
    exact ⟨_, rfl, own5, B5⟩
end Go.Proofs.Ytfapeppocfodpaa
