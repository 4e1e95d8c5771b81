/- A region that draws its order, walked by what each operation yields: one proof an operation, whatever order comes up. -/
import Derived.Test.YtfapeppocfodpaaI0
import Derived.WalkKit
import Derived.RegionTactic
namespace Go.Proofs.Ytfapeppocfodpaa
open Go
set_option linter.unusedVariables false

/-- the condition: the slots that the region does not write hold what they held; each operation that has come up has yielded a value with its property; the worlds are as F says -/
def Inv (ops : Array Oper) (a0 : Act) (Pr : Nat → World → Value → Prop) (F : Array Bool → World → Prop) (l : Array Bool) (a : Act) (w : World) : Prop :=
  a.defers = a0.defers ∧ a.tmps.size = a0.tmps.size ∧ (∀ s, s ∉ ops.toList.filterMap (·.dst) → a.tmps.getD s undef = a0.tmps.getD s undef) ∧
  (∀ i o s, ops[i]? = some o → o.dst = some s → l.getD i false = true → Pr i w (a.tmps.getD s undef)) ∧ F l w

theorem getD_set_same (l : Array Bool) (i : Nat) (h : i < l.size) : (l.setIfInBounds i true).getD i false = true := by simp [Array.getD, h]
theorem getD_set_other (l : Array Bool) (i j : Nat) (d : Bool) (h : i ≠ j) : (l.setIfInBounds i true).getD j d = l.getD j d := by
  simp only [Array.getD_eq_getD_getElem?]
  rw [Array.getElem?_setIfInBounds_ne h]
theorem tmps_same (t : Array Value) (s : Nat) (v : Value) (h : s < t.size) : (t.setIfInBounds s v).getD s undef = v := by simp [Array.getD, h]
theorem tmps_other (t : Array Value) (s s' : Nat) (v : Value) (h : s ≠ s') : (t.setIfInBounds s v).getD s' undef = t.getD s' undef := by
  simp only [Array.getD_eq_getD_getElem?]
  rw [Array.getElem?_setIfInBounds_ne h]
theorem nodup_dst {l : List Oper} (hn : (l.filterMap (·.dst)).Nodup) : ∀ (i j : Nat) (o o' : Oper) (s : Nat), l[i]? = some o → l[j]? = some o' → o.dst = some s → o'.dst = some s → i = j := by
  induction l with
  | nil => intro i j o o' s h; simp at h
  | cons x l ih =>
    intro i j o o' s hi hj hs hs'
    have mem : ∀ (k : Nat) (q : Oper), l[k]? = some q → q.dst = some s → s ∈ l.filterMap (·.dst) := fun k q hk hq => List.mem_filterMap.2 ⟨q, List.mem_of_getElem? hk, hq⟩
    have hn' : (l.filterMap (·.dst)).Nodup := by
      cases hx : x.dst with
      | none => rw [List.filterMap_cons_none hx] at hn; exact hn
      | some y => rw [List.filterMap_cons_some hx] at hn; exact (List.nodup_cons.1 hn).2
    have hno : x.dst = some s → s ∉ l.filterMap (·.dst) := fun hx => by
      rw [List.filterMap_cons_some hx] at hn
      exact (List.nodup_cons.1 hn).1
    cases i with
    | zero =>
      simp only [List.getElem?_cons_zero, Option.some.injEq] at hi
      subst hi
      cases j with
      | zero => rfl
      | succ j => exact absurd (mem j o' (by simpa using hj) hs') (hno hs)
    | succ i =>
      cases j with
      | zero =>
        simp only [List.getElem?_cons_zero, Option.some.injEq] at hj
        subst hj
        exact absurd (mem i o (by simpa using hi) hs) (hno hs')
      | succ j => exact congrArg (· + 1) (ih hn' i j o o' s (by simpa using hi) (by simpa using hj) hs hs')

theorem region_inv {P : Program} {ops : Array Oper} {Q : Exit → Act → World → Prop} {id : Nat} {a0 : Act} {w0 : World} (Pr : Nat → World → Value → Prop) (F : Array Bool → World → Prop) (R : World → World → Prop)
    (hm : P.follows .mixedOrders = true) (hd : (ops.toList.filterMap (·.dst)).Nodup) (hlt : ∀ s ∈ ops.toList.filterMap (·.dst), s < a0.tmps.size) (hgd : ops.all (fun o => o.guard.isNone) = true)
    (hac : (List.range ops.size).all (fun i => ((ops[i]?).map fun o => o.after.all fun e => !Region.binds .any e || decide (e.on < i)).getD true) = true)
    (hR : ∀ i w w' v, R w w' → Pr i w v → Pr i w' v)
    (start : F (Array.replicate ops.size false) { w0 with drawn := w0.drawn + 1 })
    (step : ∀ i o, ops[i]? = some o → ∀ l a w, l.size = ops.size → l.getD i true = false → openOps (l.setIfInBounds i true) + 1 = openOps l → o.after.all (fun e => !Region.binds .any e || l.getD e.on false) = true → Inv ops a0 Pr F l a w → ∀ K : Act → World → Prop,
      (∀ v w', R w w' → F (l.setIfInBounds i true) w' → (o.dst ≠ none → Pr i w' v) → K (a.put o.dst v) w') → Oper.wp P o a w K Q)
    (done : ∀ l a w, Inv ops a0 Pr F l a w → (∀ i, i < ops.size → l.getD i false = true) → Q .normal a w) :
    (Code.region id ops true).wp P Q a0 w0 := by
  refine wp_region_any hm (wpAny_inv (I := fun l a w => l.size = ops.size ∧ Inv ops a0 Pr F l a w) ?_ ?_ _ _ _ _ (by simp) ?_ ⟨by simp, rfl, rfl, fun _ _ => rfl, fun i o s _ _ h => ?_, start⟩)
  · rintro l a w ⟨hs, h⟩ hr
    refine done l a w h fun i => ?_
    induction i using Nat.strongRecOn with
    | ind i ih =>
      intro hi
      rcases Bool.eq_false_or_eq_true (l.getD i false) with hl | hl
      · exact hl
      · exfalso
        have hl2 : l.getD i true = false := by
          have : i < l.size := by omega
          simpa [Array.getD, this] using hl
        have hrd : i ∈ Region.ready .any ops l := by
          unfold Region.ready
          refine List.mem_filter.2 ⟨List.mem_range.2 hi, ?_⟩
          rw [hl2, Array.getElem?_eq_getElem hi]
          have h1 := List.all_eq_true.1 hac i (List.mem_range.2 hi)
          rw [Array.getElem?_eq_getElem hi] at h1
          simp only [Option.map_some, Option.getD_some] at h1
          simp only [Option.map_some, Option.getD_some, Bool.not_false, Bool.true_and]
          rw [Array.all_eq_true] at h1 ⊢
          intro k hk
          have h2 := h1 k hk
          rw [Bool.or_eq_true] at h2 ⊢
          rcases h2 with h2 | h2
          · exact .inl h2
          · have h3 := of_decide_eq_true h2
            exact .inr (ih _ h3 (by omega))
        rw [hr] at hrd
        cases hrd
  · rintro l a w i ⟨hs, h⟩ hi
    obtain ⟨h1, h2⟩ := ready_open hi
    obtain ⟨o, ho⟩ : ∃ o, ops[i]? = some o := ⟨_, Array.getElem?_eq_getElem h1⟩
    refine wpOp_step ho fun K' hK' => ?_
    have hgo : o.guard = none := by
      rw [Array.all_eq_true] at hgd
      have := hgd i h1
      rw [Array.getElem?_eq_getElem h1, Option.some.injEq] at ho
      rw [← ho]
      simpa using this
    have hwn : Region.wanted o (yielded ops a.tmps) = true := by simp [Region.wanted, hgo]
    rw [if_pos hwn]
    refine step i o ho l a w hs h2 (open_set (by omega) h2) (ready_edge hi ho) h K' fun v w' hr hF hP => hK' _ _ ?_
    obtain ⟨q1, q2, q3, q4, _⟩ := h
    refine ⟨by simpa using hs, ?_⟩
    cases hdst : o.dst with
    | none =>
      refine ⟨q1, q2, q3, fun j o' s hj hs' hl => ?_, hF⟩
      by_cases e : i = j
      · subst e
        rw [ho] at hj
        simp only [Option.some.injEq] at hj
        subst hj
        rw [hdst] at hs'
        cases hs'
      · rw [getD_set_other _ _ _ _ e] at hl
        exact hR _ _ _ _ hr (q4 j o' s hj hs' hl)
    | some t =>
      have hmem : t ∈ ops.toList.filterMap (·.dst) := List.mem_filterMap.2 ⟨o, List.mem_of_getElem? (by simpa using ho), hdst⟩
      have htl : t < a.tmps.size := by rw [q2]; exact hlt t hmem
      refine ⟨q1, (Array.size_setIfInBounds ..).trans q2, fun s hs => ?_, fun j o' s hj hs' hl => ?_, hF⟩
      · show (a.tmps.setIfInBounds t v).getD s undef = _
        rw [tmps_other _ _ _ _ (fun e => hs (by rw [← e]; exact hmem))]
        exact q3 s hs
      · show Pr j w' ((a.tmps.setIfInBounds t v).getD s undef)
        by_cases e : i = j
        · subst e
          rw [ho] at hj
          simp only [Option.some.injEq] at hj
          subst hj
          rw [hdst] at hs'
          simp only [Option.some.injEq] at hs'
          subst hs'
          rw [tmps_same _ _ _ htl]
          exact hP (by rw [hdst]; simp)
        · have hst : t ≠ s := fun e2 => e (nodup_dst hd i j o o' t (by simpa using ho) (by simpa using hj) hdst (e2 ▸ hs'))
          rw [getD_set_other _ _ _ _ e] at hl
          rw [tmps_other _ _ _ _ hst]
          exact hR _ _ _ _ hr (q4 j o' s hj hs' hl)
  · show openOps (Array.replicate ops.size false) ≤ ops.size
    unfold openOps
    simp
  · exfalso
    simp only [Array.getD_eq_getD_getElem?, Array.getElem?_replicate] at h
    split at h <;> simp at h
end Go.Proofs.Ytfapeppocfodpaa
