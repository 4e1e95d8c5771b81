/- Records appended behind others, as many as there are. -/
import Derived.Test.YtaakcikjdphocaaR7
namespace Go.Proofs.Ytaakcikjdphocaa
open Go.ChangeShapes Go.WideShapes Go.ChangeAt Go.RowKit
set_option linter.unusedVariables false

/-- 'append(s, u...)' of records, as a step of a region that draws -/
theorem step_appRm {w : World} {ops : Array Oper} {o : Oper} {a : Act} {K : Act → World → Prop} {Q : Exit → Act → World → Prop} {E : Prop}
    (hg : o.guard = none) (s x : Operand) (hop : o.op = Op.call { callee := Callee.builtin Builtin.append, args := #[s, x], argTypes := #[23, 23] })
    (base : Nat) (v : Value) (n : Nat) (xs : List Value) (hs : a.eval s = v) (hown : w.ownsRow base 34 6 v n xs) (ad : Addr) (m c : Nat) (news : List Value) (hx : a.eval x = .slice (some ad) m c)
    (hl : news.length = m * 6) (hnews : ∀ j u, news[j]? = some u → w.cell? (ad.add j) = some u) (h1 : ∀ u ∈ news, u.oneCell' = true) (hm : 0 < m) (hlen : n + m < 1000000000) (hb : base ≤ w.heap.size)
    (hK : ∀ g cap w', w'.ownsRow base 34 6 (.slice (some ⟨g, 0, none⟩) (n + m) cap) (n + m) (xs ++ news) → w.grownBy w' v.ownBlock → (v.ownBlock = some g ∨ g = w.heap.size) → g < w'.heap.size → K (a.put o.dst (.slice (some ⟨g, 0, none⟩) (n + m) cap)) w') :
    if Region.wanted o (yielded ops a.tmps) = true then Oper.wp Try.prog o a w K Q else E := by
  obtain ⟨i0, hi, hz0, hz1, hz2⟩ := info_parts info_recR
  have hw : Region.wanted o (yielded ops a.tmps) = true := by simp [Region.wanted, hg]
  rw [if_pos hw]
  exact wp_append_lies w s x 23 hop base 34 i0 _ 6 80 Try.underlying23 hi hz0 hz1 hz2 rfl (by decide) v n xs hs hown ad m c news hx hl hnews h1 hm (by unfold maxLen; omega) (by omega) hb w.heap.size rfl hK

theorem blk_put {w : World} {B i : Nat} {u : Value} {cs cs' : Array Value} (h : Blk w B cs) (e : cs.setIfInBounds i u = cs') : Blk (w.setCell ⟨B, i, .none⟩ u) B cs' := e ▸ h.set i u
/-- the cells of a row of records -/
theorem recs_news {w : World} {b off n cap : Nat} {rs : List Rec} (h : Recs w (.slice (some ⟨b, off, none⟩) n cap) rs) :
    ∃ news : List Value, news.length = rs.length * 6 ∧ (∀ j u, news[j]? = some u → w.cell? ((⟨b, off, none⟩ : Addr).add j) = some u) ∧ (∀ u ∈ news, u.oneCell' = true) ∧
      ∀ i, i < rs.length → ∃ kv vv, (news[i * 6]? = some (.int .i64 (recAt rs i).off) ∧ news[i * 6 + 1]? = some (.int .i64 (recAt rs i).time) ∧ news[i * 6 + 2]? = some (.bool (recAt rs i).hk) ∧ news[i * 6 + 3]? = some kv ∧
        news[i * 6 + 4]? = some (.bool (recAt rs i).hv) ∧ news[i * 6 + 5]? = some vv) ∧ Ints w kv (recAt rs i).key ∧ Ints w vv (recAt rs i).val := by
  have key : ∀ j, j < rs.length * 6 → ∃ u, w.cell? ⟨b, off + j, none⟩ = some u ∧ u.oneCell' = true := fun j hj => by
    obtain ⟨kv, vv, h0, h1, h2, h3, h4, h5, hk, hv⟩ := h.rec (j / 6) (by omega)
    obtain ⟨ka, kc, rfl, _⟩ := hk
    obtain ⟨va, vc, rfl, _⟩ := hv
    rcases (show j = j / 6 * 6 ∨ j = j / 6 * 6 + 1 ∨ j = j / 6 * 6 + 2 ∨ j = j / 6 * 6 + 3 ∨ j = j / 6 * 6 + 4 ∨ j = j / 6 * 6 + 5 by omega) with e | e | e | e | e | e
    · rw [e]; exact ⟨_, h0, rfl⟩
    · rw [e]; exact ⟨_, h1, rfl⟩
    · rw [e]; exact ⟨_, h2, rfl⟩
    · rw [e]; exact ⟨_, h3, rfl⟩
    · rw [e]; exact ⟨_, h4, rfl⟩
    · rw [e]; exact ⟨_, h5, rfl⟩
  have at_ : ∀ j, j < rs.length * 6 → ((List.range (rs.length * 6)).map fun j => (w.cell? ⟨b, off + j, none⟩).getD undef)[j]? = w.cell? ⟨b, off + j, none⟩ := fun j hj => by
    obtain ⟨u, hu, _⟩ := key j hj
    rw [List.getElem?_map, List.getElem?_range hj, hu]
    simp [hu]
  refine ⟨(List.range (rs.length * 6)).map fun j => (w.cell? ⟨b, off + j, none⟩).getD undef, by simp, fun j u hu => ?_, fun u hu => ?_, fun i hi => ?_⟩
  · have hj : j < rs.length * 6 := by
      rcases Nat.lt_or_ge j (rs.length * 6) with h' | h'
      · exact h'
      · rw [List.getElem?_eq_none (by simpa using h')] at hu; cases hu
    rw [Addr.add_lit, ← at_ j hj]
    exact hu
  · obtain ⟨j, hj, rfl⟩ := List.mem_map.1 hu
    obtain ⟨u, hu, h1⟩ := key j (by simpa using hj)
    rw [hu]
    exact h1
  · obtain ⟨kv, vv, h0, h1, h2, h3, h4, h5, hk, hv⟩ := h.rec i hi
    refine ⟨kv, vv, ⟨(at_ _ (by omega)).trans h0, (at_ _ (by omega)).trans h1, (at_ _ (by omega)).trans h2, (at_ _ (by omega)).trans h3, (at_ _ (by omega)).trans h4, (at_ _ (by omega)).trans h5⟩, hk, hv⟩
end Go.Proofs.Ytaakcikjdphocaa
