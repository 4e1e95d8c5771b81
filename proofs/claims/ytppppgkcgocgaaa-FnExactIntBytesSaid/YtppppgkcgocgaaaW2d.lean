/- Chapter 2: bytes as digits of base 16. -/
import Derived.Test.YtppppgkcgocgaaaW2
import Derived.Laws.Concat
import Derived.Laws.BytesArg
import Derived.Deep.QuietTactic
import Derived.BigQuiet
import Derived.Deep.RegionLaw
namespace Go.Proofs.Ytppppgkcgocgaaa
open Go.ChangeShapes Go.WideShapes Go.ChangeAt Go.RowKit
set_option linter.unusedVariables false

theorem str_append (xs ys : List Int) : strOfNums xs ++ strOfNums ys = strOfNums (xs ++ ys) := by
  unfold strOfNums
  rw [ByteArray.mk_append_mk, List.map_append]
theorem str_add {P : Program} {w : World} (xs ys : List Int) (h : xs.length + ys.length ≤ 1000000000000) : (Op.stringOp .add (strOfNums xs) (strOfNums ys)).run P w = .ok (.string (strOfNums (xs ++ ys))) w := by
  rw [← str_append]
  exact run_string_add_sum w (strOfNums xs) (strOfNums ys) (by rw [strOfNums_size, strOfNums_size]; omega)
theorem hex_slice (i : Nat) (h : i < 16) : (ByteArray.mk #[48, 49, 50, 51, 52, 53, 54, 55, 56, 57, 97, 98, 99, 100, 101, 102]).extract i (i + 1) = strOfNums [hexD (i : Int)] := by
  match i, h with
  | 0, _ => rfl
  | 1, _ => rfl
  | 2, _ => rfl
  | 3, _ => rfl
  | 4, _ => rfl
  | 5, _ => rfl
  | 6, _ => rfl
  | 7, _ => rfl
  | 8, _ => rfl
  | 9, _ => rfl
  | 10, _ => rfl
  | 11, _ => rfl
  | 12, _ => rfl
  | 13, _ => rfl
  | 14, _ => rfl
  | 15, _ => rfl
  | n + 16, h => omega

def StrRes (xs : List Int) (w : World) (e : Ending) (w' : World) : Prop := e = .returned (.string (strOfNums xs)) ∧ Below w.heap.size w w'

theorem spec_BytesText (v : Value) (xs : List Int) (w : World) (h : Ints w v xs) (hs : xs.length ≤ 1000000000) :
    Calls Try.prog 28 #[v] w (StrRes (textB xs) w) := by
  have hv := h
  obtain ⟨a, cap, rfl, hl, hm, hc⟩ := h
  unfold maxLen at hm
  have Hv := Lib.hid hv
  have Hc := Lib.hid hc
  clear hv hc
  cases hok : okBs xs with
  | false =>
    have hlen : 0 < xs.length := by
      rcases Nat.eq_zero_or_pos xs.length with h0 | h0
      · rw [List.eq_nil_of_length_eq_zero h0] at hok; cases hok
      · exact h0
    have C1 := Lib.hid (spec_l1Ok _ xs w Hv.out)
    rw [hok] at C1
    rw [textB_no hok]
    clear hok
    go_enter Try.func28, Try.ntmps28
    go_wp2
    refine wp_loop_rounds 1 ?_
    rw [rounds_succ]
    go_wp2_with fail
    refine C1.out.mono ?_
    rintro e w1 ⟨rfl, rfl⟩
    go_wp2_with fail
    go_ret
    exact ⟨rfl, Below.refl _ _⟩
  | true =>
    rw [textB_ok hok]
    have Hok := Lib.hid hok
    clear hok
    go_enter Try.func28, Try.ntmps28
    go_wp2
    go_loopw [4, 5] (fun s i wr => ∃ k : Nat, k ≤ xs.length ∧ i = .int .i64 k ∧ s = .string (strOfNums (hexB (xs.take k))) ∧ Below w.heap.size w wr) (fun _ i _ => xs.length - (intOf i).toNat)
    case atStart => exact ⟨0, Nat.zero_le _, rfl, rfl, Below.refl _ _⟩
    case round =>
      obtain ⟨k, hk, rfl, rfl, hbel⟩ := hrel
      have C1 := Lib.hid (spec_l1Ok _ xs wr (Hv.out.below hbel))
      rw [Hok.out] at C1
      by_cases hlt : k < xs.length
      · obtain ⟨b, off, rfl, hcell⟩ := Hc.out (by omega)
        have hx := (hbel.cell (World.block_lt_of_cell? w _ (hcell k hlt))).trans (hcell k hlt)
        have hxb := okBs_at Hok.out k hlt
        clear hcell
        obtain ⟨x, ex⟩ : ∃ x, xs.getD k 0 = x := ⟨_, rfl⟩
        rw [ex] at hx hxb
        obtain ⟨x0, x1⟩ := hxb
        have hsn := hexB_snoc (xs.take k) x
        rw [← take_snoc0 xs k hlt x ex] at hsn
        have hlen : (hexB (xs.take k)).length = 2 * k := by rw [hexB_len, List.length_take]; omega
        obtain ⟨ts, ets⟩ : ∃ ts, hexB (xs.take k) = ts := ⟨_, rfl⟩
        rw [ets] at hsn hlen ⊢
        obtain ⟨i, hi⟩ := Int.eq_ofNat_of_zero_le (show 0 ≤ x / 16 by omega)
        obtain ⟨j, hj⟩ := Int.eq_ofNat_of_zero_le (show 0 ≤ x % 16 by omega)
        have i16 : i < 16 := by omega
        have j16 : j < 16 := by omega
        have e1 := hex_slice i i16
        have e2 := hex_slice j j16
        have a1 : ∀ w' : World, (Op.stringOp .add (strOfNums ts) (strOfNums [hexD (i : Int)])).run Try.prog w' = .ok (.string (strOfNums (ts ++ [hexD (i : Int)]))) w' := fun w' => str_add _ _ (by simp; omega)
        have a2 : ∀ w' : World, (Op.stringOp .add (strOfNums (ts ++ [hexD (i : Int)])) (strOfNums [hexD (j : Int)])).run Try.prog w' = .ok (.string (strOfNums (ts ++ [hexD (i : Int)] ++ [hexD (j : Int)]))) w' := fun w' => str_add _ _ (by simp; omega)
        have hfin : hexB (xs.take (k + 1)) = ts ++ [hexD (i : Int)] ++ [hexD (j : Int)] := by
          rw [hsn, ← hi, ← hj]; simp [hex2]
        have t1 : x.tdiv 16 = (i : Int) := by rw [Int.tdiv_eq_ediv_of_nonneg x0]; exact hi
        have t2 : x.tmod 16 = (j : Int) := by rw [Int.tmod_eq_emod_of_nonneg x0]; exact hj
        have s1 : IntKind.i64.wrap ((i : Int) + 1) = (i : Int) + 1 := IntWalk.i64_in _ ⟨by omega, by omega⟩
        have s2 : IntKind.i64.wrap ((j : Int) + 1) = (j : Int) + 1 := IntWalk.i64_in _ ⟨by omega, by omega⟩
        have n1 : ((i : Int) + 1).toNat = i + 1 := by omega
        have n2 : ((j : Int) + 1).toNat = j + 1 := by omega
        have k0 : (0 : Int) ≤ (k : Int) := by omega
        have k1 : (k : Int) < (xs.length : Int) := by omega
        have Hfin := Lib.hid hfin
        clear hsn ets ex hi hj hlen hfin
        go_wp2_with fail
        refine C1.out.mono ?_
        rintro e w1 ⟨rfl, rfl⟩
        go_wp2_with fail
        go_quiet (fail)
        go_wp2
        go_roundw
        case rel => exact ⟨k + 1, by omega, by go_num, by rw [Hfin.out]; simp, below_drewN hbel _⟩
        case measure => simp [intOf]; omega
      · obtain rfl : k = xs.length := by omega
        rw [List.take_length]
        go_wp2
        go_ret
        exact ⟨rfl, hbel⟩

theorem hex_at (i : Nat) (h : i < 16) (h' : i < (ByteArray.mk #[48, 49, 50, 51, 52, 53, 54, 55, 56, 57, 97, 98, 99, 100, 101, 102]).size) : (((ByteArray.mk #[48, 49, 50, 51, 52, 53, 54, 55, 56, 57, 97, 98, 99, 100, 101, 102])[i]'h').toNat : Int) = hexD (i : Int) := by
  match i, h, h' with
  | 0, _, _ => rfl
  | 1, _, _ => rfl
  | 2, _, _ => rfl
  | 3, _, _ => rfl
  | 4, _, _ => rfl
  | 5, _, _ => rfl
  | 6, _, _ => rfl
  | 7, _, _ => rfl
  | 8, _, _ => rfl
  | 9, _, _ => rfl
  | 10, _, _ => rfl
  | 11, _, _ => rfl
  | 12, _, _ => rfl
  | 13, _, _ => rfl
  | 14, _, _ => rfl
  | 15, _, _ => rfl
  | n + 16, h, _ => omega

/-- v is a slice of bytes that the call itself made -/
def OwnB (w : World) (base : Nat) (v : Value) (xs : List Int) : Prop := w.ownsRow base 5 1 v xs.length (xs.map (Value.int .u8))
theorem info_u8 : (Try.prog.info? 5).map (fun i => (i.zero, i.size, i.bytes)) = some (some (.int .u8 0), 1, 1) := by kernel_rfl

/-- 'make([]byte, 0, n)' -/
theorem wp_makeB0 {w : World} {ops : Array Oper} {rest : List Oper} {o : Oper} {a : Act} {Q : Exit → Act → World → Prop}
    (hg : o.guard = none) (l c : Operand) (hop : o.op = Op.makeSlice 22 l c)
    (base : Nat) (C : Int) (n : Nat) (hl : a.eval l = .int .i64 0) (hc : a.eval c = .int .i64 C) (hC : C = (n : Int)) (b2 : n ≤ 1000000000000) (b4 : base ≤ w.heap.size)
    (hK : ∀ w', OwnB w' base (.slice (some ⟨w.heap.size, 0, none⟩) 0 n) [] → w.grownBy w' none → wpList Try.prog ops Q rest (a.put o.dst (.slice (some ⟨w.heap.size, 0, none⟩) 0 n)) w') :
    wpList Try.prog ops Q (o :: rest) a w := by
  obtain ⟨i0, hi, hz0, hz1, hz2⟩ := info_parts info_u8
  exact wpList_make_own w hg l c 22 hop base 5 i0 (.int .u8 0) 1 Try.underlying22 hi hz0 hz1 .i64 .i64 C n hl hc hC (by rw [hz2]; omega) (by unfold maxLen; omega) b4 hK

/-- 'append(s, p, q)' on bytes, as a step of a region that draws -/
theorem step_app2B {w : World} {ops : Array Oper} {o : Oper} {a : Act} {K : Act → World → Prop} {Q : Exit → Act → World → Prop} {E : Prop}
    (hg : o.guard = none) (s x : Operand) (hop : o.op = Op.call { callee := Callee.builtin Builtin.append, args := #[s, x], argTypes := #[22, 22] })
    (base : Nat) (v : Value) (xs : List Int) (p q : Int) (hs : a.eval s = v) (hx : a.eval x = .slice (some ⟨w.heap.size, 0, none⟩) 2 2)
    (hown : OwnB w base v xs) (hlen : xs.length < 10000000000) (hb : base ≤ w.heap.size)
    (hK : ∀ v' w', OwnB w' base v' (xs ++ [p, q]) → w.grownBy w' v.ownBlock → K (a.put o.dst v') w') :
    if Region.wanted o (yielded ops a.tmps) = true then Oper.wp Try.prog o a (w.alloc (.cells #[.int .u8 p, .int .u8 q] 5)).drew K Q else E := by
  obtain ⟨i0, hi, hz0, hz1, hz2⟩ := info_parts info_u8
  have hlt := World.ownsRow.lt hown
  have hw : Region.wanted o (yielded ops a.tmps) = true := by simp [Region.wanted, hg]
  rw [if_pos hw]
  have own2 := World.ownsRow.alloc hown (.cells #[.int .u8 p, .int .u8 q] 5)
  obtain ⟨v', w', hrun, r1, r2, _⟩ := run_append_own (P := Try.prog) (w.alloc (.cells #[.int .u8 p, .int .u8 q] 5)).drew base 22 o.type 5 i0 (.int .u8 0) 1 1 Try.underlying22 hi hz0 hz1 hz2 rfl (by decide) v xs.length (xs.map (Value.int .u8)) own2 ⟨w.heap.size, 0, none⟩ 2 2 [.int .u8 p, .int .u8 q] rfl (by
    intro j u hj
    match j, hj with
    | 0, hj => simp at hj; subst hj; simp [Addr.add]
    | 1, hj => simp at hj; subst hj; simp [Addr.add]) (by
    intro u hu
    simp at hu
    rcases hu with rfl | rfl <;> rfl) (by unfold maxLen; omega) (by omega) (by simp; omega)
  unfold Oper.wp
  simp [execOp, hop, resolve, invoke, builtin, hs, hx, hrun, Result.andThen]
  refine hK v' w' ?_ (grown_of_alloc ⟨r2.os, r2.tape, r2.output, r2.size, r2.block⟩ fun k hk => (hlt k hk).2)
  unfold OwnB
  simpa using r1

theorem impl_BytesText (v : Value) (xs : List Int) (w : World) (h : Ints w v xs) (hs : xs.length ≤ 1000000000) :
    Calls Try.prog 27 #[v] w (StrRes (textB xs) w) := by
  have hv := h
  obtain ⟨a, cap, rfl, hl, hm, hc⟩ := h
  unfold maxLen at hm
  have C1 := Lib.hid (impl_areBytes _ xs w hv)
  have Hc := Lib.hid hc
  clear hv hc
  cases hok : okBs xs with
  | false =>
    rw [hok] at C1
    rw [textB_no hok]
    clear hok
    go_enter Try.func27, Try.ntmps27
    go_wp2_with fail
    refine C1.out.mono ?_
    rintro e w1 ⟨rfl, rfl⟩
    go_wp2_with fail
    go_ret
    exact ⟨rfl, Below.refl _ _⟩
  | true =>
    rw [hok] at C1
    rw [textB_ok hok]
    have Hok := Lib.hid hok
    clear hok
    go_enter Try.func27, Try.ntmps27
    go_wp2_with fail
    refine C1.out.mono ?_
    rintro e w1 ⟨rfl, rfl⟩
    go_wp2_with (at_make; refine wp_makeB0 rfl _ _ rfl w.heap.size _ (2 * xs.length) rfl rfl (by go_num) (by omega) (Nat.le_refl _) ?_; intro w0 hown0 hgrow0)
    have hb0 : Below w.heap.size w w0 := (Below.refl _ _).grown hgrow0 (Nat.le_refl _) (fun k hk => by cases hk)
    go_loopw [3, 15] (fun u i wr => ∃ k : Nat, k ≤ xs.length ∧ i = .int .i64 k ∧ OwnB wr w.heap.size u (hexB (xs.take k)) ∧ Below w.heap.size w wr) (fun _ i _ => xs.length - (intOf i).toNat)
    case atStart => exact ⟨0, Nat.zero_le _, rfl, hown0, hb0⟩
    case round =>
      obtain ⟨k, hk, rfl, hown, hbel⟩ := hrel
      by_cases hlt : k < xs.length
      · obtain ⟨b, off, rfl, hcell⟩ := Hc.out (by omega)
        have hx := (hbel.cell (World.block_lt_of_cell? w _ (hcell k hlt))).trans (hcell k hlt)
        have hxb := okBs_at Hok.out k hlt
        clear hcell
        obtain ⟨x, ex⟩ : ∃ x, xs.getD k 0 = x := ⟨_, rfl⟩
        rw [ex] at hx hxb
        obtain ⟨x0, x1⟩ := hxb
        have hsn := hexB_snoc (xs.take k) x
        rw [← take_snoc0 xs k hlt x ex] at hsn
        have hlen : (hexB (xs.take k)).length = 2 * k := by rw [hexB_len, List.length_take]; omega
        obtain ⟨ts, ets⟩ : ∃ ts, hexB (xs.take k) = ts := ⟨_, rfl⟩
        rw [ets] at hsn hlen hown
        obtain ⟨i, hi⟩ := Int.eq_ofNat_of_zero_le (show 0 ≤ x / 16 by omega)
        obtain ⟨j, hj⟩ := Int.eq_ofNat_of_zero_le (show 0 ≤ x % 16 by omega)
        have i16 : i < 16 := by omega
        have j16 : j < 16 := by omega
        have t1 : x.tdiv 16 = (i : Int) := by rw [Int.tdiv_eq_ediv_of_nonneg x0]; exact hi
        have t2 : x.tmod 16 = (j : Int) := by rw [Int.tmod_eq_emod_of_nonneg x0]; exact hj
        have hl2 : ts.length ≤ 2000000000 := by omega
        have Hfin : Hid (hexB (xs.take (k + 1)) = ts ++ [hexD (i : Int), hexD (j : Int)]) := by
          rw [hsn, ← hi, ← hj]; rfl
        clear hsn ets ex hi hj hlen
        go_wp2_with fail
        have s1 : IntKind.i64.wrap (i : Int) = (i : Int) := IntWalk.i64_in _ ⟨by omega, by omega⟩
        have b1 : (i : Int) < 16 := by omega
        have b2 : (j : Int) < 16 := by omega
        have b3 : (0 : Int) ≤ (i : Int) := by omega
        have b4 : (0 : Int) ≤ (j : Int) := by omega
        have g1 := hex_at i i16 (by show i < 16; exact i16)
        have g2 := hex_at j j16 (by show j < 16; exact j16)
        have hsz := hbel.size
        go_region_law (refine step_app2B rfl (.tmp 19) (.tmp 26) rfl w.heap.size u3 ts _ _ rfl rfl hown (by omega) hsz ?_; intro v' w1 hown1 hgrow1)
        go_wp2
        all_goals rw [← Hfin.out] at hown1
        all_goals exact ⟨⟨k + 1, by omega, by go_num, hown1, hbel.grown hgrow1 hsz (fun q hq => (World.ownsRow.lt hown q hq).1)⟩, by simp [intOf]; omega⟩
      · obtain rfl : k = xs.length := by omega
        rw [List.take_length] at hown
        have hconv : ∀ dst, Try.prog.underlying dst = some .string → (convert 22 dst u3).run Try.prog wr = .ok (.string (strOfNums (hexB xs))) wr := by
          rcases hown.2 with ⟨rfl, h0⟩ | ⟨g, cap', cur, rfl, _⟩
          · intro dst hd
            rw [show hexB xs = [] from List.eq_nil_of_length_eq_zero h0]
            exact run_convert_bytes_nil wr 22 5 Try.underlying22 Try.underlying5 0 0 dst hd
          · refine run_convert_bytes_arg wr 22 5 Try.underlying22 Try.underlying5 g 0 _ cap' (hexB xs) rfl ?_
            intro i hi
            rw [Nat.zero_add, World.ownsRow.cellAt hown i (by omega)]
            simp [List.getD, hi]
        have hc2 := hconv 9 Try.underlying9
        clear hconv
        go_wp2
        go_ret
        exact ⟨rfl, hbel⟩
end Go.Proofs.Ytppppgkcgocgaaa
