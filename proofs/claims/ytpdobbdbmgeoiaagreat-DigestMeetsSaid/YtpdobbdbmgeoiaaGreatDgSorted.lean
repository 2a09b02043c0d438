/-
  No statement: slices.Sorted over slices.Values, of keys that rise: the same keys in new memory.
-/
import Derived.Test.YtpdobbdbmgeoiaaGreatDgOf
import Derived.Test.YtpdobbdbmgeoiaaGreatShelf
import Derived.RangeFuncBox
import Derived.RangeFuncLeaves
import Derived.Shelf.Abstract
import Derived.WalkKit
import Derived.OwnWalkIn
import Derived.TacticsInMore
import Derived.LoopNIn
import Derived.LoopIn
import Derived.Maps.AppendAt
import Derived.Sort.OwnSorted
set_option linter.unusedVariables false
set_option linter.unusedSimpArgs false
namespace Go.Proofs.YtpdobbdbmgeoiaaGreat
open Go.RowKit Go.Shelf Go.Sort
attribute [local go_sem] Oper.semAt_some

theorem take_at (kl : List ByteArray) {k : Nat} (h : k < kl.length) : kl.take (k + 1) = kl.take k ++ [atS kl k] := by
  rw [List.take_add_one, List.getElem?_eq_getElem h, atS_lt h]; rfl

set_option maxRecDepth 100000 in
set_option maxHeartbeats 2000000 in
/-- What slices.Values answers, called with a loop's rounds. -/
theorem vals_in (n : Nat) (l Bs n₀ : Nat) (a : Option Addr) (cap : Nat) (kl : List ByteArray) (hlen : kl.length ≤ 1000) (J Jx : List ByteArray → World → Prop)
    (hY : ∀ pre x W, J pre W → pre.length < kl.length → YieldAt Fence.wide n Tryz.prog l #[.string x] W fun e W' =>
      (e = .returned (.bool true) ∧ J (pre ++ [x]) W' ∧ Below n₀ W W') ∨ (e = .returned (.bool false) ∧ Jx (pre ++ [x]) W'))
    (W : World) (hBs : W.cell? ⟨Bs, 0, none⟩ = some (.slice a kl.length cap)) (hc : ReadsSG (fun q => q < n₀) W a kl.length (atS kl)) (h0 : J [] W) :
    CallsIn Fence.wide (n + 1) Tryz.prog 101 #[.func (.yield l) #[] #[], .pointer (some ⟨Bs, 0, none⟩)] W fun e W' => (∃ v, e = .returned v) ∧
      ((∃ ys, ys = kl ∧ J ys W') ∨ (∃ pre, pre <+: kl ∧ Jx pre W')) := by
  refine callsIn_of_wp Tryz.func101 rfl trivial ?_ rfl
  simp only [Tryz.ntmps101, List.size_toArray, List.length_cons, List.length_nil, Nat.reduceAdd, Nat.reduceSub, Array.replicate_succ, Array.replicate_zero, List.push_toArray, List.append_toArray, List.nil_append, List.cons_append]
  obtain ⟨len, hl⟩ : ∃ len, kl.length = len := ⟨_, rfl⟩
  have HL := Lib.hid hl
  rw [hl] at hBs hc hY hlen
  clear hl
  gi_wp2
  gi_loopw [7] (fun i wr => ∃ k : Nat, k ≤ len ∧ i = .int .i64 k ∧ J (kl.take k) wr ∧ Below n₀ W wr)
    (fun i _ => len - (intOf i).toNat)
  case atStart => exact ⟨0, Nat.zero_le _, rfl, h0, Below.refl _ _⟩
  case round =>
    obtain ⟨k, hk, rfl, hJs, hnx⟩ := hrel
    by_cases hlt : k < len
    · have hlt2 : k < kl.length := by rw [HL.out]; exact hlt
      obtain ⟨b, off, rfl, hb, hcx⟩ := hc.cells hlt
      have HK := Lib.hid (take_at kl hlt2)
      obtain ⟨x, hx⟩ : ∃ x, atS kl k = x := ⟨_, rfl⟩
      rw [hx] at hcx HK
      have hcx' : wr.cell? ⟨b, off + k, none⟩ = some (.string x) := (hnx.cell (p := ⟨b, off + k, none⟩) hb).trans hcx
      obtain ⟨fn, tmps, assign, body, hy, hR⟩ := hY _ x wr hJs (by rw [List.length_take, HL.out]; omega)
      clear hx hlt2 hcx
      gi_wp2
      refine hR.mono ?_
      rintro e W3 (⟨rfl, hJ3, hk3⟩ | ⟨rfl, hJx3⟩)
      · gi_wp2
        go_roundw
        case rel => exact ⟨k + 1, by omega, by simp, by rw [HK.out]; exact hJ3, hnx.trans hk3⟩
        case measure => simp [intOf]; omega
      · gi_wp2
        refine bodyPost_ret (results_none rfl _ _ _) rfl ?_
        exact ⟨⟨_, rfl⟩, .inr ⟨_, HK.out ▸ List.take_prefix _ _, hJx3⟩⟩
    · obtain rfl : k = len := by omega
      gi_wp2
      go_end0
      exact ⟨⟨_, rfl⟩, .inl ⟨_, by rw [List.take_of_length_le (by rw [HL.out]; exact Nat.le_refl _)], hJs⟩⟩

/-- slices.Values answers its function over a box. -/
theorem values_any (a : Option Addr) (len cap : Nat) (w : World) :
    Calls Tryz.prog 65 #[.slice a len cap] w fun e w' => e = .returned (.func (.func 101) #[] #[.pointer (some ⟨w.heap.size, 0, none⟩)]) ∧ w' = w.alloc (.cells #[.slice a len cap] 51) := by
  go_enter Tryz.func65, Tryz.ntmps65
  go_wp2
  go_ret
  exact ⟨rfl, rfl⟩

theorem vals_stops (n Bs n₀ : Nat) (a : Option Addr) (cap : Nat) (kl : List ByteArray) (hlen : kl.length ≤ 1000) (w : World) (hBs : Bs < n₀) (hn₀ : n₀ ≤ w.heap.size)
    (hc : w.cell? ⟨Bs, 0, none⟩ = some (.slice a kl.length cap)) (hI : ReadsSG (fun q => q < n₀) w a kl.length (atS kl)) :
    SeqStopsK Fence.wide (n + 1) Tryz.prog 101 #[.pointer (some ⟨Bs, 0, none⟩)] (fun x : ByteArray => #[Value.string x]) (Below n₀) (fun ys => ys = kl) (fun pre => pre <+: kl) kl.length w := fun l J Jx W hW _ _ hY h0 => by
  have hc' := (hW.cell (p := ⟨Bs, 0, none⟩) (by show Bs < w.heap.size; omega)).trans hc
  have hI' : ReadsSG (fun q => q < n₀) W a kl.length (atS kl) := hI.kept (keptBelow hW) (fun q hq h => by omega)
  exact vals_in n l Bs n₀ a cap kl hlen J Jx hY W hc' hI' h0

set_option maxRecDepth 100000 in
set_option maxHeartbeats 2000000 in
theorem appendSeq_any (Bs : Nat) (a : Option Addr) (cap : Nat) (kl : List ByteArray) (hlen : kl.length ≤ 1000) (w : World) (hBs : Bs < w.heap.size)
    (hc0 : w.cell? ⟨Bs, 0, none⟩ = some (.slice a kl.length cap)) (hI : ReadsSG (fun q => q < w.heap.size) w a kl.length (atS kl)) :
    Calls Tryz.prog 119 #[.slice none 0 0, .func (.func 101) #[] #[.pointer (some ⟨Bs, 0, none⟩)]] w fun e w' =>
      ∃ v, e = .returned v ∧ OwnS w' w.heap.size v kl ∧ Below w.heap.size w w' := by
  rw [← callsIn_wide (n := 5)]
  obtain ⟨i0, hi, hz0, hz1, hz2⟩ := info_parts infoSd
  refine callsIn_of_wp_marks Tryz.func119 rfl trivial ?_ rfl
  simp only [Tryz.ntmps119, List.size_toArray, List.length_cons, List.length_nil, Nat.reduceAdd, Nat.reduceSub, Array.replicate_succ, Array.replicate_zero, List.push_toArray, List.append_toArray, List.nil_append, List.cons_append]
  gi_wp2
  have bO := Boxed.new w 51 (.slice none 0 0)
  have hB0 : Below w.heap.size w (w.alloc (.cells #[.slice none 0 0] 51)) := (Below.refl _ w).alloc (Nat.le_refl _) _
  have hI0 : ReadsSG (fun q => q < w.heap.size) (w.alloc (.cells #[.slice none 0 0] 51)) a kl.length (atS kl) := hI.kept (keptNew hB0) (fun _ _ h => h)
  refine wpIn_rangeFunc_ownG rfl (by omega) (gf := 101) (lb := #[.pointer (some ⟨Bs, 0, none⟩)]) rfl trivial (enters_of Tryz.func101 (by kernel_rfl) rfl)
    (vals_stops 3 Bs w.heap.size a cap kl hlen _ hBs (by simp) ((hB0.cell (p := ⟨Bs, 0, none⟩) hBs).trans hc0) hI0) belowK_t (belowK_b (by simp)) (Below.refl _ _) (fun _ => rfl)
    (fun pre W => (∃ v, Boxed W w.heap.size 51 v ∧ W.ownsRow w.heap.size 9 1 v pre.length (pre.map Value.string) ∧ True) ∧ Below w.heap.size w W)
    (fun _ _ _ => False)
    (OwnFrom.and (Own.from (holdsRow_own w.heap.size w.heap.size 51 9 1 (fun pre : List ByteArray => pre.length) (fun pre => pre.map Value.string) (fun pre v => True)) _) (ownFrom_below (Nat.le_refl _) (by simp)))
    (fun _ _ _ _ _ hs _ _ => hs)
    ⟨⟨_, bO, World.ownsRow_nil _ _ _ _, trivial⟩, hB0⟩
    (fun x => { tmps := #[.slice none 0 0, .func (.func 101) #[] #[.pointer (some ⟨Bs, 0, none⟩)], .pointer (some ⟨w.heap.size, 0, none⟩), undef, .slice none 0 0, .string x, .func (.func 101) #[] #[.pointer (some ⟨Bs, 0, none⟩)], .string x, undef, undef, undef, undef, undef], defers := [] }) ?assign ?body ?done ?stop
  case assign =>
    intro l x W K hK
    gi_wp2
    exact hK
  case body =>
    rintro l pre x W ⟨⟨v, hv, hrow, -⟩, hB⟩ hlt
    have hc := hv.cell
    gi_wp2_with (gi_at_builtin; refine wpListIn_append_own _ rfl _ _ 51 rfl w.heap.size 9 i0 (.string ⟨#[]⟩) 1 16 Tryz.underlying51 hi hz0 hz1 hz2 rfl (by decide) _ _ _ rfl (hrow.alloc _) ⟨W.heap.size, 0, none⟩ 1 1 [.string x] rfl rfl (cell_one_new _ _ _) (by simp [Value.oneCell']) (by unfold maxLen; omega) (by omega) (by have := hB.size; simp; omega) ?_; intro v' w1 hown' hgrow _; obtain ⟨g', cap', rfl⟩ := ownsRow_succ hown'; obtain ⟨hv1, hv2, hr2, hk2, hb2⟩ := hv.appended (by decide) hrow hB.size (Nat.le_refl _) hown' hgrow; have hc1 := hv1.cell; have hf1 := hv1.frozen)
    exact ⟨hk2.from _, hb2, ⟨_, hv2, by rw [List.length_append, List.map_append]; exact hr2, trivial⟩, hB.trans hb2⟩
  case done =>
    rintro D ys W hD rfl ⟨⟨v, hv, hrow, -⟩, hB⟩ hK
    have hc := hv.cell
    gi_wp2
    refine ⟨by simp, .inl ⟨_, _, rfl, run_takeDeferred hK, ?_⟩⟩
    exact ⟨_, results_tmp rfl _ _ _, v, rfl, ownsRow_putObj hrow _ hK rfl, hB.trans (belowK_b (w := w) (Nat.le_refl _) W D _ _ (by simp at hD; omega) hK rfl rfl)⟩
  case stop =>
    rintro D c pre W _ _ h _
    exact h.elim

theorem collect_any (Bs : Nat) (a : Option Addr) (cap : Nat) (kl : List ByteArray) (hlen : kl.length ≤ 1000) (w : World) (hBs : Bs < w.heap.size)
    (hc0 : w.cell? ⟨Bs, 0, none⟩ = some (.slice a kl.length cap)) (hI : ReadsSG (fun q => q < w.heap.size) w a kl.length (atS kl)) :
    Calls Tryz.prog 99 #[.func (.func 101) #[] #[.pointer (some ⟨Bs, 0, none⟩)]] w fun e w' =>
      ∃ v, e = .returned v ∧ OwnS w' w.heap.size v kl ∧ Below w.heap.size w w' := by
  have C := Lib.hid (appendSeq_any Bs a cap kl hlen w hBs hc0 hI)
  clear hc0 hI
  go_enter Tryz.func99, Tryz.ntmps99
  go_wp2_with fail
  refine C.out.mono ?_
  rintro e w' ⟨v, rfl, ho, hb⟩
  have P := Lib.hid (And.intro ho hb)
  clear ho hb
  go_wp2_with fail
  go_ret
  exact ⟨v, rfl, P.out⟩

theorem enc_str (s : ByteArray) : encStr s.data.toList = .string s := by
  cases s; simp [encStr]

theorem rise_merge {kl : List ByteArray} (h : Rising lsS kl) : (kl.map (·.data.toList)).mergeSort (fun x y => decide (x ≤ y)) = kl.map (·.data.toList) := by
  apply List.mergeSort_of_pairwise
  rw [List.pairwise_map]
  refine h.imp ?_
  intro x y hxy
  simp only [decide_eq_true_eq]
  have h1 : Op.bytesLess x.data.toList y.data.toList = true := by
    have : Op.bytesLess x.toList y.toList = true := hxy
    rwa [Lib.toList_data, Lib.toList_data] at this
  rw [bytesLess_eq] at h1
  exact Std.le_of_lt (by simpa using h1)

set_option maxRecDepth 100000 in
set_option maxHeartbeats 2000000 in
theorem sorted_any (Bs : Nat) (a : Option Addr) (cap : Nat) (kl : List ByteArray) (hlen : kl.length ≤ 1000) (hr : Rising lsS kl) (w : World) (hBs : Bs < w.heap.size)
    (hc0 : w.cell? ⟨Bs, 0, none⟩ = some (.slice a kl.length cap)) (hI : ReadsSG (fun q => q < w.heap.size) w a kl.length (atS kl)) :
    Calls Tryz.prog 64 #[.func (.func 101) #[] #[.pointer (some ⟨Bs, 0, none⟩)]] w fun e w' =>
      (∃ va vc, e = .returned (.slice va kl.length vc) ∧ OwnS w' w.heap.size (.slice va kl.length vc) kl) ∧ Below w.heap.size w w' := by
  have C := Lib.hid (collect_any Bs a cap kl hlen w hBs hc0 hI)
  have HR := Lib.hid (rise_merge hr)
  clear hc0 hI hr
  go_enter Tryz.func64, Tryz.ntmps64
  go_wp2_with fail
  refine C.out.mono ?_
  rintro e W ⟨v, rfl, hrow, hb⟩
  have hm : kl.map Value.string = (kl.map (·.data.toList)).map encStr := by rw [List.map_map]; exact List.map_congr_left (fun s _ => (enc_str s).symm)
  have hrow' := hrow
  rcases hrow.2 with ⟨rfl, hz⟩ | ⟨gb, cp, cur, rfl, hbase, hgb, r1, r2, r3, r4⟩
  · have hkl : kl = [] := List.eq_nil_of_length_eq_zero hz
    subst hkl
    have P := Lib.hid (And.intro hrow' hb)
    have CS := Lib.hid (Tryz.slices_Sort_string_none none 0 W)
    clear hrow hrow' hb C HR hm
    go_wp2_with fail
    refine CS.out.mono ?_
    rintro e w' ⟨rfl, rfl⟩
    go_wp2_with fail
    go_ret
    exact ⟨⟨none, 0, rfl, P.out.1⟩, P.out.2⟩
  · have hH : Holds encStr W gb 0 (kl.map (·.data.toList)).toArray := holds_of_block hgb (by rw [List.length_map, ← hm]; simpa using r4)
    have CS := Tryz.slices_Sort_string gb 0 cp (kl.map (·.data.toList)) W hH (lt_of_block hgb) (by rw [List.length_map]; omega)
    rw [List.length_map, HR.out] at CS
    have CS' := Lib.hid CS
    have P : Hid (∀ nn os, OwnS (grow (putRow encStr (Sort.ahead W nn) gb 0 (kl.map (·.data.toList)).toArray) os) w.heap.size (.slice (some ⟨gb, 0, none⟩) kl.length cp) kl ∧ Below w.heap.size w (grow (putRow encStr (Sort.ahead W nn) gb 0 (kl.map (·.data.toList)).toArray) os)) := Lib.hid (fun nn os => ⟨by
        have := ownsRow_sorted (n := nn) (os := os) (ss := kl.map (·.data.toList)) (ts := kl.map (·.data.toList)) rfl hbase hgb (by rw [List.length_map]; exact r1) r2 r3
        rw [List.length_map, ← hm] at this
        exact this, hb.grown (grownBy_sorted _) hb.size (fun j hj => by cases hj; exact hbase)⟩)
    clear hrow hrow' hb C HR hm CS hH hgb r1 r2 r3 r4 hbase
    go_wp2_with fail
    refine CS'.out.mono ?_
    rintro e w' ⟨rfl, nn, os, rfl⟩
    have PP := Lib.hid (P.out nn os)
    generalize grow (putRow encStr (Sort.ahead W nn) gb 0 (kl.map (·.data.toList)).toArray) os = X at PP ⊢
    go_wp2_with fail
    go_ret
    exact ⟨⟨_, _, rfl, PP.out.1⟩, PP.out.2⟩

end Go.Proofs.YtpdobbdbmgeoiaaGreat
