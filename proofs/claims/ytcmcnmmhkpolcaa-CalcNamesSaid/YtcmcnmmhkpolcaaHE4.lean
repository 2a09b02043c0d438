/-
  No statement: what these walks need, of earlier texts: GSort, GNames, GFoldE, GFace, EBare, HNum, HMul, HRMul, GMade, HBits.
-/
import Derived.Test.YtcmcnmmhkpolcaaHE3
import Derived.WalkKit
import Derived.WalkSpells
import Derived.Lib.Hide
import Derived.Deep.Draws
import Derived.Sort.Walk0
import Derived.Lib.ParseIntB
import Derived.Lib.AtoiErrMem
import Derived.Lib.AppendIntMem
import Derived.Test.YtcmcnmmhkpolcaaShelf
import Derived.Test.YtcmcnmmhkpolcaaProg
import Derived.IntWalk
import Derived.LoopTactic
import Derived.StillTailTactics
import Derived.Deep.QuietTactic
import Derived.BigQuiet
import Derived.RangeFuncRecord
import Derived.ArgAppend
import Derived.OwnWalk
import Derived.BigRegion
import Derived.Deep.Cut
import Derived.Deep.RegionLaw
import Derived.Deep.RegionHeld3
import Derived.Shelf.Spec.SearchS
import Derived.Lib.AppendZerosOnto
import Derived.Lib.SliceRun
import Derived.Laws.IdiomStrings
import Derived.Lib.OwnBridge
import Derived.Lib.SlicesCompact
import Derived.Sort.OwnSorted
namespace Go.Proofs.Ytcmcnmmhkpolcaa
section
open Go.RowKit

theorem le_iff_not {x y : List UInt8} : x ≤ y ↔ Op.bytesLess y x = false := by
  rw [bytesLess_eq]
  simp [List.not_lt]

theorem srt_pair (l : List (List UInt8)) : (l.mergeSort fun x y => decide (x ≤ y)).Pairwise (fun a b => Op.bytesLess b a = false) := by
  have h := List.pairwise_mergeSort (le := fun x y : List UInt8 => decide (x ≤ y)) (fun a b c h1 h2 => by
    simp only [decide_eq_true_eq] at h1 h2 ⊢
    exact List.le_trans h1 h2) (fun a b => by
    simp only [Bool.or_eq_true, decide_eq_true_eq]
    exact List.le_total a b) l
  refine h.imp (fun hab => ?_)
  exact le_iff_not.1 (by simpa using hab)

/-- What compact keeps of a sorted list rises, and has the same elements. -/
theorem compact_rise (d : Array (List UInt8)) (hd : d.toList.Pairwise (fun a b => Op.bytesLess b a = false)) : ∀ m, m ≤ d.size →
    (Lib.compactUpTo d m).Pairwise (fun a b => Op.bytesLess a b = true) ∧ (∀ x, x ∈ Lib.compactUpTo d m ↔ ∃ j, j < m ∧ x = d[j]!)
  | 0, _ => ⟨by simp [Lib.compactUpTo], by simp [Lib.compactUpTo]⟩
  | m + 1, hm => by
    obtain ⟨h1, h2⟩ := compact_rise d hd m (by omega)
    have hle : ∀ i j, i < j → j < d.size → Op.bytesLess d[j]! d[i]! = false := fun i j hij hj => by
      have := List.pairwise_iff_getElem.1 hd i j (by simp; omega) (by simpa using hj) hij
      rw [getElem!_pos d j hj, getElem!_pos d i (by omega)]
      simpa using this
    rw [Lib.compactUpTo_succ]
    by_cases hk : Lib.keeps d m = true
    · rw [if_pos hk]
      have hne : m = 0 ∨ d[m]! ≠ d[m - 1]! := by simpa [Lib.keeps] using hk
      refine ⟨List.pairwise_append.2 ⟨h1, List.pairwise_singleton _ _, fun x hx y hy => ?_⟩, fun x => ?_⟩
      · rw [List.mem_singleton.1 hy]
        obtain ⟨j, hj, rfl⟩ := (h2 x).1 hx
        have hm0 : m ≠ 0 := by omega
        have hne2 : d[m]! ≠ d[m - 1]! := hne.resolve_left hm0
        cases hb : Op.bytesLess d[j]! d[m]! with
        | true => rfl
        | false =>
          exfalso
          have e1 := bytesLess_total d[j]! d[m]! hb (hle j m hj (by omega))
          -- d[j] = d[m], and d[m-1] lies between
          have e2 : d[m - 1]! = d[m]! := by
            rcases Nat.lt_or_ge j (m - 1) with h | h
            · have a1 := hle (m - 1) m (by omega) (by omega)
              have a2 := hle j (m - 1) h (by omega)
              rw [e1] at a2
              exact bytesLess_total _ _ a2 a1
            · obtain rfl : j = m - 1 := by omega
              exact e1
          exact hne2 e2.symm
      · rw [List.mem_append, h2, List.mem_singleton]
        constructor
        · rintro (⟨j, hj, rfl⟩ | rfl)
          · exact ⟨j, by omega, rfl⟩
          · exact ⟨m, by omega, rfl⟩
        · rintro ⟨j, hj, rfl⟩
          by_cases hjm : j = m
          · subst hjm; exact .inr rfl
          · exact .inl ⟨j, by omega, rfl⟩
    · rw [if_neg hk, List.append_nil]
      have he : m ≠ 0 ∧ d[m]! = d[m - 1]! := by
        have := hk
        simp [Lib.keeps] at this
        exact ⟨this.1, this.2⟩
      refine ⟨h1, fun x => ?_⟩
      rw [h2]
      constructor
      · rintro ⟨j, hj, rfl⟩; exact ⟨j, by omega, rfl⟩
      · rintro ⟨j, hj, rfl⟩
        by_cases hjm : j = m
        · subst hjm
          exact ⟨j - 1, by omega, he.2⟩
        · exact ⟨j, by omega, rfl⟩

/-- Texts sorted and compacted. -/
def uniqT (l : List ByteArray) : List (List UInt8) := Lib.compact ((l.map (·.data.toList)).mergeSort fun x y => decide (x ≤ y))

theorem uniqT_rise (l : List ByteArray) : Rising lsS ((uniqT l).map (fun x => (⟨x.toArray⟩ : ByteArray))) ∧ ∀ y : ByteArray, y ∈ (uniqT l).map (fun x => (⟨x.toArray⟩ : ByteArray)) ↔ y ∈ l := by
  have hs := srt_pair (l.map (·.data.toList))
  obtain ⟨S, hS⟩ : ∃ S, ((l.map (·.data.toList)).mergeSort fun x y => decide (x ≤ y)) = S := ⟨_, rfl⟩
  have hmem : ∀ x, x ∈ S ↔ x ∈ l.map (·.data.toList) := fun x => by rw [← hS]; exact List.mem_mergeSort
  unfold uniqT
  rw [hS] at hs ⊢
  obtain ⟨h1, h2⟩ := compact_rise S.toArray (by simpa using hs) S.length (by simp)
  refine ⟨?_, fun y => ?_⟩
  · unfold Rising
    rw [List.pairwise_map]
    refine h1.imp (fun hab => ?_)
    unfold lsS
    rw [Lib.toList_data, Lib.toList_data]
    exact hab
  · rw [List.mem_map]
    constructor
    · rintro ⟨x, hx, rfl⟩
      obtain ⟨j, hj, rfl⟩ := (h2 x).1 hx
      have hin : S.toArray[j]! ∈ S := by
        rw [getElem!_pos S.toArray j (by simpa using hj)]
        simp
      obtain ⟨z, hz, e⟩ := List.mem_map.1 ((hmem _).1 hin)
      have : (⟨(S.toArray[j]!).toArray⟩ : ByteArray) = z := by rw [← e]
      rw [this]; exact hz
    · intro hy
      have hin : y.data.toList ∈ S := (hmem _).2 (List.mem_map.2 ⟨y, hy, rfl⟩)
      obtain ⟨j, hj, e⟩ := List.getElem_of_mem hin
      refine ⟨y.data.toList, (h2 _).2 ⟨j, hj, ?_⟩, rfl⟩
      rw [getElem!_pos S.toArray j (by simpa using hj)]
      simp [e]

end

section
open Go.RowKit Go.Sort

theorem srt_end {w w1 : World} {g cap n nn q : Nat} {os : Array Obj} {B : Nat} {ss : List (List UInt8)} (hown : w1.ownsRow B 9 1 (.slice (some ⟨g, 0, none⟩) n cap) n (ss.map encStr)) (hbel : Below B w w1) (hB : B ≤ w1.heap.size) (hlen : ss.length = n) :
    (putRow encStr (Sort.ahead (grow (putRow encStr (Sort.ahead w1 nn) g 0 (ss.mergeSort fun x y => decide (x ≤ y)).toArray) os) q) g 0 (Lib.compact (ss.mergeSort fun x y => decide (x ≤ y)) ++ List.replicate (n - (Lib.compact (ss.mergeSort fun x y => decide (x ≤ y))).length) []).toArray).ownsRow B 9 1 (.slice (some ⟨g, 0, none⟩) (Lib.compact (ss.mergeSort fun x y => decide (x ≤ y))).length cap) (Lib.compact (ss.mergeSort fun x y => decide (x ≤ y))).length ((Lib.compact (ss.mergeSort fun x y => decide (x ≤ y))).map encStr) ∧
    Below B w (putRow encStr (Sort.ahead (grow (putRow encStr (Sort.ahead w1 nn) g 0 (ss.mergeSort fun x y => decide (x ≤ y)).toArray) os) q) g 0 (Lib.compact (ss.mergeSort fun x y => decide (x ≤ y)) ++ List.replicate (n - (Lib.compact (ss.mergeSort fun x y => decide (x ≤ y))).length) []).toArray) := by
  have hl2 : (ss.mergeSort fun x y => decide (x ≤ y)).length = ss.length := List.length_mergeSort ss
  have hle := Lib.compact_length_le (ss.mergeSort fun x y => decide (x ≤ y))
  subst hlen
  rcases hown.2 with ⟨h0, _⟩ | ⟨g', cap', cur, hv, hbase, hb, h1, h2, h3, h4⟩
  · cases h0
  cases hv
  have hs := ownsRow_sorted (n := nn) (os := os) (ts := ss.mergeSort fun x y => decide (x ≤ y)) hl2 hbase hb h1 h2 h3
  have hc := Lib.ownsRow_putRow (q := q) (k := (Lib.compact (ss.mergeSort fun x y => decide (x ≤ y))).length) (ys := Lib.compact (ss.mergeSort fun x y => decide (x ≤ y)) ++ List.replicate (ss.length - (Lib.compact (ss.mergeSort fun x y => decide (x ≤ y))).length) []) hs (by simp; omega) (by omega)
  rw [List.take_left] at hc
  exact ⟨hc, Lib.below_putRow (hbel.grown (grownBy_sorted _) hB (fun j hj => by cases hj; exact hbase)) hbase⟩

theorem uniq_names {t : TN} (h : OkT t) : (uniqT (nmsL (preF t.f))).map (fun x => (⟨x.toArray⟩ : ByteArray)) = namesT t := by
  have hu := uniqT_rise (nmsL (preF t.f))
  rw [pre_names t.f h] at hu ⊢
  exact namesT_of hu.1 hu.2

theorem nms_take {l : List TN} {k : Nat} (hk : k < l.length) : nmsL (l.take (k + 1)) = nmsL (l.take k) ++ (if isName l[k].op = true then [l[k].nm] else []) := by
  rw [List.take_succ_eq_append_getElem hk, nms_app]
  congr 1
  unfold nmsL
  by_cases h : isName l[k].op = true
  · rw [if_pos h, List.filter_cons_of_pos (by exact h)]; rfl
  · rw [if_neg h, List.filter_cons_of_neg (by exact h)]; rfl

set_option maxHeartbeats 8000000 in
set_option maxRecDepth 100000 in
theorem pNames_any (t : TN) (G : Nat → Prop) (w : World) (a : Option Addr) (c : Nat) (ho : OkT t) (hn : NumsF t.f) (hs : sizeT t ≤ 32) (hr : ReadsN G w a t.ks) :
    Calls Try.prog 17 #[nodeV t.op t.nm t.n a t.ks.len c] w fun e w' => ∃ v, e = .returned v ∧ w'.ownsRow w.heap.size 9 1 v (namesT t).length ((namesT t).map Value.string) ∧ Below w.heap.size w w' := by
  have hun := uniq_names ho
  obtain ⟨nt, hnt⟩ : ∃ r, namesT t = r := ⟨_, rfl⟩
  rw [hnt] at hun ⊢
  clear hnt
  obtain ⟨i0, hi, hz0, hz1, hz2⟩ := info_parts infoT
  have und : Try.prog.underlying 45 = some (.slice 9) := Try.underlying45
  have BA := (Below.refl w.heap.size w).alloc (Nat.le_refl _) (ndG t.op t.nm t.n a t.ks.len c)
  have NB := heap_alloc_new w (ndG t.op t.nm t.n a t.ks.len c)
  have CF := foldL_any t G (w.alloc (ndG t.op t.nm t.n a t.ks.len c)) a c ⟨okI_of t ho hn, by omega⟩ (fun _ _ => trivial) (hr.kept BA)
  have hz : w.heap.size ≤ (w.alloc (ndG t.op t.nm t.n a t.ks.len c)).heap.size := BA.size
  generalize hW : w.alloc (ndG t.op t.nm t.n a t.ks.len c) = W at BA NB CF hz
  have HCF := Lib.hid CF
  have HB := Lib.hid BA
  have HW := Lib.hid hW
  have H32 := Lib.hid hs
  have HU := Lib.hid hun
  have hpl : (preF t.f).length ≤ 1000 := by have := pre_len t.f; rw [sizeF_tree] at this; omega
  obtain ⟨⟨m0, m1, m2, m3⟩, -⟩ := four NB
  clear hW BA NB CF hr hs ho hn hun
  obtain ⟨l, hl⟩ : ∃ l, preF t.f = l := ⟨_, rfl⟩
  have HLl := Lib.hid hl
  rw [hl] at HU hpl
  clear hl
  go_enter Try.func17, Try.ntmps17
  go_upto_region 1 with fail
  rw [HW.out]
  go_wp2_with fail
  refine HCF.out.mono ?_
  rintro e w2 ⟨hb2, hA, -⟩
  obtain ⟨v, rfl, hv⟩ := hA H32.out
  obtain ⟨b, off, cc, rfl, L2⟩ := hv.lst
  rw [HLl.out] at L2 ⊢
  have HL2 := Lib.hid L2
  have hz2w := hb2.size
  have B2 := Lib.hid (HB.out.trans (hb2.mono hz))
  have BR := Lib.hid (Below.refl w2.heap.size w2)
  clear hb2 hA hv L2 HCF m0 m1 m2 m3
  go_wp2_with fail
  go_loopw [5, 15] (fun s i wr => ∃ (k : Nat) (va : Option Addr) (vc : Nat) (ns : List ByteArray), s = .slice va ns.length vc ∧ i = .int .i64 k ∧ k ≤ l.length ∧ ns.length ≤ k ∧ Hid (ns = nmsL (l.take k)) ∧ Hid (wr.ownsRow w2.heap.size 9 1 (.slice va ns.length vc) ns.length (ns.map Value.string)) ∧ Hid (Below w2.heap.size w2 wr)) (fun _ i _ => l.length - (intOf i).toNat)
  case atStart => exact ⟨0, none, 0, [], rfl, rfl, Nat.zero_le _, Nat.zero_le _, Lib.hid rfl, Lib.hid (World.ownsRow_nil _ _ _ _), BR⟩
  case round =>
    obtain ⟨k, va, vc, ns, rfl, rfl, hk, hnk, hN, hO, hB⟩ := hrel
    have hzr := hB.out.size
    by_cases hlt : k < l.length
    · obtain ⟨p, x0, x1, x2, x3⟩ := (HL2.out.below hB.out).node hlt
      have HT := Lib.hid (nms_take hlt)
      have BA1 := (Below.refl wr.heap.size wr).alloc (Nat.le_refl _) (ndG l[k].op l[k].nm l[k].n p.1 l[k].ks.len p.2)
      have NB1 := heap_alloc_new wr (ndG l[k].op l[k].nm l[k].n p.1 l[k].ks.len p.2)
      have hs1 : (wr.alloc (ndG l[k].op l[k].nm l[k].n p.1 l[k].ks.len p.2)).heap.size = wr.heap.size + 1 := World.size_alloc _ _
      generalize hV : wr.alloc (ndG l[k].op l[k].nm l[k].n p.1 l[k].ks.len p.2) = V at BA1 NB1 hs1
      have HV := Lib.hid hV
      generalize l[k] = tk at x0 x1 x2 x3 HT NB1 HV
      obtain ⟨⟨n0, n1, n2, n3⟩, -⟩ := four NB1
      have HBV := Lib.hid (hB.out.trans (BA1.mono (by omega)))
      have OV := Lib.hid (owns_below hO.out BA1)
      clear hV NB1 BA1
      cases hnm : isName tk.op with
      | true =>
        have g2 := op_yes hnm
        unfold bName at g2
        rw [hnm, if_pos rfl, ← hN.out] at HT
        have BN := (Below.refl V.heap.size V).alloc (Nat.le_refl _) (.cells #[.string tk.nm] 9)
        have F2 := Lib.hid (show ∀ j u, [Value.string tk.nm][j]? = some u → (V.alloc (.cells #[.string tk.nm] 9)).cell? ((⟨V.heap.size, 0, none⟩ : Addr).add j) = some u from fun j u hj => by
          rw [Addr.add_lit, Nat.zero_add, cell_of_row _ _ _ _ _ (0, 0) (heap_alloc_new V _)]
          simpa using hj)
        have HBN := Lib.hid BN
        have HBN2 := Lib.hid (HBV.out.trans (BN.mono (by omega)))
        have hns : ns.length ≤ 1000 := by omega
        rw [hs1] at F2
        clear hnm BN
        go_upto_region 6 with fail
        rw [HV.out]
        clear x0 x1 x2 x3
        go_wp2_with (at_builtin; refine wpList_append_new rfl _ _ 45 rfl und hi hz0 hz1 hz2 rfl (by decide) (.slice va ns.length vc) ns.length 1 1 ⟨wr.heap.size + 1, 0, none⟩ (ns.map Value.string) [Value.string tk.nm] rfl rfl (owns_below OV.out HBN.out) rfl F2.out (fun u hu => by rw [List.mem_singleton.1 hu]; rfl) (by unfold maxLen; omega) (by omega) (by rw [World.size_alloc]; omega) ?_)
        intro v3 w3 ho3 hg3 _
        obtain ⟨va3, vc3, rfl⟩ := own_rowG ho3
        have e1 : ns.length + 1 = (ns ++ [tk.nm]).length := by simp
        have e2 : ns.map Value.string ++ [Value.string tk.nm] = (ns ++ [tk.nm]).map Value.string := by simp
        rw [e1, e2] at ho3
        have O3 := Lib.hid ho3
        have B3 := Lib.hid (HBN2.out.grown hg3 (by rw [World.size_alloc]; omega) (fun q hq => (OV.out.lt q hq).1))
        have N3 := Lib.hid (show ns ++ [tk.nm] = nmsL (l.take (k + 1)) from HT.out.symm)
        have hl3 : (ns ++ [tk.nm]).length ≤ k + 1 := by simp; omega
        rw [e1]
        clear ho3 hg3 e1 e2 n0 n1 n2 n3
        go_wp2_with fail
        go_roundw
        case rel => exact ⟨k + 1, va3, vc3, ns ++ [tk.nm], rfl, by go_num, by omega, hl3, N3, O3, B3⟩
        case measure => simp [intOf]; omega
      | false =>
        have g2 := op_not hnm
        unfold bName at g2
        rw [hnm, if_neg (by decide), List.append_nil, ← hN.out] at HT
        have N3 := Lib.hid HT.out.symm
        clear hnm
        go_upto_region 6 with fail
        rw [HV.out]
        clear x0 x1 x2 x3
        go_wp2_with fail
        go_roundw
        case rel => exact ⟨k + 1, va, vc, ns, rfl, by go_num, by omega, by omega, N3, OV, HBV⟩
        case measure => simp [intOf]; omega
    · obtain rfl : k = l.length := by omega
      have hns : ns = nmsL l := by have := hN.out; rwa [List.take_length] at this
      rw [← hns] at HU
      have B3 := Lib.hid (B2.out.trans (hB.out.mono (by omega)))
      have hns9 : ns.length ≤ 1000 := by omega
      clear hns hN
      by_cases h0 : ns = []
      · subst h0
        obtain rfl : nt = [] := by rw [← HU.out]; simp [uniqT, Lib.compact, Lib.compactUpTo]
        have O4 := Lib.hid (owns_mono hO.out (show w.heap.size ≤ w2.heap.size by omega))
        have CS := Lib.hid (Try.slices_Sort_string_none va vc wr)
        have CC := Lib.hid (Try.slices_Compact_string_empty va vc wr)
        clear HU
        go_wp2_with fail
        refine CS.out.mono ?_
        rintro e w4 ⟨rfl, rfl⟩
        go_wp2_with fail
        refine CC.out.mono ?_
        rintro e w5 ⟨rfl, rfl⟩
        go_wp2_with fail
        go_ret
        exact ⟨_, rfl, O4.out, B3.out⟩
      · have hne : Value.slice va ns.length vc ≠ .slice none 0 0 := by
          intro e
          simp only [Value.slice.injEq] at e
          exact h0 (List.length_eq_zero_iff.1 e.2.1)
        have hO' := hO.out
        rw [← Lib.map_encStr] at hO'
        obtain ⟨g, cap, hv, hbg, hgl, hncap, hcm, hlen, hH⟩ := Lib.holds_of_ownsRow hO' hne
        simp only [Value.slice.injEq, true_and] at hv
        obtain ⟨rfl, rfl⟩ := hv
        have CS := Try.slices_Sort_string g 0 vc (ns.map (·.data.toList)) wr hH hgl (by omega)
        rw [hlen] at CS
        have HCS := Lib.hid CS
        have HOW := Lib.hid (owns_mono hO' (show w.heap.size ≤ w2.heap.size by omega))
        have HH := Lib.hid hH
        have HLEN := Lib.hid hlen
        have hbw : w.heap.size ≤ wr.heap.size := by omega
        clear CS hO' hne h0 hH hlen
        go_wp2_with fail
        refine HCS.out.mono ?_
        rintro e w4 ⟨rfl, nn, os, rfl⟩
        have hl2 : ((ns.map (·.data.toList)).mergeSort fun x y => decide (x ≤ y)).length = ns.length := by rw [List.length_mergeSort]; exact HLEN.out
        have hH2 : Holds encStr (grow (putRow encStr (Sort.ahead wr nn) g 0 ((ns.map (·.data.toList)).mergeSort fun x y => decide (x ≤ y)).toArray) os) g 0 ((ns.map (·.data.toList)).mergeSort fun x y => decide (x ≤ y)).toArray :=
          holds_grow encStr _ os g 0 _ (by simpa [putRow, mapBlock, Sort.ahead] using hgl) (holds_putRow encStr _ g 0 _ _ (holds_ahead encStr wr nn g 0 _ HH.out) (by simp))
        have CC := Try.slices_Compact_string g 0 vc ((ns.map (·.data.toList)).mergeSort fun x y => decide (x ≤ y)) _ hH2 (by omega) (by omega)
        rw [hl2] at CC
        have HCC := Lib.hid CC
        clear CC hl2 hH2 HCS
        generalize hX : grow (putRow encStr (Sort.ahead wr nn) g 0 ((ns.map (·.data.toList)).mergeSort fun x y => decide (x ≤ y)).toArray) os = X at HCC ⊢
        have HX := Lib.hid hX
        clear hX
        go_wp2_with fail
        refine HCC.out.mono ?_
        rintro e w5 ⟨rfl, q, rfl⟩
        have P := srt_end (nn := nn) (q := q) (os := os) HOW.out B3.out hbw HLEN.out
        rw [HX.out] at P
        have hfin : (Lib.compact ((ns.map (·.data.toList)).mergeSort fun x y => decide (x ≤ y))) = nt.map (·.data.toList) := by
          rw [← HU.out, List.map_map]
          unfold uniqT
          conv => lhs; rw [← List.map_id (Lib.compact _)]
          rfl
        rw [hfin] at P ⊢
        rw [Lib.map_encStr, List.length_map] at P
        rw [List.length_map]
        have HP := Lib.hid P
        clear P hfin
        generalize putRow encStr _ _ _ _ = Y at HP ⊢
        go_wp2_with fail
        go_ret
        exact ⟨_, rfl, HP.out.1, HP.out.2⟩

end

section
open Go.RowKit

/-- What foldWithin does at a tree. -/
def FoldE (t : TN) : Prop := ∀ (G : Nat → Prop) (lb : Nat) (w : World) (a : Option Addr) (c l : Nat), l ≤ 1000 → PreE t → (∀ b, G b → b ≠ lb) → WdE lb w → ReadsN G w a t.ks → w.heap[lb]? = some (.cells #[.int .i64 l] 3 (0, 0)) →
  Calls Try.prog 53 #[.pointer (some ⟨lb, 0, none⟩), nodeV t.op t.nm t.n a t.ks.len c, .func (.func 42) #[] #[]] w fun e w' => Kept (· = lb) w w' ∧
    (sizeT t ≤ l → ∃ v, e = .returned (.tuple #[v, .bool true]) ∧ ResE (fun b => w.heap.size ≤ b) w' t v) ∧
    (sizeT t ≤ l → w'.heap[lb]? = some (.cells #[.int .i64 ((l - sizeT t : Nat) : Int)] 3 (0, 0))) ∧
    (¬ sizeT t ≤ l → e = .returned (.tuple #[.int .i64 0, .bool false]))

set_option maxHeartbeats 8000000 in
set_option maxRecDepth 100000 in
theorem foldE_step (t : TN) (ih : EachF FoldE t.ks) : FoldE t := by
  intro G lb w a c l hl hpre hG hwd hr hlb
  obtain ⟨i0, hi, hz0, hz1, hz2⟩ := info_parts infoE
  have und : Try.prog.underlying 93 = some (.slice 60) := Try.underlying93
  have hlt := (Array.getElem?_eq_some_iff.1 hlb).1
  have IH := Lib.hid ih
  have R := Lib.hid hr
  have PRE := Lib.hid hpre
  have HG := Lib.hid hG
  have WD := Lib.hid hwd
  have BA := (Below.refl w.heap.size w).alloc (Nat.le_refl _) (ndG t.op t.nm t.n a t.ks.len c)
  have NB := heap_alloc_new w (ndG t.op t.nm t.n a t.ks.len c)
  have LB1 := (BA.block lb hlt).trans hlb
  have hs0 : (w.alloc (ndG t.op t.nm t.n a t.ks.len c)).heap.size = w.heap.size + 1 := World.size_alloc _ _
  generalize hW : w.alloc (ndG t.op t.nm t.n a t.ks.len c) = W at BA NB LB1 hs0
  have HW := Lib.hid hW
  have hsize : sizeT t = 1 + sizeF t.ks := rfl
  have hlen := len_size t.ks
  have K1 := (kept_below BA (· = lb)).setCell (p := ⟨lb, 0, none⟩) (.inl rfl) (.int .i64 ((l : Int) - 1))
  have LB2 := one_set LB1 (.int .i64 ((l : Int) - 1))
  have NB2 := ((Kept.refl (· = lb) W).setCell (p := ⟨lb, 0, none⟩) (.inl rfl) (.int .i64 ((l : Int) - 1))).heap NB (by omega)
  have hs1 : (W.setCell ⟨lb, 0, none⟩ (.int .i64 ((l : Int) - 1))).heap.size = w.heap.size + 1 := by rw [World.size_setCell]; exact hs0
  obtain ⟨lc, lf⟩ := one_cell LB1
  by_cases hstop : (l : Int) - 1 < (t.ks.len : Int)
  · have P := Lib.hid (show ¬ sizeT t ≤ l by omega)
    generalize hV : W.setCell ⟨lb, 0, none⟩ (.int .i64 ((l : Int) - 1)) = V at K1 LB2 NB2 hs1
    have HV := Lib.hid hV
    obtain ⟨lc2, -⟩ := one_cell LB2
    obtain ⟨⟨m0, m1, m2, m3⟩, -⟩ := four NB2
    have HK1 := Lib.hid K1
    clear hr hpre hG ih hwd hlb hW hV K1 LB1 LB2 NB NB2 BA hsize
    go_enter Try.func53, Try.ntmps53
    go_upto_region 2 with fail
    rw [HW.out]
    go_upto_region 3 with fail
    rw [HV.out]
    go_wp2_with (go_quiet (fail))
    go_ret2
    exact ⟨HK1.out.drewN _, fun h => absurd h P.out, fun h => absurd h P.out, fun _ => rfl⟩
  · obtain ⟨l', rfl⟩ : ∃ l', l = l' + 1 := ⟨l - 1, by omega⟩
    have hcast : (((l' + 1 : Nat) : Int) - 1) = (l' : Int) := by omega
    rw [hcast] at K1 LB2 NB2 hs1 hstop
    generalize hV : W.setCell ⟨lb, 0, none⟩ (.int .i64 (l' : Int)) = V at K1 LB2 NB2 hs1
    have HV := Lib.hid hV
    obtain ⟨lc2, -⟩ := one_cell LB2
    obtain ⟨⟨m0, m1, m2, m3⟩, -⟩ := four NB2
    have HK1 := Lib.hid K1
    have HLB := Lib.hid LB2
    have HNB := Lib.hid NB2
    have hll : t.ks.len ≤ l' := by omega
    have b9 : ¬ (l' : Int) < (t.ks.len : Int) := hstop
    clear hr hpre hG ih hwd hlb hW hV K1 LB1 LB2 NB NB2 BA hstop hcast
    go_enter Try.func53, Try.ntmps53
    go_upto_region 2 with fail
    rw [HW.out]
    go_upto_region 3 with fail
    rw [HV.out]
    go_upto_region 5 with (go_quiet (fail))
    have HK2 := Lib.hid (HK1.out.drewN nq)
    have HLB2 := Lib.hid (show (V.drewN nq).heap[lb]? = _ from HLB.out)
    have HNB2 := Lib.hid (show (V.drewN nq).heap[w.heap.size]? = _ from HNB.out)
    have hsV : (V.drewN nq).heap.size = w.heap.size + 1 := hs1
    have n3 : (V.drewN nq).cell? ⟨w.heap.size, 3, none⟩ = some (.slice a t.ks.len c) := m3
    generalize V.drewN nq = U at HK2 HLB2 HNB2 hsV n3 ⊢
    clear m0 m1 m2 m3 lc lf lc2 HW HV HK1 HLB HNB
    go_wp2_with fail
    go_loopw [9, 30] (fun kv i wr => ∃ (k x : Nat) (va : Option Addr) (vc : Nat) (vs : List Value), kv = .slice va k vc ∧ i = .int .i64 k ∧ k ≤ t.ks.len ∧ x + sizeF t.ks = l' + sizeF (t.ks.drop k) ∧ Hid (wr.ownsRow (w.heap.size + 1) 60 1 (.slice va k vc) k vs) ∧
      Hid (∀ j t2, j < k → t.ks.at j = some t2 → ∃ v, vs[j]? = some v ∧ ResE (fun b => w.heap.size + 1 ≤ b ∧ (Value.slice va k vc).ownBlock ≠ some b) wr t2 v) ∧ Hid (wr.heap[lb]? = some (.cells #[.int .i64 x] 3 (0, 0))) ∧ Hid (Kept (· = lb) w wr) ∧ Hid (wr.heap[w.heap.size]? = some (ndG t.op t.nm t.n a t.ks.len c))) (fun _ i _ => t.ks.len - (intOf i).toNat)
    case atStart => exact ⟨0, l', none, 0, [], rfl, rfl, Nat.zero_le _, by rw [F.drop_zero], Lib.hid (World.ownsRow_nil _ _ _ _), Lib.hid (fun _ _ h => absurd h (Nat.not_lt_zero _)), HLB2, HK2, HNB2⟩
    case round =>
      obtain ⟨k, x, va, vc, vs, rfl, rfl, hk, hx, hO, hV, hL, hK, hN⟩ := hrel
      clear n3
      obtain ⟨⟨m0, m1, m2, m3⟩, -⟩ := four hN.out
      have hz := hK.out.size
      by_cases hkl : k < t.ks.len
      · obtain ⟨t2, hat, -⟩ := at_some hkl
        have hsd := size_drop hat
        have hdl := size_drop_le t.ks k
        obtain ⟨b, off, a2, c2, ha, hGb, hbl, ⟨p0, p1, p2, p3⟩, hr2⟩ := readsN_at (R.out.keptS hK.out (fun q hq hg => HG.out q hg hq)) hat
        subst ha
        have hN1 : w.heap.size < wr.heap.size := (Array.getElem?_eq_some_iff.1 hN.out).1
        have BA := (Below.refl wr.heap.size wr).alloc (Nat.le_refl _) (ndG t2.op t2.nm t2.n a2 t2.ks.len c2)
        have NB := heap_alloc_new wr (ndG t2.op t2.nm t2.n a2 t2.ks.len c2)
        have hs2 : (wr.alloc (ndG t2.op t2.nm t2.n a2 t2.ks.len c2)).heap.size = wr.heap.size + 1 := World.size_alloc _ _
        generalize hX : wr.alloc (ndG t2.op t2.nm t2.n a2 t2.ks.len c2) = Z at BA NB hs2
        have HX := Lib.hid hX
        have CF := Lib.hid ((EachF.at IH.out hat) G lb Z a2 c2 x (by omega) (preE2 PRE.out hat) HG.out (wdE WD.out (hK.out.trans (kept_below BA (· = lb)) (fun _ h _ => h))) (hr2.kept BA) ((BA.block lb (by omega)).trans hL.out))
        have HAT := Lib.hid hat
        have HBA := Lib.hid BA
        have OZ := Lib.hid (owns_below hO.out BA)
        obtain ⟨⟨z0, z1, z2, z3⟩, -⟩ := four NB
        clear hX BA NB hr2 hat hGb
        go_upto_region 9 with fail
        rw [HX.out]
        clear p0 p1 p2 p3 m0 m1 m2 m3
        go_wp2_with fail
        refine CF.out.mono ?_
        rintro e w2 ⟨k2, hA1, hA2, hB⟩
        have hzk2 := k2.size
        have K2 := Lib.hid (hK.out.trans ((kept_below HBA.out (· = lb)).trans k2 (fun _ h _ => h)) (fun _ h _ => h))
        have N2 := Lib.hid (k2.heap ((HBA.out.block w.heap.size (by omega)).trans hN.out) (by omega))
        by_cases hfit : sizeT t2 ≤ x
        · obtain ⟨v, rfl, hv⟩ := hA1 hfit
          obtain ⟨z, rfl⟩ := shapeE hv
          have L2 := Lib.hid (hA2 hfit)
          have O2 := Lib.hid (owns_kept (row := some lb) OZ.out (k2.mono (fun i hi _ => by rw [hi])) (fun q hq e => by have := (OZ.out.lt q hq).1; have := Option.some.inj e; omega))
          have HVV := Lib.hid hv
          have hx2 : (x - sizeT t2) + sizeF t.ks = l' + sizeF (t.ks.drop (k + 1)) := by omega
          have hksz : k + 1 ≤ 1000 := by omega
          have vone : ∀ u ∈ [(Value.int .i64 z)], u.oneCell' = true := fun u hu => by rw [List.mem_singleton.1 hu]; exact oneE hv
          clear CF hA1 hA2 hB hv hfit z0 z1 z2 z3
          go_upto_region 12 with fail
          have BN := (Below.refl w2.heap.size w2).alloc (Nat.le_refl _) (.cells #[(Value.int .i64 z)] 60)
          have F2 := Lib.hid (show ∀ j u, [(Value.int .i64 z)][j]? = some u → (w2.alloc (.cells #[(Value.int .i64 z)] 60)).cell? ((⟨w2.heap.size, 0, none⟩ : Addr).add j) = some u from fun j u hj => by
            rw [Addr.add_lit, Nat.zero_add, cell_of_row _ _ _ _ _ (0, 0) (heap_alloc_new w2 _)]
            simpa using hj)
          have HBN := Lib.hid BN
          clear BN
          go_wp2_with (at_builtin; refine wpList_append_new rfl _ _ 93 rfl und hi hz0 hz1 hz2 rfl (by decide) (.slice va k vc) k 1 1 ⟨w2.heap.size, 0, none⟩ vs [(Value.int .i64 z)] rfl rfl (owns_below O2.out HBN.out) rfl F2.out vone (by unfold maxLen; omega) (by omega) (by rw [World.size_alloc]; omega) ?_)
          intro v3 w3 ho hg hq
          obtain ⟨va3, vc3, rfl⟩ := own_rowG ho
          have kg : Kept (fun b => (Value.slice va k vc).ownBlock = some b) w2 w3 := ((Kept.refl _ w2).alloc _).grown hg (fun q hq => .inl hq)
          have hov : ∀ q, (Value.slice va k vc).ownBlock = some q → w.heap.size + 1 ≤ q ∧ q < w2.heap.size := fun q hq => by have := O2.out.lt q hq; omega
          have O3 := Lib.hid ho
          have L3 := Lib.hid (kg.heap L2.out (fun e => by have := hov lb e; omega))
          have K3 := Lib.hid (K2.out.trans (kg.mono (T := fun b => w.heap.size + 1 ≤ b) (fun i hi _ => (hov i hi).1)) (fun i hi hlt => by omega))
          have N3 := Lib.hid (kg.heap N2.out (fun e => by have := hov _ e; omega))
          have hnewb : ∀ b, b < w2.heap.size → (Value.slice va k vc).ownBlock ≠ some b → (Value.slice va3 (k + 1) vc3).ownBlock ≠ some b := fun b hb hne e => by
            rcases hq b e with h1 | h1
            · exact hne h1
            · omega
          have V3 := Lib.hid (show ∀ j t3, j < k + 1 → t.ks.at j = some t3 → ∃ u, (vs ++ [(Value.int .i64 z)])[j]? = some u ∧ ResE (fun b => w.heap.size + 1 ≤ b ∧ (Value.slice va3 (k + 1) vc3).ownBlock ≠ some b) w3 t3 u from fun j t3 hj hjt => by
            have hvl : vs.length = k := by have := hO.out.1; rwa [Nat.mul_one] at this
            by_cases hjk : j < k
            · obtain ⟨u, hu, hru⟩ := hV.out j t3 hjk hjt
              refine ⟨u, by rw [List.getElem?_append_left (by omega)]; exact hu, ?_⟩
              have r1 := resE_keptS (resE_keptS hru (kept_below HBA.out (fun _ => False)) (fun _ h => h.elim)) k2 (fun q hq hg => by have := hg.1; omega)
              have r2 := resE_imp (H := fun b => (w.heap.size + 1 ≤ b ∧ (Value.slice va k vc).ownBlock ≠ some b) ∧ (Value.slice va3 (k + 1) vc3).ownBlock ≠ some b) r1 (fun b hb hg => ⟨hg, hnewb b hb hg.2⟩)
              exact resE_imp (resE_keptS r2 kg (fun q hq hg => hg.1.2 hq)) (fun b hb hg => ⟨hg.1.1, hg.2⟩)
            · obtain rfl : j = k := by omega
              have : t3 = t2 := by rw [HAT.out] at hjt; exact (Option.some.inj hjt).symm
              subst this
              refine ⟨_, by rw [List.getElem?_append_right (by omega), hvl, Nat.sub_self]; rfl, ?_⟩
              have r2 := resE_imp (H := fun b => (w.heap.size + 1 ≤ b ∧ (Value.slice va j vc).ownBlock ≠ some b) ∧ (Value.slice va3 (j + 1) vc3).ownBlock ≠ some b) HVV.out (fun b hb hg => by
                have hne : (Value.slice va j vc).ownBlock ≠ some b := fun e => by have := (OZ.out.lt b e).2; omega
                exact ⟨⟨by omega, hne⟩, hnewb b hb hne⟩)
              exact resE_imp (resE_keptS r2 kg (fun q hq hg => hg.1.2 hq)) (fun b hb hg => ⟨hg.1.1, hg.2⟩))
          clear ho hg hq kg hov hnewb
          go_wp2_with fail
          go_roundw
          case rel => exact ⟨k + 1, x - sizeT t2, va3, vc3, vs ++ [(Value.int .i64 z)], rfl, by go_num, by omega, hx2, O3, V3, L3, K3, N3⟩
          case measure => simp [intOf]; omega
        · obtain rfl := hB hfit
          have P := Lib.hid (show ¬ sizeT t ≤ l' + 1 by omega)
          clear CF hA1 hA2 hB hfit z0 z1 z2 z3
          go_wp2_with fail
          go_ret2
          exact ⟨K2.out, fun h => absurd h P.out, fun h => absurd h P.out, fun _ => rfl⟩
      · obtain rfl : k = t.ks.len := by omega
        have hx2 : x + sizeF t.ks = l' := by rw [hx, F.drop_len _ _ (Nat.le_refl _)]; rfl
        have CO := Lib.hid (ofE_any t wr G a c va vc vs (w.heap.size + 1) PRE.out (wdE WD.out hK.out) (R.out.keptS hK.out (fun q hq hg => HG.out q hg hq)) hO.out (fun j t2 hj => hV.out j t2 (at_lt hj) hj))
        go_wp2_with fail
        refine CO.out.mono ?_
        rintro e w2 ⟨v, rfl, hv, hb⟩
        have P := Lib.hid (show Kept (· = lb) w w2 ∧ ResE (fun b => w.heap.size ≤ b) w2 t v ∧ w2.heap[lb]? = some (.cells #[.int .i64 ((l' + 1 - sizeT t : Nat) : Int)] 3 (0, 0)) ∧ sizeT t ≤ l' + 1 from
          ⟨hK.out.trans (kept_below hb (· = lb)) (fun _ h _ => h), resE_imp hv (fun b _ hg => by omega), by rw [hb.block lb (by omega), hL.out, show x = l' + 1 - sizeT t by omega], by omega⟩)
        clear hv hb CO m0 m1 m2 m3
        go_wp2_with fail
        go_ret2
        exact ⟨P.out.1, fun _ => ⟨v, rfl, P.out.2.1⟩, fun _ => P.out.2.2.1, fun h => absurd P.out.2.2.2 h⟩

theorem foldE_all (t : TN) : FoldE t := tree_of foldE_step t

set_option maxHeartbeats 4000000 in
set_option maxRecDepth 100000 in
theorem foldE_any (t : TN) (G : Nat → Prop) (w : World) (a : Option Addr) (c : Nat) (hpre : PreE t) (hwd : ∀ lb, w.heap.size ≤ lb → WdE lb w) (hr : ReadsN G w a t.ks) :
    Calls Try.prog 41 #[nodeV t.op t.nm t.n a t.ks.len c, .func (.func 42) #[] #[]] w fun e w' => Below w.heap.size w w' ∧
      (sizeT t ≤ 32 → ∃ v, e = .returned (.tuple #[v, .bool true]) ∧ ResE (fun b => w.heap.size ≤ b) w' t v) ∧ (¬ sizeT t ≤ 32 → e = .returned (.tuple #[.int .i64 0, .bool false])) := by
  have BA := (Below.refl w.heap.size w).alloc (Nat.le_refl _) (ndG t.op t.nm t.n a t.ks.len c)
  have NB := heap_alloc_new w (ndG t.op t.nm t.n a t.ks.len c)
  have hs0 : (w.alloc (ndG t.op t.nm t.n a t.ks.len c)).heap.size = w.heap.size + 1 := World.size_alloc _ _
  generalize hW : w.alloc (ndG t.op t.nm t.n a t.ks.len c) = W at BA NB hs0
  have BB := (Below.refl W.heap.size W).alloc (Nat.le_refl _) (.cells #[.int .i64 32] 3)
  have NC := heap_alloc_new W (.cells #[.int .i64 32] 3)
  have hs1 : (W.alloc (.cells #[.int .i64 32] 3)).heap.size = w.heap.size + 2 := by rw [World.size_alloc]; omega
  generalize hV : W.alloc (.cells #[.int .i64 32] 3) = V at BB NC hs1
  rw [hs0] at NC
  have BV := BA.trans (BB.mono (by omega))
  have N2 := (BB.block w.heap.size (by omega)).trans NB
  have hGlt := hr.imp (H := fun b => G b ∧ b < w.heap.size) (fun b hb hg => ⟨hg, hb⟩)
  have CF := Lib.hid (foldE_all t (fun b => G b ∧ b < w.heap.size) (w.heap.size + 1) V a c 32 (by omega) hpre (fun b hg => by omega) (wdE (hwd (w.heap.size + 1) (by omega)) (kept_below BV (fun _ => False) |>.mono (fun _ h _ => h.elim) : Kept (· = w.heap.size + 1) w V)) (hGlt.keptS (kept_below BV (fun _ => False)) (fun _ h => h.elim)) NC)
  have HW := Lib.hid hW
  have HV := Lib.hid hV
  have HB := Lib.hid BV
  obtain ⟨⟨m0, m1, m2, m3⟩, -⟩ := four N2
  clear hW hV BA NB BB NC BV N2 hGlt hr hpre hwd
  go_enter Try.func41, Try.ntmps41
  go_upto_region 1 with fail
  rw [HW.out]
  go_upto_region 2 with fail
  rw [HV.out]
  go_wp2_with fail
  refine CF.out.mono ?_
  rintro e w2 ⟨k2, hA, -, hB⟩
  have B2 := Lib.hid (HB.out.trans (Kept.below k2 (B := w.heap.size) (fun q hq => by omega) (by omega)))
  by_cases h32 : sizeT t ≤ 32
  · obtain ⟨v, rfl, hv⟩ := hA h32
    have HR := Lib.hid (resE_imp hv (H := fun b => w.heap.size ≤ b) (fun b _ hg => by omega))
    have H32 := Lib.hid h32
    clear k2 hA hB hv h32 CF m0 m1 m2 m3
    go_wp2_with fail
    go_ret2
    exact ⟨B2.out, fun _ => ⟨v, rfl, HR.out⟩, fun h => absurd H32.out h⟩
  · obtain rfl := hB h32
    have H32 := Lib.hid h32
    clear k2 hA hB h32 CF m0 m1 m2 m3
    go_wp2_with fail
    go_ret2
    exact ⟨B2.out, fun h => absurd h H32.out, fun _ => rfl⟩

end

section
open Go.RowKit

set_option maxHeartbeats 4000000 in
theorem pCheck_any (t : TN) (G : Nat → Prop) (w : World) (a : Option Addr) (c : Nat) (hS : SzF t.f) (hr : ReadsN G w a t.ks) :
    Calls Try.prog 23 #[nodeV t.op t.nm t.n a t.ks.len c] w fun e w' => e = .returned (.int .i64 (checkT t)) ∧ Below w.heap.size w w' := by
  have BA := (Below.refl w.heap.size w).alloc (Nat.le_refl _) (ndG t.op t.nm t.n a t.ks.len c)
  have NB := heap_alloc_new w (ndG t.op t.nm t.n a t.ks.len c)
  have CF := foldE_any t G (w.alloc (ndG t.op t.nm t.n a t.ks.len c)) a c hS (fun _ _ => trivial) (hr.kept BA)
  have hz : w.heap.size ≤ (w.alloc (ndG t.op t.nm t.n a t.ks.len c)).heap.size := BA.size
  generalize hW : w.alloc (ndG t.op t.nm t.n a t.ks.len c) = W at BA NB CF hz
  have HCF := Lib.hid CF
  have HB := Lib.hid BA
  have HW := Lib.hid hW
  have HI := Lib.hid (cnt_iff t)
  obtain ⟨⟨m0, m1, m2, m3⟩, -⟩ := four NB
  clear hW BA NB CF hr hS
  go_enter Try.func23, Try.ntmps23
  go_upto_region 1 with fail
  rw [HW.out]
  go_wp2_with fail
  refine HCF.out.mono ?_
  rintro e w2 ⟨hb, hA, hB⟩
  have B2 := Lib.hid (HB.out.trans (hb.mono hz))
  by_cases h32 : sizeT t ≤ 32
  · obtain ⟨v, rfl, hv⟩ := hA h32
    unfold ResE at hv
    subst hv
    have E := Lib.hid (show checkT t = chkF t.f by unfold checkT; rw [if_neg (fun h => by have := HI.out.1 h; omega)])
    clear hb hA hB h32
    go_wp2_with fail
    go_ret
    rw [E.out]
    exact ⟨rfl, B2.out⟩
  · obtain rfl := hB h32
    have E := Lib.hid (show checkT t = 4 by unfold checkT; rw [if_pos (HI.out.2 (by omega))])
    clear hb hA hB h32
    go_wp2_with fail
    go_ret
    rw [E.out]
    exact ⟨rfl, B2.out⟩

end

section
open Go.RowKit

theorem check_iff (t : TN) : checkT t = 0 ↔ OkT t ∧ sizeT t ≤ 32 := by
  unfold checkT OkT
  have h := cnt_iff t
  by_cases k : cntF t.ks 31 < 0
  · rw [if_pos k]
    exact ⟨fun e => absurd e (by decide), fun e => by have := h.1 k; omega⟩
  · rw [if_neg k]
    exact ⟨fun e => ⟨e, by have : ¬ 32 < sizeT t := fun x => k (h.2 x); omega⟩, fun e => e.1⟩

end

section
open Go.RowKit

/-- Cut to 64 bits. -/
def cut64 (x : Int) : Int := if x < -9223372036854775808 then -9223372036854775808 else if 9223372036854775807 < x then 9223372036854775807 else x

theorem cut64_in (x : Int) : In64 (cut64 x) := by unfold In64 cut64; split; omega; split <;> omega

theorem cut64_id {x : Int} (h : In64 x) : cut64 x = x := by unfold In64 at h; unfold cut64; rw [if_neg (by omega), if_neg (by omega)]

theorem cut64_hi {x : Int} (h : 9223372036854775807 < x) : cut64 x = 9223372036854775807 := by unfold cut64; rw [if_neg (by omega), if_pos h]

theorem cut64_lo {x : Int} (h : x < -9223372036854775808) : cut64 x = -9223372036854775808 := by unfold cut64; rw [if_pos h]

theorem wrap_up {x : Int} (h : 9223372036854775807 < x) (h' : x ≤ 18446744073709551615) : wrap64 x = x - 18446744073709551616 := by unfold wrap64; omega

theorem wrap_down {x : Int} (h : x < -9223372036854775808) (h' : -18446744073709551616 ≤ x) : wrap64 x = x + 18446744073709551616 := by unfold wrap64; omega

theorem wrap_in {x : Int} (h : In64 x) : wrap64 x = x := by unfold In64 at h; unfold wrap64; omega

theorem ret_p {a b : Int} {c : Bool} (h : a = b) : Ending.returned (.tuple #[.int .i64 a, .bool c]) = .returned (.tuple #[.int .i64 b, .bool c]) := by rw [h]

theorem ret_i64 {a b : Int} (h : a = b) : Ending.returned (.int .i64 a) = .returned (.int .i64 b) := by rw [h]

theorem tdiv_in {a b : Int} (ha : In64 a) (h0 : ¬ b = 0) (h : a = -9223372036854775808 → ¬ b = -1) : In64 (a.tdiv b) := by
  unfold In64 at *
  have e : (a.tdiv b).natAbs = a.natAbs / b.natAbs := Int.natAbs_tdiv a b
  by_cases h1 : b = 1
  · rw [h1, Int.tdiv_one]; exact ha
  by_cases h2 : b = -1
  · rw [h2, Int.tdiv_neg, Int.tdiv_one]
    have : ¬ a = -9223372036854775808 := fun x => h x h2
    omega
  have hb : 2 ≤ b.natAbs := by omega
  have hle : a.natAbs / b.natAbs ≤ a.natAbs / 2 := Nat.div_le_div_left hb (by decide)
  rw [← e] at hle
  omega

theorem tdiv_ends {a b : Int} (ha : a = -9223372036854775808) (hb : b = -1) : (9223372036854775807 : Int) = cut64 (a.tdiv b) := by
  rw [ha, hb]; decide

theorem tdiv_low {a b : Int} (ha : a = -9223372036854775808) (h0 : ¬ b = 0) (h : (b == -1) = false) : wrap64 (-Int.tdiv 9223372036854775808 b) = cut64 (a.tdiv b) := by
  have hi := tdiv_in (a := a) (b := b) ⟨by omega, by omega⟩ h0 (fun _ => by simpa using h)
  have e : -Int.tdiv 9223372036854775808 b = a.tdiv b := by rw [ha, Int.neg_tdiv]
  rw [cut64_id hi, e, wrap_in hi]

set_option maxHeartbeats 400000 in
theorem bound_any (b : Bool) (w : World) : Calls Try.prog 56 #[.bool b] w fun e w' => e = .returned (.int .i64 (if b then -9223372036854775808 else 9223372036854775807)) ∧ w = w' := by
  cases b
  all_goals
    go_enter Try.func56, Try.ntmps56
    go_wp2_with fail
    go_ret
    exact ⟨rfl, rfl⟩

set_option maxHeartbeats 1000000 in
theorem vAdd_any (a b : Int) (w : World) (ha : In64 a) (hb : In64 b) : Calls Try.prog 57 #[.int .i64 a, .int .i64 b] w fun e w' => e = .returned (.int .i64 (cut64 (a + b))) ∧ w = w' := by
  obtain ⟨a1, a2⟩ := ha
  obtain ⟨b1, b2⟩ := hb
  obtain ⟨s, hs⟩ : ∃ s, wrap64 (a + b) = s := ⟨_, rfl⟩
  by_cases hi : 9223372036854775807 < a + b
  · have h1 : decide (a < 0) = false := by simp; omega
    have h2 : decide (b < 0) = false := by simp; omega
    have h3 : decide (s < 0) = true := by rw [← hs, wrap_up hi (by omega)]; simp; omega
    rw [cut64_hi hi]
    clear hi a1 a2 b1 b2
    go_enter Try.func57, Try.ntmps57
    go_wp2_with (go_at_call 56; refine (bound_any _ _).mono ?_; rintro e w' ⟨rfl, rfl⟩)
    go_ret
    exact ⟨rfl, rfl⟩
  by_cases lo : a + b < -9223372036854775808
  · have h1 : decide (a < 0) = true := by simp; omega
    have h2 : decide (b < 0) = true := by simp; omega
    have h3 : decide (s < 0) = false := by rw [← hs, wrap_down lo (by omega)]; simp; omega
    rw [cut64_lo lo]
    clear hi lo a1 a2 b1 b2
    go_enter Try.func57, Try.ntmps57
    go_wp2_with (go_at_call 56; refine (bound_any _ _).mono ?_; rintro e w' ⟨rfl, rfl⟩)
    go_ret
    exact ⟨rfl, rfl⟩
  have hc : In64 (a + b) := ⟨by omega, by omega⟩
  obtain rfl : a + b = s := (wrap_in hc).symm.trans hs
  rw [cut64_id hc]
  clear hs
  obtain ⟨c1, c2⟩ := hc
  by_cases x : a < 0 <;> by_cases y : b < 0 <;> by_cases z : a + b < 0
  all_goals first | (exfalso; omega) | skip
  all_goals
    go_enter Try.func57, Try.ntmps57
    go_wp2_with fail
    go_ret
    exact ⟨rfl, rfl⟩

set_option maxHeartbeats 1000000 in
theorem vSub_any (a b : Int) (w : World) (ha : In64 a) (hb : In64 b) : Calls Try.prog 44 #[.int .i64 a, .int .i64 b] w fun e w' => e = .returned (.int .i64 (cut64 (a - b))) ∧ w = w' := by
  obtain ⟨a1, a2⟩ := ha
  obtain ⟨b1, b2⟩ := hb
  obtain ⟨s, hs⟩ : ∃ s, wrap64 (a - b) = s := ⟨_, rfl⟩
  by_cases hi : 9223372036854775807 < a - b
  · have h1 : decide (a < 0) = false := by simp; omega
    have h2 : decide (b < 0) = true := by simp; omega
    have h3 : decide (s < 0) = true := by rw [← hs, wrap_up hi (by omega)]; simp; omega
    rw [cut64_hi hi]
    clear hi a1 a2 b1 b2
    go_enter Try.func44, Try.ntmps44
    go_wp2_with (go_at_call 56; refine (bound_any _ _).mono ?_; rintro e w' ⟨rfl, rfl⟩)
    go_ret
    exact ⟨rfl, rfl⟩
  by_cases lo : a - b < -9223372036854775808
  · have h1 : decide (a < 0) = true := by simp; omega
    have h2 : decide (b < 0) = false := by simp; omega
    have h3 : decide (s < 0) = false := by rw [← hs, wrap_down lo (by omega)]; simp; omega
    rw [cut64_lo lo]
    clear hi lo a1 a2 b1 b2
    go_enter Try.func44, Try.ntmps44
    go_wp2_with (go_at_call 56; refine (bound_any _ _).mono ?_; rintro e w' ⟨rfl, rfl⟩)
    go_ret
    exact ⟨rfl, rfl⟩
  have hc : In64 (a - b) := ⟨by omega, by omega⟩
  obtain rfl : a - b = s := (wrap_in hc).symm.trans hs
  rw [cut64_id hc]
  clear hs
  obtain ⟨c1, c2⟩ := hc
  by_cases x : a < 0 <;> by_cases y : b < 0 <;> by_cases z : a - b < 0
  all_goals first | (exfalso; omega) | skip
  all_goals
    go_enter Try.func44, Try.ntmps44
    go_wp2_with fail
    go_ret
    exact ⟨rfl, rfl⟩

set_option maxHeartbeats 1000000 in
theorem rAdd_any (a b : Int) (w : World) (ha : In64 a) (hb : In64 b) : Calls Try.prog 27 #[.int .i64 a, .int .i64 b] w fun e w' => e = .returned (.int .i64 (cut64 (a + b))) ∧ w = w' := by
  obtain ⟨a1, a2⟩ := ha
  obtain ⟨b1, b2⟩ := hb
  have hc : 9223372036854775807 < a + b ∨ a + b < -9223372036854775808 ∨ In64 (a + b) := by unfold In64; omega
  rcases hc with hc | hc | hc
  · rw [cut64_hi hc]
    go_enter Try.func27, Try.ntmps27
    go_wp2_with fail
    all_goals
      go_ret
      exact ⟨rfl, rfl⟩
  · rw [cut64_lo hc]
    go_enter Try.func27, Try.ntmps27
    go_wp2_with fail
    all_goals
      go_ret
      exact ⟨rfl, rfl⟩
  · rw [cut64_id hc]
    obtain ⟨c1, c2⟩ := hc
    go_enter Try.func27, Try.ntmps27
    go_wp2_with fail
    all_goals
      go_ret
      exact ⟨rfl, rfl⟩

set_option maxHeartbeats 1000000 in
theorem rSub_any (a b : Int) (w : World) (ha : In64 a) (hb : In64 b) : Calls Try.prog 26 #[.int .i64 a, .int .i64 b] w fun e w' => e = .returned (.int .i64 (cut64 (a - b))) ∧ w = w' := by
  obtain ⟨a1, a2⟩ := ha
  obtain ⟨b1, b2⟩ := hb
  have hc : 9223372036854775807 < a - b ∨ a - b < -9223372036854775808 ∨ In64 (a - b) := by unfold In64; omega
  rcases hc with hc | hc | hc
  · rw [cut64_hi hc]
    go_enter Try.func26, Try.ntmps26
    go_wp2_with fail
    all_goals
      go_ret
      exact ⟨rfl, rfl⟩
  · rw [cut64_lo hc]
    go_enter Try.func26, Try.ntmps26
    go_wp2_with fail
    all_goals
      go_ret
      exact ⟨rfl, rfl⟩
  · rw [cut64_id hc]
    obtain ⟨c1, c2⟩ := hc
    go_enter Try.func26, Try.ntmps26
    go_wp2_with fail
    all_goals
      go_ret
      exact ⟨rfl, rfl⟩

set_option maxHeartbeats 1000000 in
theorem vDiv_nought (a : Int) (w : World) : Calls Try.prog 59 #[.int .i64 a, .int .i64 0] w fun e w' => e = .returned (.tuple #[.int .i64 0, .bool false]) ∧ w = w' := by
  go_enter Try.func59, Try.ntmps59
  go_wp2_with fail
  go_ret2
  exact ⟨rfl, rfl⟩

set_option maxHeartbeats 1000000 in
theorem vDiv_any (a b : Int) (w : World) (ha : In64 a) (hb : In64 b) (h0 : ¬ b = 0) : Calls Try.prog 59 #[.int .i64 a, .int .i64 b] w fun e w' => e = .returned (.tuple #[.int .i64 (cut64 (a.tdiv b)), .bool true]) ∧ w = w' := by
  obtain ⟨a1, a2⟩ := ha
  obtain ⟨b1, b2⟩ := hb
  have h0' : (b == 0) = false := by simpa using h0
  go_enter Try.func59, Try.ntmps59
  go_wp2_with fail
  all_goals
    go_ret2
    refine ⟨ret_p ?_, rfl⟩
    first
      | rfl
      | exact tdiv_ends ‹_› (by have h : (b == -1) = true := ‹_›; simpa using h)
      | exact tdiv_low ‹_› h0 ‹_›
      | (rw [cut64_id (tdiv_in ⟨by omega, by omega⟩ h0 (fun h => absurd h ‹_›))]
         exact wrap_in (tdiv_in ⟨by omega, by omega⟩ h0 (fun h => absurd h ‹_›)))
      | (obtain rfl : b = -1 := by have h : (b == -1) = true := ‹_›; simpa using h
         rw [Int.tmod_neg, Int.tmod_one])
      | trace_state

set_option maxHeartbeats 1000000 in
theorem vMod_nought (a : Int) (w : World) : Calls Try.prog 60 #[.int .i64 a, .int .i64 0] w fun e w' => e = .returned (.tuple #[.int .i64 0, .bool false]) ∧ w = w' := by
  go_enter Try.func60, Try.ntmps60
  go_wp2_with fail
  go_ret2
  exact ⟨rfl, rfl⟩

set_option maxHeartbeats 1000000 in
theorem vMod_any (a b : Int) (w : World) (ha : In64 a) (hb : In64 b) (h0 : ¬ b = 0) : Calls Try.prog 60 #[.int .i64 a, .int .i64 b] w fun e w' => e = .returned (.tuple #[.int .i64 (a.tmod b), .bool true]) ∧ w = w' := by
  obtain ⟨a1, a2⟩ := ha
  obtain ⟨b1, b2⟩ := hb
  have h0' : (b == 0) = false := by simpa using h0
  go_enter Try.func60, Try.ntmps60
  go_wp2_with fail
  all_goals
    go_ret2
    refine ⟨ret_p ?_, rfl⟩
    first
      | rfl
      | exact tdiv_ends ‹_› (by have h : (b == -1) = true := ‹_›; simpa using h)
      | exact tdiv_low ‹_› h0 ‹_›
      | (rw [cut64_id (tdiv_in ⟨by omega, by omega⟩ h0 (fun h => absurd h ‹_›))]
         exact wrap_in (tdiv_in ⟨by omega, by omega⟩ h0 (fun h => absurd h ‹_›)))
      | (obtain rfl : b = -1 := by have h : (b == -1) = true := ‹_›; simpa using h
         rw [Int.tmod_neg, Int.tmod_one])
      | trace_state

set_option maxHeartbeats 1000000 in
theorem rDiv_nought (a : Int) (w : World) : Calls Try.prog 29 #[.int .i64 a, .int .i64 0] w fun e w' => e = .returned (.tuple #[.int .i64 0, .bool false]) ∧ w = w' := by
  go_enter Try.func29, Try.ntmps29
  go_wp2_with fail
  go_ret2
  exact ⟨rfl, rfl⟩

set_option maxHeartbeats 1000000 in
theorem rDiv_any (a b : Int) (w : World) (ha : In64 a) (hb : In64 b) (h0 : ¬ b = 0) : Calls Try.prog 29 #[.int .i64 a, .int .i64 b] w fun e w' => e = .returned (.tuple #[.int .i64 (cut64 (a.tdiv b)), .bool true]) ∧ w = w' := by
  obtain ⟨a1, a2⟩ := ha
  obtain ⟨b1, b2⟩ := hb
  have h0' : (b == 0) = false := by simpa using h0
  go_enter Try.func29, Try.ntmps29
  go_wp2_with fail
  all_goals
    go_ret2
    refine ⟨ret_p ?_, rfl⟩
    first
      | rfl
      | exact tdiv_ends ‹_› (by have h : (b == -1) = true := ‹_›; simpa using h)
      | exact tdiv_low ‹_› h0 ‹_›
      | (rw [cut64_id (tdiv_in ⟨by omega, by omega⟩ h0 (fun h => absurd h ‹_›))]
         exact wrap_in (tdiv_in ⟨by omega, by omega⟩ h0 (fun h => absurd h ‹_›)))
      | (obtain rfl : b = -1 := by have h : (b == -1) = true := ‹_›; simpa using h
         rw [Int.tmod_neg, Int.tmod_one])
      | trace_state

set_option maxHeartbeats 1000000 in
theorem rMod_nought (a : Int) (w : World) : Calls Try.prog 30 #[.int .i64 a, .int .i64 0] w fun e w' => e = .returned (.tuple #[.int .i64 0, .bool false]) ∧ w = w' := by
  go_enter Try.func30, Try.ntmps30
  go_wp2_with fail
  go_ret2
  exact ⟨rfl, rfl⟩

set_option maxHeartbeats 1000000 in
theorem rMod_any (a b : Int) (w : World) (ha : In64 a) (hb : In64 b) (h0 : ¬ b = 0) : Calls Try.prog 30 #[.int .i64 a, .int .i64 b] w fun e w' => e = .returned (.tuple #[.int .i64 (a.tmod b), .bool true]) ∧ w = w' := by
  obtain ⟨a1, a2⟩ := ha
  obtain ⟨b1, b2⟩ := hb
  have h0' : (b == 0) = false := by simpa using h0
  go_enter Try.func30, Try.ntmps30
  go_wp2_with fail
  all_goals
    go_ret2
    refine ⟨ret_p ?_, rfl⟩
    first
      | rfl
      | exact tdiv_ends ‹_› (by have h : (b == -1) = true := ‹_›; simpa using h)
      | exact tdiv_low ‹_› h0 ‹_›
      | (rw [cut64_id (tdiv_in ⟨by omega, by omega⟩ h0 (fun h => absurd h ‹_›))]
         exact wrap_in (tdiv_in ⟨by omega, by omega⟩ h0 (fun h => absurd h ‹_›)))
      | (obtain rfl : b = -1 := by have h : (b == -1) = true := ‹_›; simpa using h
         rw [Int.tmod_neg, Int.tmod_one])
      | trace_state

theorem ret_u64v {a b : Int} (h : a = b) : Ending.returned (.int .u64 a) = .returned (.int .u64 b) := by rw [h]

theorem wrap_u {a : Int} (h : a < 0) (a1 : -9223372036854775808 ≤ a) : IntKind.u64.wrap (-IntKind.u64.wrap a) = (a.natAbs : Nat) := by
  simp only [IntKind.wrap, IntKind.signed, IntKind.bits]
  simp
  omega

set_option maxHeartbeats 1000000 in
theorem size_any (a : Int) (w : World) (ha : In64 a) : Calls Try.prog 80 #[.int .i64 a] w fun e w' => e = .returned (.int .u64 (a.natAbs : Nat)) ∧ w = w' := by
  obtain ⟨a1, a2⟩ := ha
  by_cases h : a < 0
  · go_enter Try.func80, Try.ntmps80
    go_wp2_with fail
    go_ret
    exact ⟨ret_u64v (wrap_u h a1), rfl⟩
  · go_enter Try.func80, Try.ntmps80
    go_wp2_with fail
    go_ret
    exact ⟨ret_u64v (by omega), rfl⟩

end

section
open Go.RowKit

theorem mul64_any (x y : Nat) (hx : x < 18446744073709551616) (hy : y < 18446744073709551616) (H L : Int) (hH : ((x * y / 18446744073709551616 : Nat) : Int) = H) (hL : ((x * y % 18446744073709551616 : Nat) : Int) = L) (w : World) :
    Calls Try.prog 79 #[.int .u64 x, .int .u64 y] w fun e w' => e = .returned (.tuple #[.int .u64 H, .int .u64 L]) ∧ w = w' := by
  subst hH; subst hL
  exact (Try.bits_Mul64 x y hx hy w).mono fun e w' ⟨h, k⟩ => ⟨h, k.symm⟩

theorem mul_natAbs (a b : Int) : a * b = if a < 0 then (if b < 0 then ((a.natAbs * b.natAbs : Nat) : Int) else -((a.natAbs * b.natAbs : Nat) : Int)) else (if b < 0 then -((a.natAbs * b.natAbs : Nat) : Int) else ((a.natAbs * b.natAbs : Nat) : Int)) := by
  rw [Int.natCast_mul]
  split <;> split
  · rw [show (a.natAbs : Int) = -a by omega, show (b.natAbs : Int) = -b by omega, Int.neg_mul_neg]
  · rw [show (a.natAbs : Int) = -a by omega, show (b.natAbs : Int) = b by omega, Int.neg_mul, Int.neg_neg]
  · rw [show (a.natAbs : Int) = a by omega, show (b.natAbs : Int) = -b by omega, Int.mul_neg, Int.neg_neg]
  · rw [show (a.natAbs : Int) = a by omega, show (b.natAbs : Int) = b by omega]

theorem same_sign {a b : Int} (h : a < 0 ∧ b < 0 ∨ 0 ≤ a ∧ 0 ≤ b) : decide (a < 0) = decide (b < 0) := by
  rcases h with ⟨h, k⟩ | ⟨h, k⟩
  · rw [decide_eq_true h, decide_eq_true k]
  · rw [decide_eq_false (by omega), decide_eq_false (by omega)]

theorem other_sign {a b : Int} (h : a < 0 ∧ 0 ≤ b ∨ 0 ≤ a ∧ b < 0) : ¬ decide (a < 0) = decide (b < 0) := by
  rcases h with ⟨h, k⟩ | ⟨h, k⟩
  · rw [decide_eq_true h, decide_eq_false (by omega)]; decide
  · rw [decide_eq_false (by omega), decide_eq_true k]; decide

set_option maxHeartbeats 1000000 in
theorem vMul_any (a b : Int) (w : World) (ha : In64 a) (hb : In64 b) : Calls Try.prog 58 #[.int .i64 a, .int .i64 b] w fun e w' => e = .returned (.int .i64 (cut64 (a * b))) ∧ w = w' := by
  have hm := mul_natAbs a b
  have hx : a.natAbs < 18446744073709551616 := by unfold In64 at ha; omega
  have hy : b.natAbs < 18446744073709551616 := by unfold In64 at hb; omega
  have hb' : a.natAbs * b.natAbs ≤ 9223372036854775808 * 9223372036854775808 := Nat.mul_le_mul (by unfold In64 at ha; omega) (by unfold In64 at hb; omega)
  obtain ⟨N, hN⟩ : ∃ N : Nat, a.natAbs * b.natAbs = N := ⟨_, rfl⟩
  rw [hN] at hm hb'
  obtain ⟨H, hH⟩ : ∃ H : Int, ((a.natAbs * b.natAbs / 18446744073709551616 : Nat) : Int) = H := ⟨_, rfl⟩
  obtain ⟨L, hL⟩ : ∃ L : Int, ((a.natAbs * b.natAbs % 18446744073709551616 : Nat) : Int) = L := ⟨_, rfl⟩
  have hH' : ((N / 18446744073709551616 : Nat) : Int) = H := by rw [← hN]; exact hH
  have hL' : ((N % 18446744073709551616 : Nat) : Int) = L := by rw [← hN]; exact hL
  have C := fun w => mul64_any a.natAbs b.natAbs hx hy H L hH hL w
  have A := fun w => size_any a w ha
  have B := fun w => size_any b w hb
  have R : cut64 (a * b) = if N ≤ 9223372036854775807 then (if decide (a < 0) = decide (b < 0) then L else -L) else (if decide (a < 0) = decide (b < 0) then 9223372036854775807 else -9223372036854775808) := by
    rw [hm]
    by_cases a0 : a < 0 <;> by_cases b0 : b < 0 <;> simp only [a0, b0, if_true, if_false, decide_true, decide_false, Bool.false_eq_true, Bool.true_eq_false] <;> unfold cut64 <;> (repeat' split) <;> omega
  have c1 : N ≤ 9223372036854775807 → H = 0 ∧ 0 ≤ L ∧ L ≤ 9223372036854775807 := by omega
  have c2 : ¬ N ≤ 9223372036854775807 → H = 0 → 9223372036854775807 < L := by omega
  have H0 : 0 ≤ H := by omega
  have H1 : H < 18446744073709551616 := by omega
  have L0 : 0 ≤ L := by omega
  have L1 : L < 18446744073709551616 := by omega
  have A1 := Lib.hid A
  have B1 := Lib.hid B
  have C1 := Lib.hid C
  have R1 := Lib.hid R
  clear A B C R hm hN hH hL hH' hL' ha hb
  clear hb' hx hy
  by_cases hn : N ≤ 9223372036854775807
  · obtain ⟨rfl, -, k2⟩ := c1 hn
    clear c1 c2
    by_cases a0 : a < 0 <;> by_cases b0 : b < 0
    all_goals
      go_enter Try.func58, Try.ntmps58
      go_wp2_with (first | (go_at_call 80; first | ((with_reducible refine (A1.out _).mono ?_); rintro e w' ⟨rfl, rfl⟩) | ((with_reducible refine (B1.out _).mono ?_); rintro e w' ⟨rfl, rfl⟩)) | (go_at_call 79; refine (C1.out _).mono ?_; rintro e w' ⟨rfl, rfl⟩) | (go_at_call 56; refine (bound_any _ _).mono ?_; rintro e w' ⟨rfl, rfl⟩))
      go_ret
      refine ⟨ret_i64 ?_, rfl⟩
      rw [R1.out, if_pos hn]
      clear R1 A1 B1 C1
      first
        | (rw [if_pos (same_sign (by omega))]; done)
        | (rw [if_neg (other_sign (by omega))]; done)
  · replace c2 := c2 hn
    clear c1
    by_cases a0 : a < 0 <;> by_cases b0 : b < 0 <;> by_cases h0 : H = 0
    all_goals
      first
        | (have L2 := c2 h0
           subst h0)
        | (have h2 : (H == 0) = false := by simpa using h0
           have h3 : (H != 0) = true := by simpa using h0)
      clear c2
      go_enter Try.func58, Try.ntmps58
      go_wp2_with (first | (go_at_call 80; first | ((with_reducible refine (A1.out _).mono ?_); rintro e w' ⟨rfl, rfl⟩) | ((with_reducible refine (B1.out _).mono ?_); rintro e w' ⟨rfl, rfl⟩)) | (go_at_call 79; refine (C1.out _).mono ?_; rintro e w' ⟨rfl, rfl⟩) | (go_at_call 56; refine (bound_any _ _).mono ?_; rintro e w' ⟨rfl, rfl⟩))
      go_ret
      refine ⟨ret_i64 ?_, rfl⟩
      rw [R1.out, if_neg hn]
      clear R1 A1 B1 C1
      first
        | (rw [if_pos (same_sign (by omega))]; done)
        | (rw [if_neg (other_sign (by omega))]; done)

end

section
open Go.RowKit

theorem wrap_eq (x : Int) : ∃ k : Int, wrap64 x = x + k * 18446744073709551616 ∧ In64 (wrap64 x) ∧ (¬ In64 x → ¬ k = 0) := by
  refine ⟨-((x + 9223372036854775808) / 18446744073709551616), ?_, ?_, ?_⟩ <;> (try unfold In64) <;> (try unfold wrap64) <;> omega

theorem mul_sign {a b : Int} (ha : ¬ a = 0) (hb : ¬ b = 0) (h : ¬ In64 (a * b)) : cut64 (a * b) = if decide (a < 0) = decide (b < 0) then 9223372036854775807 else -9223372036854775808 := by
  have hs : decide (a < 0) = decide (b < 0) → 0 < a * b := fun e => by
    by_cases x : a < 0
    · have y : b < 0 := by simpa [x] using e.symm
      exact Int.mul_pos_of_neg_of_neg x y
    · have y : ¬ b < 0 := by simpa [x] using e.symm
      exact Int.mul_pos (by omega) (by omega)
  have hd : ¬ decide (a < 0) = decide (b < 0) → a * b < 0 := fun e => by
    by_cases x : a < 0
    · have y : ¬ b < 0 := fun y => e (by simp [x, y])
      exact Int.mul_neg_of_neg_of_pos x (by omega)
    · have y : b < 0 := by
        by_cases y : b < 0
        · exact y
        · exact (e (by simp [x, y])).elim
      exact Int.mul_neg_of_pos_of_neg (by omega) y
  unfold In64 at h
  split
  · have := hs ‹_›
    exact cut64_hi (by omega)
  · have := hd ‹_›
    exact cut64_lo (by omega)

/-- Where the product doesn't fit, its remainder's quotient isn't the factor. -/
theorem quo_not {a b : Int} (hb : In64 b) (h0 : ¬ b = 0) (h : ¬ In64 (a * b)) (hx : ¬ (a = -9223372036854775808 ∧ b = -1)) : ¬ wrap64 ((wrap64 (a * b)).tdiv b) = a := by
  obtain ⟨k, hk, hi, hn⟩ := wrap_eq (a * b)
  have hk0 := hn h
  obtain ⟨c, hc⟩ : ∃ c, wrap64 (a * b) = c := ⟨_, rfl⟩
  rw [hc] at hk hi ⊢
  intro e
  by_cases hl : c = -9223372036854775808 ∧ b = -1
  · obtain ⟨rfl, rfl⟩ := hl
    exact hx ⟨by rw [← e]; unfold wrap64; decide, rfl⟩
  · have hq : In64 (c.tdiv b) := tdiv_in hi h0 (fun x y => hl ⟨x, y⟩)
    rw [wrap_in hq] at e
    have hr := Int.tmod_add_mul_tdiv c b
    rw [e] at hr
    have hlt : (c.tmod b).natAbs < b.natAbs := by
      rw [Int.natAbs_tmod]
      exact Nat.mod_lt _ (by omega)
    have : b * a = a * b := Int.mul_comm _ _
    unfold In64 at hb hi
    omega

theorem quo_is {a b : Int} (ha : In64 a) (h0 : ¬ b = 0) : wrap64 ((a * b).tdiv b) = a := by
  rw [Int.mul_tdiv_cancel _ h0, wrap_in ha]

set_option maxHeartbeats 4000000 in
theorem rMul_any (a b : Int) (w : World) (ha : In64 a) (hb : In64 b) : Calls Try.prog 28 #[.int .i64 a, .int .i64 b] w fun e w' => e = .returned (.int .i64 (cut64 (a * b))) ∧ w = w' := by
  by_cases a0 : a = 0
  · subst a0
    go_enter Try.func28, Try.ntmps28
    go_wp2_with fail
    go_ret
    exact ⟨ret_i64 (by rw [Int.zero_mul]; decide), rfl⟩
  have ha0 : (a == 0) = false := by simpa using a0
  by_cases b0 : b = 0
  · subst b0
    go_enter Try.func28, Try.ntmps28
    go_wp2_with fail
    go_ret
    exact ⟨ret_i64 (by rw [Int.mul_zero]; decide), rfl⟩
  have hb0 : (b == 0) = false := by simpa using b0
  obtain ⟨c, hc⟩ : ∃ c, wrap64 (a * b) = c := ⟨_, rfl⟩
  obtain ⟨q, hq⟩ : ∃ q, wrap64 (c.tdiv b) = q := ⟨_, rfl⟩
  by_cases hi : In64 (a * b)
  · have Q : (q == a) = true := by rw [← hq, ← hc, wrap_in hi, quo_is ha b0]; simp
    have R := Lib.hid (show c = cut64 (a * b) by rw [← hc, wrap_in hi, cut64_id hi])
    have n1 : (a == -9223372036854775808) = true → (b == -1) = true → False := fun x y => by
      have x := eq_of_beq x; have y := eq_of_beq y; subst x; subst y; unfold In64 at hi; omega
    have n2 : (b == -9223372036854775808) = true → (a == -1) = true → False := fun x y => by
      have x := eq_of_beq x; have y := eq_of_beq y; subst x; subst y; unfold In64 at hi; omega
    clear hi ha hb
    cases h1 : (a == -9223372036854775808) <;> cases h2 : (b == -1) <;> cases h3 : (b == -9223372036854775808) <;> cases h4 : (a == -1)
    all_goals first | (exfalso; exact n1 h1 h2) | (exfalso; exact n2 h3 h4) | skip
    all_goals clear n1 n2
    all_goals
      go_enter Try.func28, Try.ntmps28
      go_wp2_with fail
      go_ret
      exact ⟨ret_i64 (hc.trans R.out), rfl⟩
  · have R := Lib.hid (mul_sign a0 b0 hi)
    by_cases hx : a = -9223372036854775808 ∧ b = -1
    · obtain ⟨rfl, rfl⟩ := hx
      obtain rfl : -9223372036854775808 = c := by rw [← hc]; unfold wrap64; decide
      obtain rfl : -9223372036854775808 = q := by rw [← hq]; unfold wrap64; decide
      have k1 : wrap64 9223372036854775808 = -9223372036854775808 := by unfold wrap64; decide
      clear ha hb hi hc hq
      go_enter Try.func28, Try.ntmps28
      go_wp2_with fail
      go_ret
      exact ⟨ret_i64 (by decide), rfl⟩
    · have Q : (q == a) = false := by
        have := quo_not hb b0 hi hx
        rw [hc, hq] at this
        simpa using this
      clear hi ha hb hx
      cases h1 : decide (a < 0) <;> cases h2 : decide (b < 0)
      all_goals
        have R1 := Lib.hid (show (cut64 (a * b)) = _ from R.out.trans (by rw [h1, h2]))
        clear R
        go_enter Try.func28, Try.ntmps28
        go_wp2_with fail
        go_ret
        exact ⟨ret_i64 (by rw [R1.out]; rfl), rfl⟩

end

section
open Go.RowKit

def MdF : F → Prop
  | .nil => True
  | .cons _ m n ks r => m.size ≤ 8 ∧ n ≤ 9223372036854775807 ∧ ks.len ≤ 2 ∧ MdF ks ∧ MdF r

def mdT (t : TN) : Prop := MdF t.f

def Md.made : Md → Prop
  | .prodL n => mdT n
  | .sumL n => mdT n
  | _ => True

theorem md_sz : ∀ {f : F}, MdF f → SzF f
  | .nil, _ => trivial
  | .cons _ _ _ _ _, h => ⟨by have := h.1; omega, by have := h.2.2.1; omega, md_sz h.2.2.2.1, md_sz h.2.2.2.2⟩

end

section
open Go.RowKit

theorem in64_of_wfS {n : Int} (h : (Lit.int .i64 n).wf = true) : In64 n := by
  simp [Lit.wf, IntKind.min, IntKind.max, IntKind.bits, IntKind.signed] at h
  exact ⟨by omega, by omega⟩

end

end Go.Proofs.Ytcmcnmmhkpolcaa
