/-
  No statement: Same, Names.
-/
import Derived.Test.YteegdemnajhehaaGreatDoorAFoldL
import Derived.Test.YteegdemnajhehaaGreatDoorAPre
import Derived.Lib.OwnBridge
import Derived.Lib.SlicesCompact
import Derived.Sort.OwnSorted
import Derived.Sort.Walk0
import Derived.Test.YteegdemnajhehaaGreatDoorShelf
namespace Go.Proofs.YteegdemnajhehaaGreatDoor
open Go.RowKit

set_option maxHeartbeats 4000000 in
theorem alike_any (x y : TN) (qa qb : Option Addr × Nat) (w : World) :
    Calls Tryz.prog 50 #[nodeV x.op x.nm x.n qa.1 x.ks.len qa.2, nodeV y.op y.nm y.n qb.1 y.ks.len qb.2] w fun e w' => e = .returned (.bool (alikeB x y)) ∧ Below w.heap.size w w' := by
  have BA := Lib.hid (((Below.refl w.heap.size w).alloc (Nat.le_refl _) (ndG x.op x.nm x.n qa.1 x.ks.len qa.2)).alloc (by rw [World.size_alloc]; omega) (ndG y.op y.nm y.n qb.1 y.ks.len qb.2))
  unfold alikeB
  rw [← Lib.toList_data, ← Lib.toList_data]
  cases h0 : (x.op.toList == y.op.toList) with
  | false =>
    have b0 : (x.op.toList != y.op.toList) = true := by rw [bne, h0]; rfl
    rw [Bool.false_and]
    go_enter Tryz.func50, Tryz.ntmps50
    go_wp2_with fail
    go_ret
    exact ⟨rfl, BA.out⟩
  | true =>
    have b0 : (x.op.toList != y.op.toList) = false := by rw [bne, h0]; rfl
    rw [Bool.true_and]
    cases h1 : isNum x.op with
    | true =>
      have g1 := op_yes h1
      unfold bNum at g1
      rw [if_pos rfl]
      clear h1
      go_enter Tryz.func50, Tryz.ntmps50
      go_wp2_with fail
      go_ret
      exact ⟨rfl, BA.out⟩
    | false =>
      have g1 := op_not h1
      unfold bNum at g1
      rw [if_neg (by decide)]
      cases h2 : isName x.op with
      | true =>
        have g2 := op_yes h2
        unfold bName at g2
        rw [if_pos rfl, ← Lib.toList_data, ← Lib.toList_data]
        clear h1 h2
        go_enter Tryz.func50, Tryz.ntmps50
        go_wp2_with fail
        go_ret
        exact ⟨rfl, BA.out⟩
      | false =>
        have g2 := op_not h2
        unfold bName at g2
        rw [if_neg (by decide)]
        have E := Lib.hid (show ((x.ks.len : Int) == (y.ks.len : Int)) = (x.ks.len == y.ks.len) by
          by_cases h : x.ks.len = y.ks.len
          · rw [h, beq_self_eq_true, beq_self_eq_true]
          · have : (x.ks.len : Int) ≠ y.ks.len := by omega
            rw [beq_eq_false_iff_ne.2 h, beq_eq_false_iff_ne.2 this])
        clear h1 h2
        go_enter Tryz.func50, Tryz.ntmps50
        go_wp2_with fail
        go_ret
        exact ⟨congrArg (fun b => Ending.returned (.bool b)) E.out, BA.out⟩

theorem lstL_at : ∀ (l : List TN) (q : List (Option Addr × Nat)) {k : Nat} (_ : q.length = l.length) (hk : k < l.length), ∃ p, q[k]? = some p ∧ ∀ i u, (ndL l[k] p)[i]? = some u → i < 4 → (lstL l q)[k * 4 + i]? = some u
  | [], _, _, _, hk => by simp at hk
  | _ :: _, [], _, h, _ => by simp at h
  | t :: r, q :: s, 0, _, _ => ⟨q, rfl, fun i u hu hi => by
      rw [lstL, Nat.zero_mul, Nat.zero_add, List.getElem?_append_left (by exact hi)]; exact hu⟩
  | t :: r, q :: s, k + 1, h, hk => by
    obtain ⟨p, h1, h2⟩ := lstL_at r s (k := k) (by simpa using h) (by simpa using hk)
    refine ⟨p, h1, fun i u hu hi => ?_⟩
    rw [lstL, List.getElem?_append_right (by show 4 ≤ _; omega), show (k + 1) * 4 + i - (ndL t q).length = k * 4 + i by show (k + 1) * 4 + i - 4 = _; omega]
    exact h2 i u hu hi

/-- A list of nodes at an address. -/
def LstAt (w : World) (b off : Nat) (l : List TN) : Prop := b < w.heap.size ∧ ∃ qs : List (Option Addr × Nat), qs.length = l.length ∧ ∀ j u, (lstL l qs)[j]? = some u → w.cell? ⟨b, off + j, none⟩ = some u

theorem LstAt.below {w w' : World} {b off : Nat} {l : List TN} (h : LstAt w b off l) (hb : Below w.heap.size w w') : LstAt w' b off l :=
  ⟨Nat.lt_of_lt_of_le h.1 hb.size, h.2.imp fun _ hq => ⟨hq.1, fun j u hj => (hb.cell (p := ⟨b, off + j, none⟩) h.1).trans (hq.2 j u hj)⟩⟩

theorem LstAt.node {w : World} {b off : Nat} {l : List TN} (h : LstAt w b off l) {k : Nat} (hk : k < l.length) : ∃ p : Option Addr × Nat, w.cell? ⟨b, off + k * 4, none⟩ = some (.string l[k].op) ∧ w.cell? ⟨b, off + k * 4 + 1, none⟩ = some (.string l[k].nm) ∧ w.cell? ⟨b, off + k * 4 + 2, none⟩ = some (.int .i64 l[k].n) ∧ w.cell? ⟨b, off + k * 4 + 3, none⟩ = some (.slice p.1 l[k].ks.len p.2) := by
  obtain ⟨hb, qs, hq, hc⟩ := h
  obtain ⟨p, _, h2⟩ := lstL_at l qs hq hk
  exact ⟨p, hc (k * 4) _ (h2 0 _ rfl (by omega)), hc (k * 4 + 1) _ (h2 1 _ rfl (by omega)), hc (k * 4 + 2) _ (h2 2 _ rfl (by omega)), hc (k * 4 + 3) _ (h2 3 _ rfl (by omega))⟩

theorem all_cons {a b : TN} {x y : List TN} : allAlike (a :: x) (b :: y) = (alikeB a b && allAlike x y) := rfl
theorem all_ne : ∀ {x y : List TN}, x.length ≠ y.length → allAlike x y = false
  | [], [], h => absurd rfl h
  | [], _ :: _, _ => rfl
  | _ :: _, [], _ => rfl
  | a :: x, b :: y, h => by rw [all_cons, all_ne (by simpa using h), Bool.and_false]

set_option maxHeartbeats 8000000 in
theorem equalFunc_any (la lb : List TN) (b1 o1 c1 b2 o2 c2 : Nat) (hla : la.length ≤ 1000) (w : World) (h1 : LstAt w b1 o1 la) (h2 : LstAt w b2 o2 lb) :
    Calls Tryz.prog 49 #[.slice (some ⟨b1, o1, none⟩) la.length c1, .slice (some ⟨b2, o2, none⟩) lb.length c2, .func (.func 50) #[] #[]] w fun e w' => e = .returned (.bool (allAlike la lb)) ∧ Below w.heap.size w w' := by
  have H1 := Lib.hid h1
  have H2 := Lib.hid h2
  have B0 := Lib.hid (Below.refl w.heap.size w)
  clear h1 h2
  by_cases hl : la.length = lb.length
  · have a1 : ((la.length : Int) != (lb.length : Int)) = false := by rw [hl]; simp
    obtain ⟨r, hr⟩ : ∃ r, allAlike la lb = r := ⟨_, rfl⟩
    rw [hr]
    have HRr := Lib.hid hr
    have HL := Lib.hid hl
    have hlb : lb.length ≤ 1000 := by omega
    clear hr hl
    go_enter Tryz.func49, Tryz.ntmps49
    go_wp2_with fail
    go_loopw [17] (fun i wr => ∃ k : Nat, i = .int .i64 k ∧ k ≤ la.length ∧ Hid (allAlike (la.drop k) (lb.drop k) = r) ∧ Hid (Below w.heap.size w wr)) (fun i _ => la.length - (intOf i).toNat)
    case atStart => exact ⟨0, rfl, Nat.zero_le _, HRr, B0⟩
    case round =>
      obtain ⟨k, rfl, hk, hD, hB⟩ := hrel
      by_cases hlt : k < la.length
      · have hlt2 : k < lb.length := by have := HL.out; omega
        obtain ⟨pa, x0, x1, x2, x3⟩ := (H1.out.below hB.out).node hlt
        have hz := hB.out.size
        have BA1 := (Below.refl wr.heap.size wr).alloc (Nat.le_refl _) (ndG la[k].op la[k].nm la[k].n pa.1 la[k].ks.len pa.2)
        have NB1 := heap_alloc_new wr (ndG la[k].op la[k].nm la[k].n pa.1 la[k].ks.len pa.2)
        have hs1 : (wr.alloc (ndG la[k].op la[k].nm la[k].n pa.1 la[k].ks.len pa.2)).heap.size = wr.heap.size + 1 := World.size_alloc _ _
        generalize hV : wr.alloc (ndG la[k].op la[k].nm la[k].n pa.1 la[k].ks.len pa.2) = V at BA1 NB1 hs1
        have HBV := hB.out.trans (BA1.mono (by omega))
        obtain ⟨pb, y0, y1, y2, y3⟩ := (H2.out.below HBV).node hlt2
        have BA2 := (Below.refl V.heap.size V).alloc (Nat.le_refl _) (ndG lb[k].op lb[k].nm lb[k].n pb.1 lb[k].ks.len pb.2)
        have NB2 := heap_alloc_new V (ndG lb[k].op lb[k].nm lb[k].n pb.1 lb[k].ks.len pb.2)
        have hs2 : (V.alloc (ndG lb[k].op lb[k].nm lb[k].n pb.1 lb[k].ks.len pb.2)).heap.size = wr.heap.size + 2 := by rw [World.size_alloc]; omega
        generalize hU : V.alloc (ndG lb[k].op lb[k].nm lb[k].n pb.1 lb[k].ks.len pb.2) = U at BA2 NB2 hs2
        rw [hs1] at NB2
        have N1 := (BA2.block wr.heap.size (by omega)).trans NB1
        have HBU := Lib.hid (HBV.trans (BA2.mono (by omega)))
        have HV := Lib.hid hV
        have HU := Lib.hid hU
        have CA := Lib.hid (alike_any la[k] lb[k] pa pb U)
        have HD2 := Lib.hid (show (alikeB la[k] lb[k] && allAlike (la.drop (k + 1)) (lb.drop (k + 1))) = r by rw [← hD.out, List.drop_eq_getElem_cons hlt, List.drop_eq_getElem_cons hlt2, all_cons])
        have a2 : (k : Int) < (la.length : Int) := by omega
        have a3 : (k : Int) < (lb.length : Int) := by omega
        have a4 : (0 : Int) ≤ (k : Int) := by omega
        have a5 : ((k : Int)).toNat = k := by omega
        generalize la[k] = ta at x0 x1 x2 x3 CA HD2 N1 HV HU
        generalize lb[k] = tb at y0 y1 y2 y3 CA HD2 NB2 HU
        obtain ⟨⟨m0, m1, m2, m3⟩, -⟩ := four N1
        obtain ⟨⟨n0, n1, n2, n3⟩, -⟩ := four NB2
        obtain ⟨z, hz2⟩ : ∃ z, alikeB ta tb = z := ⟨_, rfl⟩
        rw [hz2] at CA HD2
        clear hV hU NB1 NB2 N1 BA1 BA2 HBV hz2
        go_upto_region 6 with fail
        rw [HV.out]
        go_upto_region 7 with fail
        rw [HU.out]
        clear x0 x1 x2 x3 y0 y1 y2 y3
        go_wp2_with fail
        refine CA.out.mono ?_
        rintro e w3 ⟨rfl, hb3⟩
        have B3 := Lib.hid (HBU.out.trans (hb3.mono (by omega)))
        clear hb3 CA m0 m1 m2 m3 n0 n1 n2 n3
        cases z with
        | true =>
          have D3 := Lib.hid (show allAlike (la.drop (k + 1)) (lb.drop (k + 1)) = r by have := HD2.out; rwa [Bool.true_and] at this)
          go_wp2_with fail
          go_roundw
          case rel => exact ⟨k + 1, by go_num, by omega, D3, B3⟩
          case measure => simp [intOf]; omega
        | false =>
          have D3 := Lib.hid (show r = false by have := HD2.out; rw [Bool.false_and] at this; exact this.symm)
          go_wp2_with fail
          go_ret
          rw [D3.out]
          exact ⟨rfl, B3.out⟩
      · obtain rfl : k = la.length := by omega
        have D3 := Lib.hid (show r = true by rw [← hD.out, List.drop_of_length_le (Nat.le_refl _), List.drop_of_length_le (by rw [HL.out]; exact Nat.le_refl _)]; rfl)
        go_wp2_with fail
        go_ret
        rw [D3.out]
        exact ⟨rfl, hB.out⟩
  · have a1 : ((la.length : Int) != (lb.length : Int)) = true := by rw [bne_iff_ne]; omega
    rw [all_ne hl]
    go_enter Tryz.func49, Tryz.ntmps49
    go_wp2_with fail
    go_ret
    exact ⟨rfl, B0.out⟩

theorem ResL.lst {G : Nat → Prop} {w : World} {t : TN} {v : Value} (h : ResL G w t v) : ∃ b off c, v = .slice (some ⟨b, off, none⟩) (preF t.f).length c ∧ LstAt w b off (preF t.f) := by
  obtain ⟨b, off, c, qs, h1, _, h3, h4, h5⟩ := h.h
  exact ⟨b, off, c, h1, h3, qs, h4, h5⟩

set_option maxHeartbeats 8000000 in
theorem pSame_any (x y : TN) (G G' : Nat → Prop) (w : World) (a a' : Option Addr) (c c' : Nat) (hx : OkT x) (hnx : NumsF x.f) (hsx : sizeT x ≤ 32) (hy : OkT y) (hny : NumsF y.f) (hsy : sizeT y ≤ 32) (hrx : ReadsN G w a x.ks) (hry : ReadsN G' w a' y.ks) :
    Calls Tryz.prog 23 #[nodeV x.op x.nm x.n a x.ks.len c, nodeV y.op y.nm y.n a' y.ks.len c'] w fun e w' => e = .returned (.bool (sameT x y)) ∧ Below w.heap.size w w' := by
  have BA := (Below.refl w.heap.size w).alloc (Nat.le_refl _) (ndG x.op x.nm x.n a x.ks.len c)
  have NB := heap_alloc_new w (ndG x.op x.nm x.n a x.ks.len c)
  have hs0 : (w.alloc (ndG x.op x.nm x.n a x.ks.len c)).heap.size = w.heap.size + 1 := World.size_alloc _ _
  generalize hV : w.alloc (ndG x.op x.nm x.n a x.ks.len c) = V at BA NB hs0
  have BB := (Below.refl V.heap.size V).alloc (Nat.le_refl _) (ndG y.op y.nm y.n a' y.ks.len c')
  have NC := heap_alloc_new V (ndG y.op y.nm y.n a' y.ks.len c')
  have hs1 : (V.alloc (ndG y.op y.nm y.n a' y.ks.len c')).heap.size = w.heap.size + 2 := by rw [World.size_alloc]; omega
  generalize hU : V.alloc (ndG y.op y.nm y.n a' y.ks.len c') = U at BB NC hs1
  rw [hs0] at NC
  have N1 := (BB.block w.heap.size (by omega)).trans NB
  have BU := BA.trans (BB.mono (by omega))
  have PX : PreL x := ⟨okI_of x hx hnx, by omega⟩
  have PY : PreL y := ⟨okI_of y hy hny, by omega⟩
  have C1 := Lib.hid (foldL_any x G U a c PX (fun _ _ => trivial) (hrx.kept BU))
  have RY := Lib.hid (hry.kept BU)
  have HPY := Lib.hid PY
  have HS := Lib.hid (pre_sameT hx hy)
  have hpl : (preF x.f).length ≤ 1000 := by have := pre_len x.f; rw [sizeF_tree] at this; omega
  have HX := Lib.hid hsx
  have HY := Lib.hid hsy
  have HV := Lib.hid hV
  have HU := Lib.hid hU
  have HB := Lib.hid BU
  have HNC := Lib.hid NC
  obtain ⟨⟨m0, m1, m2, m3⟩, -⟩ := four N1
  clear hV hU BA NB BB NC N1 BU PX PY hx hnx hy hny hrx hry hsx hsy
  go_enter Tryz.func23, Tryz.ntmps23
  go_upto_region 1 with fail
  rw [HV.out, HU.out]
  go_wp2_with fail
  refine C1.out.mono ?_
  rintro e w2 ⟨hb2, hA, -⟩
  obtain ⟨v, rfl, hv⟩ := hA HX.out
  obtain ⟨b1, o1, c1, rfl, L1⟩ := hv.lst
  have HL1 := Lib.hid L1
  have hz2 := hb2.size
  have B2 := Lib.hid (HB.out.trans (hb2.mono (by omega)))
  have C2 := Lib.hid (foldL_any y G' w2 a' c' HPY.out (fun _ _ => trivial) (RY.out.kept hb2))
  have N2 := (hb2.block _ (by omega)).trans HNC.out
  clear m0 m1 m2 m3
  obtain ⟨⟨m0, m1, m2, m3⟩, -⟩ := four N2
  clear hb2 hA hv L1 C1 N2
  go_wp2_with fail
  refine C2.out.mono ?_
  rintro e w3 ⟨hb3, hA, -⟩
  obtain ⟨v, rfl, hv⟩ := hA HY.out
  obtain ⟨b2, o2, c2, rfl, L2⟩ := hv.lst
  have hz3 := hb3.size
  have B3 := Lib.hid (B2.out.trans (hb3.mono (by omega)))
  have CE := Lib.hid (equalFunc_any (preF x.f) (preF y.f) b1 o1 c1 b2 o2 c2 hpl w3 (HL1.out.below hb3) L2)
  rw [HS.out] at CE
  clear hb3 hA hv L2 C2 m0 m1 m2 m3
  go_wp2_with fail
  refine CE.out.mono ?_
  rintro e w4 ⟨rfl, hb4⟩
  have B4 := Lib.hid (B3.out.trans (hb4.mono (by omega)))
  clear hb4 CE
  go_wp2_with fail
  go_ret
  exact ⟨rfl, B4.out⟩

end Go.Proofs.YteegdemnajhehaaGreatDoor

namespace Go.Proofs.YteegdemnajhehaaGreatDoor
open Go.RowKit

theorem le_iff_not {x y : List UInt8} : x ≤ y ↔ Op.bytesLess y x = false := by
  rw [bytesLess_eq]
  simp [List.not_lt]

theorem srt_pair (l : List (List UInt8)) : (l.mergeSort fun x y => decide (x ≤ y)).Pairwise (fun a b => Op.bytesLess b a = false) := by
  have h := List.pairwise_mergeSort (le := fun x y : List UInt8 => decide (x ≤ y)) (fun a b c h1 h2 => by
    simp only [decide_eq_true_eq] at h1 h2 ⊢
    exact List.le_trans h1 h2) (fun a b => by
    simp only [Bool.or_eq_true, decide_eq_true_eq]
    exact List.le_total a b) l
  refine h.imp (fun hab => ?_)
  exact le_iff_not.1 (by simpa using hab)

/-- What compact keeps of a sorted list rises, and has the same elements. -/
theorem compact_rise (d : Array (List UInt8)) (hd : d.toList.Pairwise (fun a b => Op.bytesLess b a = false)) : ∀ m, m ≤ d.size →
    (Lib.compactUpTo d m).Pairwise (fun a b => Op.bytesLess a b = true) ∧ (∀ x, x ∈ Lib.compactUpTo d m ↔ ∃ j, j < m ∧ x = d[j]!)
  | 0, _ => ⟨by simp [Lib.compactUpTo], by simp [Lib.compactUpTo]⟩
  | m + 1, hm => by
    obtain ⟨h1, h2⟩ := compact_rise d hd m (by omega)
    have hle : ∀ i j, i < j → j < d.size → Op.bytesLess d[j]! d[i]! = false := fun i j hij hj => by
      have := List.pairwise_iff_getElem.1 hd i j (by simp; omega) (by simpa using hj) hij
      rw [getElem!_pos d j hj, getElem!_pos d i (by omega)]
      simpa using this
    rw [Lib.compactUpTo_succ]
    by_cases hk : Lib.keeps d m = true
    · rw [if_pos hk]
      have hne : m = 0 ∨ d[m]! ≠ d[m - 1]! := by simpa [Lib.keeps] using hk
      refine ⟨List.pairwise_append.2 ⟨h1, List.pairwise_singleton _ _, fun x hx y hy => ?_⟩, fun x => ?_⟩
      · rw [List.mem_singleton.1 hy]
        obtain ⟨j, hj, rfl⟩ := (h2 x).1 hx
        have hm0 : m ≠ 0 := by omega
        have hne2 : d[m]! ≠ d[m - 1]! := hne.resolve_left hm0
        cases hb : Op.bytesLess d[j]! d[m]! with
        | true => rfl
        | false =>
          exfalso
          have e1 := bytesLess_total d[j]! d[m]! hb (hle j m hj (by omega))
          -- d[j] = d[m], and d[m-1] lies between
          have e2 : d[m - 1]! = d[m]! := by
            rcases Nat.lt_or_ge j (m - 1) with h | h
            · have a1 := hle (m - 1) m (by omega) (by omega)
              have a2 := hle j (m - 1) h (by omega)
              rw [e1] at a2
              exact bytesLess_total _ _ a2 a1
            · obtain rfl : j = m - 1 := by omega
              exact e1
          exact hne2 e2.symm
      · rw [List.mem_append, h2, List.mem_singleton]
        constructor
        · rintro (⟨j, hj, rfl⟩ | rfl)
          · exact ⟨j, by omega, rfl⟩
          · exact ⟨m, by omega, rfl⟩
        · rintro ⟨j, hj, rfl⟩
          by_cases hjm : j = m
          · subst hjm; exact .inr rfl
          · exact .inl ⟨j, by omega, rfl⟩
    · rw [if_neg hk, List.append_nil]
      have he : m ≠ 0 ∧ d[m]! = d[m - 1]! := by
        have := hk
        simp [Lib.keeps] at this
        exact ⟨this.1, this.2⟩
      refine ⟨h1, fun x => ?_⟩
      rw [h2]
      constructor
      · rintro ⟨j, hj, rfl⟩; exact ⟨j, by omega, rfl⟩
      · rintro ⟨j, hj, rfl⟩
        by_cases hjm : j = m
        · subst hjm
          exact ⟨j - 1, by omega, he.2⟩
        · exact ⟨j, by omega, rfl⟩

/-- Texts sorted and compacted. -/
def uniqT (l : List ByteArray) : List (List UInt8) := Lib.compact ((l.map (·.data.toList)).mergeSort fun x y => decide (x ≤ y))

theorem uniqT_rise (l : List ByteArray) : Rising lsS ((uniqT l).map (fun x => (⟨x.toArray⟩ : ByteArray))) ∧ ∀ y : ByteArray, y ∈ (uniqT l).map (fun x => (⟨x.toArray⟩ : ByteArray)) ↔ y ∈ l := by
  have hs := srt_pair (l.map (·.data.toList))
  obtain ⟨S, hS⟩ : ∃ S, ((l.map (·.data.toList)).mergeSort fun x y => decide (x ≤ y)) = S := ⟨_, rfl⟩
  have hmem : ∀ x, x ∈ S ↔ x ∈ l.map (·.data.toList) := fun x => by rw [← hS]; exact List.mem_mergeSort
  unfold uniqT
  rw [hS] at hs ⊢
  obtain ⟨h1, h2⟩ := compact_rise S.toArray (by simpa using hs) S.length (by simp)
  refine ⟨?_, fun y => ?_⟩
  · unfold Rising
    rw [List.pairwise_map]
    refine h1.imp (fun hab => ?_)
    unfold lsS
    rw [Lib.toList_data, Lib.toList_data]
    exact hab
  · rw [List.mem_map]
    constructor
    · rintro ⟨x, hx, rfl⟩
      obtain ⟨j, hj, rfl⟩ := (h2 x).1 hx
      have hin : S.toArray[j]! ∈ S := by
        rw [getElem!_pos S.toArray j (by simpa using hj)]
        simp
      obtain ⟨z, hz, e⟩ := List.mem_map.1 ((hmem _).1 hin)
      have : (⟨(S.toArray[j]!).toArray⟩ : ByteArray) = z := by rw [← e]
      rw [this]; exact hz
    · intro hy
      have hin : y.data.toList ∈ S := (hmem _).2 (List.mem_map.2 ⟨y, hy, rfl⟩)
      obtain ⟨j, hj, e⟩ := List.getElem_of_mem hin
      refine ⟨y.data.toList, (h2 _).2 ⟨j, hj, ?_⟩, rfl⟩
      rw [getElem!_pos S.toArray j (by simpa using hj)]
      simp [e]

end Go.Proofs.YteegdemnajhehaaGreatDoor

namespace Go.Proofs.YteegdemnajhehaaGreatDoor
open Go.RowKit Go.Sort

theorem srt_end {w w1 : World} {g cap n nn q : Nat} {os : Array Obj} {B : Nat} {ss : List (List UInt8)} (hown : w1.ownsRow B 9 1 (.slice (some ⟨g, 0, none⟩) n cap) n (ss.map encStr)) (hbel : Below B w w1) (hB : B ≤ w1.heap.size) (hlen : ss.length = n) :
    (putRow encStr (Sort.ahead (grow (putRow encStr (Sort.ahead w1 nn) g 0 (ss.mergeSort fun x y => decide (x ≤ y)).toArray) os) q) g 0 (Lib.compact (ss.mergeSort fun x y => decide (x ≤ y)) ++ List.replicate (n - (Lib.compact (ss.mergeSort fun x y => decide (x ≤ y))).length) []).toArray).ownsRow B 9 1 (.slice (some ⟨g, 0, none⟩) (Lib.compact (ss.mergeSort fun x y => decide (x ≤ y))).length cap) (Lib.compact (ss.mergeSort fun x y => decide (x ≤ y))).length ((Lib.compact (ss.mergeSort fun x y => decide (x ≤ y))).map encStr) ∧
    Below B w (putRow encStr (Sort.ahead (grow (putRow encStr (Sort.ahead w1 nn) g 0 (ss.mergeSort fun x y => decide (x ≤ y)).toArray) os) q) g 0 (Lib.compact (ss.mergeSort fun x y => decide (x ≤ y)) ++ List.replicate (n - (Lib.compact (ss.mergeSort fun x y => decide (x ≤ y))).length) []).toArray) := by
  have hl2 : (ss.mergeSort fun x y => decide (x ≤ y)).length = ss.length := List.length_mergeSort ss
  have hle := Lib.compact_length_le (ss.mergeSort fun x y => decide (x ≤ y))
  subst hlen
  rcases hown.2 with ⟨h0, _⟩ | ⟨g', cap', cur, hv, hbase, hb, h1, h2, h3, h4⟩
  · cases h0
  cases hv
  have hs := ownsRow_sorted (n := nn) (os := os) (ts := ss.mergeSort fun x y => decide (x ≤ y)) hl2 hbase hb h1 h2 h3
  have hc := Lib.ownsRow_putRow (q := q) (k := (Lib.compact (ss.mergeSort fun x y => decide (x ≤ y))).length) (ys := Lib.compact (ss.mergeSort fun x y => decide (x ≤ y)) ++ List.replicate (ss.length - (Lib.compact (ss.mergeSort fun x y => decide (x ≤ y))).length) []) hs (by simp; omega) (by omega)
  rw [List.take_left] at hc
  exact ⟨hc, Lib.below_putRow (hbel.grown (grownBy_sorted _) hB (fun j hj => by cases hj; exact hbase)) hbase⟩

theorem uniq_names {t : TN} (h : OkT t) : (uniqT (nmsL (preF t.f))).map (fun x => (⟨x.toArray⟩ : ByteArray)) = namesT t := by
  have hu := uniqT_rise (nmsL (preF t.f))
  rw [pre_names t.f h] at hu ⊢
  exact namesT_of hu.1 hu.2

theorem nms_take {l : List TN} {k : Nat} (hk : k < l.length) : nmsL (l.take (k + 1)) = nmsL (l.take k) ++ (if isName l[k].op = true then [l[k].nm] else []) := by
  rw [List.take_succ_eq_append_getElem hk, nms_app]
  congr 1
  unfold nmsL
  by_cases h : isName l[k].op = true
  · rw [if_pos h, List.filter_cons_of_pos (by exact h)]; rfl
  · rw [if_neg h, List.filter_cons_of_neg (by exact h)]; rfl

set_option maxHeartbeats 8000000 in
set_option maxRecDepth 100000 in
theorem pNames_any (t : TN) (G : Nat → Prop) (w : World) (a : Option Addr) (c : Nat) (ho : OkT t) (hn : NumsF t.f) (hs : sizeT t ≤ 32) (hr : ReadsN G w a t.ks) :
    Calls Tryz.prog 25 #[nodeV t.op t.nm t.n a t.ks.len c] w fun e w' => ∃ v, e = .returned v ∧ w'.ownsRow w.heap.size 9 1 v (namesT t).length ((namesT t).map Value.string) ∧ Below w.heap.size w w' := by
  have hun := uniq_names ho
  obtain ⟨nt, hnt⟩ : ∃ r, namesT t = r := ⟨_, rfl⟩
  rw [hnt] at hun ⊢
  clear hnt
  obtain ⟨i0, hi, hz0, hz1, hz2⟩ := info_parts infoT
  have und : Tryz.prog.underlying 52 = some (.slice 9) := Tryz.underlying52
  have BA := (Below.refl w.heap.size w).alloc (Nat.le_refl _) (ndG t.op t.nm t.n a t.ks.len c)
  have NB := heap_alloc_new w (ndG t.op t.nm t.n a t.ks.len c)
  have CF := foldL_any t G (w.alloc (ndG t.op t.nm t.n a t.ks.len c)) a c ⟨okI_of t ho hn, by omega⟩ (fun _ _ => trivial) (hr.kept BA)
  have hz : w.heap.size ≤ (w.alloc (ndG t.op t.nm t.n a t.ks.len c)).heap.size := BA.size
  generalize hW : w.alloc (ndG t.op t.nm t.n a t.ks.len c) = W at BA NB CF hz
  have HCF := Lib.hid CF
  have HB := Lib.hid BA
  have HW := Lib.hid hW
  have H32 := Lib.hid hs
  have HU := Lib.hid hun
  have hpl : (preF t.f).length ≤ 1000 := by have := pre_len t.f; rw [sizeF_tree] at this; omega
  obtain ⟨⟨m0, m1, m2, m3⟩, -⟩ := four NB
  clear hW BA NB CF hr hs ho hn hun
  obtain ⟨l, hl⟩ : ∃ l, preF t.f = l := ⟨_, rfl⟩
  have HLl := Lib.hid hl
  rw [hl] at HU hpl
  clear hl
  go_enter Tryz.func25, Tryz.ntmps25
  go_upto_region 1 with fail
  rw [HW.out]
  go_wp2_with fail
  refine HCF.out.mono ?_
  rintro e w2 ⟨hb2, hA, -⟩
  obtain ⟨v, rfl, hv⟩ := hA H32.out
  obtain ⟨b, off, cc, rfl, L2⟩ := hv.lst
  rw [HLl.out] at L2 ⊢
  have HL2 := Lib.hid L2
  have hz2w := hb2.size
  have B2 := Lib.hid (HB.out.trans (hb2.mono hz))
  have BR := Lib.hid (Below.refl w2.heap.size w2)
  clear hb2 hA hv L2 HCF m0 m1 m2 m3
  go_wp2_with fail
  go_loopw [5, 15] (fun s i wr => ∃ (k : Nat) (va : Option Addr) (vc : Nat) (ns : List ByteArray), s = .slice va ns.length vc ∧ i = .int .i64 k ∧ k ≤ l.length ∧ ns.length ≤ k ∧ Hid (ns = nmsL (l.take k)) ∧ Hid (wr.ownsRow w2.heap.size 9 1 (.slice va ns.length vc) ns.length (ns.map Value.string)) ∧ Hid (Below w2.heap.size w2 wr)) (fun _ i _ => l.length - (intOf i).toNat)
  case atStart => exact ⟨0, none, 0, [], rfl, rfl, Nat.zero_le _, Nat.zero_le _, Lib.hid rfl, Lib.hid (World.ownsRow_nil _ _ _ _), BR⟩
  case round =>
    obtain ⟨k, va, vc, ns, rfl, rfl, hk, hnk, hN, hO, hB⟩ := hrel
    have hzr := hB.out.size
    by_cases hlt : k < l.length
    · obtain ⟨p, x0, x1, x2, x3⟩ := (HL2.out.below hB.out).node hlt
      have HT := Lib.hid (nms_take hlt)
      have BA1 := (Below.refl wr.heap.size wr).alloc (Nat.le_refl _) (ndG l[k].op l[k].nm l[k].n p.1 l[k].ks.len p.2)
      have NB1 := heap_alloc_new wr (ndG l[k].op l[k].nm l[k].n p.1 l[k].ks.len p.2)
      have hs1 : (wr.alloc (ndG l[k].op l[k].nm l[k].n p.1 l[k].ks.len p.2)).heap.size = wr.heap.size + 1 := World.size_alloc _ _
      generalize hV : wr.alloc (ndG l[k].op l[k].nm l[k].n p.1 l[k].ks.len p.2) = V at BA1 NB1 hs1
      have HV := Lib.hid hV
      generalize l[k] = tk at x0 x1 x2 x3 HT NB1 HV
      obtain ⟨⟨n0, n1, n2, n3⟩, -⟩ := four NB1
      have HBV := Lib.hid (hB.out.trans (BA1.mono (by omega)))
      have OV := Lib.hid (owns_below hO.out BA1)
      clear hV NB1 BA1
      cases hnm : isName tk.op with
      | true =>
        have g2 := op_yes hnm
        unfold bName at g2
        rw [hnm, if_pos rfl, ← hN.out] at HT
        have BN := (Below.refl V.heap.size V).alloc (Nat.le_refl _) (.cells #[.string tk.nm] 9)
        have F2 := Lib.hid (show ∀ j u, [Value.string tk.nm][j]? = some u → (V.alloc (.cells #[.string tk.nm] 9)).cell? ((⟨V.heap.size, 0, none⟩ : Addr).add j) = some u from fun j u hj => by
          rw [Addr.add_lit, Nat.zero_add, cell_of_row _ _ _ _ _ (0, 0) (heap_alloc_new V _)]
          simpa using hj)
        have HBN := Lib.hid BN
        have HBN2 := Lib.hid (HBV.out.trans (BN.mono (by omega)))
        have hns : ns.length ≤ 1000 := by omega
        rw [hs1] at F2
        clear hnm BN
        go_upto_region 6 with fail
        rw [HV.out]
        clear x0 x1 x2 x3
        go_wp2_with (at_builtin; refine wpList_append_new rfl _ _ 52 rfl und hi hz0 hz1 hz2 rfl (by decide) (.slice va ns.length vc) ns.length 1 1 ⟨wr.heap.size + 1, 0, none⟩ (ns.map Value.string) [Value.string tk.nm] rfl rfl (owns_below OV.out HBN.out) rfl F2.out (fun u hu => by rw [List.mem_singleton.1 hu]; rfl) (by unfold maxLen; omega) (by omega) (by rw [World.size_alloc]; omega) ?_)
        intro v3 w3 ho3 hg3 _
        obtain ⟨va3, vc3, rfl⟩ := own_rowG ho3
        have e1 : ns.length + 1 = (ns ++ [tk.nm]).length := by simp
        have e2 : ns.map Value.string ++ [Value.string tk.nm] = (ns ++ [tk.nm]).map Value.string := by simp
        rw [e1, e2] at ho3
        have O3 := Lib.hid ho3
        have B3 := Lib.hid (HBN2.out.grown hg3 (by rw [World.size_alloc]; omega) (fun q hq => (OV.out.lt q hq).1))
        have N3 := Lib.hid (show ns ++ [tk.nm] = nmsL (l.take (k + 1)) from HT.out.symm)
        have hl3 : (ns ++ [tk.nm]).length ≤ k + 1 := by simp; omega
        rw [e1]
        clear ho3 hg3 e1 e2 n0 n1 n2 n3
        go_wp2_with fail
        go_roundw
        case rel => exact ⟨k + 1, va3, vc3, ns ++ [tk.nm], rfl, by go_num, by omega, hl3, N3, O3, B3⟩
        case measure => simp [intOf]; omega
      | false =>
        have g2 := op_not hnm
        unfold bName at g2
        rw [hnm, if_neg (by decide), List.append_nil, ← hN.out] at HT
        have N3 := Lib.hid HT.out.symm
        clear hnm
        go_upto_region 6 with fail
        rw [HV.out]
        clear x0 x1 x2 x3
        go_wp2_with fail
        go_roundw
        case rel => exact ⟨k + 1, va, vc, ns, rfl, by go_num, by omega, by omega, N3, OV, HBV⟩
        case measure => simp [intOf]; omega
    · obtain rfl : k = l.length := by omega
      have hns : ns = nmsL l := by have := hN.out; rwa [List.take_length] at this
      rw [← hns] at HU
      have B3 := Lib.hid (B2.out.trans (hB.out.mono (by omega)))
      have hns9 : ns.length ≤ 1000 := by omega
      clear hns hN
      by_cases h0 : ns = []
      · subst h0
        obtain rfl : nt = [] := by rw [← HU.out]; simp [uniqT, Lib.compact, Lib.compactUpTo]
        have O4 := Lib.hid (owns_mono hO.out (show w.heap.size ≤ w2.heap.size by omega))
        have CS := Lib.hid (Tryz.slices_Sort_string_none va vc wr)
        have CC := Lib.hid (Tryz.slices_Compact_string_empty va vc wr)
        clear HU
        go_wp2_with fail
        refine CS.out.mono ?_
        rintro e w4 ⟨rfl, rfl⟩
        go_wp2_with fail
        refine CC.out.mono ?_
        rintro e w5 ⟨rfl, rfl⟩
        go_wp2_with fail
        go_ret
        exact ⟨_, rfl, O4.out, B3.out⟩
      · have hne : Value.slice va ns.length vc ≠ .slice none 0 0 := by
          intro e
          simp only [Value.slice.injEq] at e
          exact h0 (List.length_eq_zero_iff.1 e.2.1)
        have hO' := hO.out
        rw [← Lib.map_encStr] at hO'
        obtain ⟨g, cap, hv, hbg, hgl, hncap, hcm, hlen, hH⟩ := Lib.holds_of_ownsRow hO' hne
        simp only [Value.slice.injEq, true_and] at hv
        obtain ⟨rfl, rfl⟩ := hv
        have CS := Tryz.slices_Sort_string g 0 vc (ns.map (·.data.toList)) wr hH hgl (by omega)
        rw [hlen] at CS
        have HCS := Lib.hid CS
        have HOW := Lib.hid (owns_mono hO' (show w.heap.size ≤ w2.heap.size by omega))
        have HH := Lib.hid hH
        have HLEN := Lib.hid hlen
        have hbw : w.heap.size ≤ wr.heap.size := by omega
        clear CS hO' hne h0 hH hlen
        go_wp2_with fail
        refine HCS.out.mono ?_
        rintro e w4 ⟨rfl, nn, os, rfl⟩
        have hl2 : ((ns.map (·.data.toList)).mergeSort fun x y => decide (x ≤ y)).length = ns.length := by rw [List.length_mergeSort]; exact HLEN.out
        have hH2 : Holds encStr (grow (putRow encStr (Sort.ahead wr nn) g 0 ((ns.map (·.data.toList)).mergeSort fun x y => decide (x ≤ y)).toArray) os) g 0 ((ns.map (·.data.toList)).mergeSort fun x y => decide (x ≤ y)).toArray :=
          holds_grow encStr _ os g 0 _ (by simpa [putRow, mapBlock, Sort.ahead] using hgl) (holds_putRow encStr _ g 0 _ _ (holds_ahead encStr wr nn g 0 _ HH.out) (by simp))
        have CC := Tryz.slices_Compact_string g 0 vc ((ns.map (·.data.toList)).mergeSort fun x y => decide (x ≤ y)) _ hH2 (by omega) (by omega)
        rw [hl2] at CC
        have HCC := Lib.hid CC
        clear CC hl2 hH2 HCS
        generalize hX : grow (putRow encStr (Sort.ahead wr nn) g 0 ((ns.map (·.data.toList)).mergeSort fun x y => decide (x ≤ y)).toArray) os = X at HCC ⊢
        have HX := Lib.hid hX
        clear hX
        go_wp2_with fail
        refine HCC.out.mono ?_
        rintro e w5 ⟨rfl, q, rfl⟩
        have P := srt_end (nn := nn) (q := q) (os := os) HOW.out B3.out hbw HLEN.out
        rw [HX.out] at P
        have hfin : (Lib.compact ((ns.map (·.data.toList)).mergeSort fun x y => decide (x ≤ y))) = nt.map (·.data.toList) := by
          rw [← HU.out, List.map_map]
          unfold uniqT
          conv => lhs; rw [← List.map_id (Lib.compact _)]
          rfl
        rw [hfin] at P ⊢
        rw [Lib.map_encStr, List.length_map] at P
        rw [List.length_map]
        have HP := Lib.hid P
        clear P hfin
        generalize putRow encStr _ _ _ _ = Y at HP ⊢
        go_wp2_with fail
        go_ret
        exact ⟨_, rfl, HP.out.1, HP.out.2⟩

end Go.Proofs.YteegdemnajhehaaGreatDoor
