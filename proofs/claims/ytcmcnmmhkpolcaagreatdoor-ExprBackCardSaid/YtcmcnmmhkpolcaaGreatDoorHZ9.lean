/-
  No statement: what these walks need, of earlier texts: GFoldL, GSame, GSort, GNames, EBare, GKnown, GMade.
-/
import Derived.Test.YtcmcnmmhkpolcaaGreatDoorHZ8
import Derived.WalkKit
import Derived.WalkSpells
import Derived.Lib.Hide
import Derived.Deep.Draws
import Derived.Sort.Walk0
import Derived.Lib.ParseIntB
import Derived.Lib.AtoiErrMem
import Derived.Lib.AppendIntMem
import Derived.Test.YtcmcnmmhkpolcaaGreatDoorShelf
import Derived.Test.YtcmcnmmhkpolcaaGreatDoorProg
import Derived.IntWalk
import Derived.LoopTactic
import Derived.StillTailTactics
import Derived.Deep.QuietTactic
import Derived.BigQuiet
import Derived.Lib.ParseIntBTie
import Derived.RangeFuncRecord
import Derived.ArgAppend
import Derived.OwnWalk
import Derived.BigRegion
import Derived.Deep.Cut
import Derived.Deep.RegionLaw
import Derived.Deep.RegionHeld3
import Derived.Shelf.Spec.SearchS
import Derived.Laws.IdiomStrings
import Derived.Lib.AppendZerosOnto
import Derived.Lib.SliceRun
import Derived.Lib.OwnBridge
import Derived.Lib.SlicesCompact
import Derived.Sort.OwnSorted
import Derived.RangeFuncBox
namespace Go.Proofs.YtcmcnmmhkpolcaaGreatDoor
section
open Go.RowKit

/-- What foldWithin does at a tree. -/
def FoldL (t : TN) : Prop := ∀ (G : Nat → Prop) (lb : Nat) (w : World) (a : Option Addr) (c l : Nat), l ≤ 1000 → PreL t → (∀ b, G b → b ≠ lb) → WdL lb w → ReadsN G w a t.ks → w.heap[lb]? = some (.cells #[.int .i64 l] 3 (0, 0)) →
  Calls Tryz.prog 48 #[.pointer (some ⟨lb, 0, none⟩), nodeV t.op t.nm t.n a t.ks.len c, .func (.func 32) #[] #[]] w fun e w' => Kept (· = lb) w w' ∧
    (sizeT t ≤ l → ∃ v, e = .returned (.tuple #[v, .bool true]) ∧ ResL (fun b => w.heap.size ≤ b) w' t v) ∧
    (sizeT t ≤ l → w'.heap[lb]? = some (.cells #[.int .i64 ((l - sizeT t : Nat) : Int)] 3 (0, 0))) ∧
    (¬ sizeT t ≤ l → e = .returned (.tuple #[.slice none 0 0, .bool false]))

set_option maxHeartbeats 8000000 in
set_option maxRecDepth 100000 in
theorem foldL_step (t : TN) (ih : EachF FoldL t.ks) : FoldL t := by
  intro G lb w a c l hl hpre hG hwd hr hlb
  obtain ⟨i0, hi, hz0, hz1, hz2⟩ := info_parts infoL
  have und : Tryz.prog.underlying 85 = some (.slice 22) := Tryz.underlying85
  have hlt := (Array.getElem?_eq_some_iff.1 hlb).1
  have IH := Lib.hid ih
  have R := Lib.hid hr
  have PRE := Lib.hid hpre
  have HG := Lib.hid hG
  have WD := Lib.hid hwd
  have BA := (Below.refl w.heap.size w).alloc (Nat.le_refl _) (ndG t.op t.nm t.n a t.ks.len c)
  have NB := heap_alloc_new w (ndG t.op t.nm t.n a t.ks.len c)
  have LB1 := (BA.block lb hlt).trans hlb
  have hs0 : (w.alloc (ndG t.op t.nm t.n a t.ks.len c)).heap.size = w.heap.size + 1 := World.size_alloc _ _
  generalize hW : w.alloc (ndG t.op t.nm t.n a t.ks.len c) = W at BA NB LB1 hs0
  have HW := Lib.hid hW
  have hsize : sizeT t = 1 + sizeF t.ks := rfl
  have hlen := len_size t.ks
  have K1 := (kept_below BA (· = lb)).setCell (p := ⟨lb, 0, none⟩) (.inl rfl) (.int .i64 ((l : Int) - 1))
  have LB2 := one_set LB1 (.int .i64 ((l : Int) - 1))
  have NB2 := ((Kept.refl (· = lb) W).setCell (p := ⟨lb, 0, none⟩) (.inl rfl) (.int .i64 ((l : Int) - 1))).heap NB (by omega)
  have hs1 : (W.setCell ⟨lb, 0, none⟩ (.int .i64 ((l : Int) - 1))).heap.size = w.heap.size + 1 := by rw [World.size_setCell]; exact hs0
  obtain ⟨lc, lf⟩ := one_cell LB1
  by_cases hstop : (l : Int) - 1 < (t.ks.len : Int)
  · have P := Lib.hid (show ¬ sizeT t ≤ l by omega)
    generalize hV : W.setCell ⟨lb, 0, none⟩ (.int .i64 ((l : Int) - 1)) = V at K1 LB2 NB2 hs1
    have HV := Lib.hid hV
    obtain ⟨lc2, -⟩ := one_cell LB2
    obtain ⟨⟨m0, m1, m2, m3⟩, -⟩ := four NB2
    have HK1 := Lib.hid K1
    clear hr hpre hG ih hwd hlb hW hV K1 LB1 LB2 NB NB2 BA hsize
    go_enter Tryz.func48, Tryz.ntmps48
    go_upto_region 2 with fail
    rw [HW.out]
    go_upto_region 3 with fail
    rw [HV.out]
    go_wp2_with (go_quiet (fail))
    go_ret2
    exact ⟨HK1.out.drewN _, fun h => absurd h P.out, fun h => absurd h P.out, fun _ => rfl⟩
  · obtain ⟨l', rfl⟩ : ∃ l', l = l' + 1 := ⟨l - 1, by omega⟩
    have hcast : (((l' + 1 : Nat) : Int) - 1) = (l' : Int) := by omega
    rw [hcast] at K1 LB2 NB2 hs1 hstop
    generalize hV : W.setCell ⟨lb, 0, none⟩ (.int .i64 (l' : Int)) = V at K1 LB2 NB2 hs1
    have HV := Lib.hid hV
    obtain ⟨lc2, -⟩ := one_cell LB2
    obtain ⟨⟨m0, m1, m2, m3⟩, -⟩ := four NB2
    have HK1 := Lib.hid K1
    have HLB := Lib.hid LB2
    have HNB := Lib.hid NB2
    have hll : t.ks.len ≤ l' := by omega
    have b9 : ¬ (l' : Int) < (t.ks.len : Int) := hstop
    clear hr hpre hG ih hwd hlb hW hV K1 LB1 LB2 NB NB2 BA hstop hcast
    go_enter Tryz.func48, Tryz.ntmps48
    go_upto_region 2 with fail
    rw [HW.out]
    go_upto_region 3 with fail
    rw [HV.out]
    go_upto_region 5 with (go_quiet (fail))
    have HK2 := Lib.hid (HK1.out.drewN nq)
    have HLB2 := Lib.hid (show (V.drewN nq).heap[lb]? = _ from HLB.out)
    have HNB2 := Lib.hid (show (V.drewN nq).heap[w.heap.size]? = _ from HNB.out)
    have hsV : (V.drewN nq).heap.size = w.heap.size + 1 := hs1
    have n3 : (V.drewN nq).cell? ⟨w.heap.size, 3, none⟩ = some (.slice a t.ks.len c) := m3
    generalize V.drewN nq = U at HK2 HLB2 HNB2 hsV n3 ⊢
    clear m0 m1 m2 m3 lc lf lc2 HW HV HK1 HLB HNB
    go_wp2_with fail
    go_loopw [9, 30] (fun kv i wr => ∃ (k x : Nat) (va : Option Addr) (vc : Nat) (vs : List Value), kv = .slice va k vc ∧ i = .int .i64 k ∧ k ≤ t.ks.len ∧ x + sizeF t.ks = l' + sizeF (t.ks.drop k) ∧ Hid (wr.ownsRow (w.heap.size + 1) 22 1 (.slice va k vc) k vs) ∧
      Hid (∀ j t2, j < k → t.ks.at j = some t2 → ∃ v, vs[j]? = some v ∧ ResL (fun b => w.heap.size + 1 ≤ b ∧ (Value.slice va k vc).ownBlock ≠ some b) wr t2 v) ∧ Hid (wr.heap[lb]? = some (.cells #[.int .i64 x] 3 (0, 0))) ∧ Hid (Kept (· = lb) w wr) ∧ Hid (wr.heap[w.heap.size]? = some (ndG t.op t.nm t.n a t.ks.len c))) (fun _ i _ => t.ks.len - (intOf i).toNat)
    case atStart => exact ⟨0, l', none, 0, [], rfl, rfl, Nat.zero_le _, by rw [F.drop_zero], Lib.hid (World.ownsRow_nil _ _ _ _), Lib.hid (fun _ _ h => absurd h (Nat.not_lt_zero _)), HLB2, HK2, HNB2⟩
    case round =>
      obtain ⟨k, x, va, vc, vs, rfl, rfl, hk, hx, hO, hV, hL, hK, hN⟩ := hrel
      clear n3
      obtain ⟨⟨m0, m1, m2, m3⟩, -⟩ := four hN.out
      have hz := hK.out.size
      by_cases hkl : k < t.ks.len
      · obtain ⟨t2, hat, -⟩ := at_some hkl
        have hsd := size_drop hat
        have hdl := size_drop_le t.ks k
        obtain ⟨b, off, a2, c2, ha, hGb, hbl, ⟨p0, p1, p2, p3⟩, hr2⟩ := readsN_at (R.out.keptS hK.out (fun q hq hg => HG.out q hg hq)) hat
        subst ha
        have hN1 : w.heap.size < wr.heap.size := (Array.getElem?_eq_some_iff.1 hN.out).1
        have BA := (Below.refl wr.heap.size wr).alloc (Nat.le_refl _) (ndG t2.op t2.nm t2.n a2 t2.ks.len c2)
        have NB := heap_alloc_new wr (ndG t2.op t2.nm t2.n a2 t2.ks.len c2)
        have hs2 : (wr.alloc (ndG t2.op t2.nm t2.n a2 t2.ks.len c2)).heap.size = wr.heap.size + 1 := World.size_alloc _ _
        generalize hX : wr.alloc (ndG t2.op t2.nm t2.n a2 t2.ks.len c2) = Z at BA NB hs2
        have HX := Lib.hid hX
        have CF := Lib.hid ((EachF.at IH.out hat) G lb Z a2 c2 x (by omega) (preL2 PRE.out hat) HG.out (wdL WD.out (hK.out.trans (kept_below BA (· = lb)) (fun _ h _ => h))) (hr2.kept BA) ((BA.block lb (by omega)).trans hL.out))
        have HAT := Lib.hid hat
        have HBA := Lib.hid BA
        have OZ := Lib.hid (owns_below hO.out BA)
        obtain ⟨⟨z0, z1, z2, z3⟩, -⟩ := four NB
        clear hX BA NB hr2 hat hGb
        go_upto_region 9 with fail
        rw [HX.out]
        clear p0 p1 p2 p3 m0 m1 m2 m3
        go_wp2_with fail
        refine CF.out.mono ?_
        rintro e w2 ⟨k2, hA1, hA2, hB⟩
        have hzk2 := k2.size
        have K2 := Lib.hid (hK.out.trans ((kept_below HBA.out (· = lb)).trans k2 (fun _ h _ => h)) (fun _ h _ => h))
        have N2 := Lib.hid (k2.heap ((HBA.out.block w.heap.size (by omega)).trans hN.out) (by omega))
        by_cases hfit : sizeT t2 ≤ x
        · obtain ⟨v, rfl, hv⟩ := hA1 hfit
          obtain ⟨za, zn, zc, rfl⟩ := shapeL hv
          have L2 := Lib.hid (hA2 hfit)
          have O2 := Lib.hid (owns_kept (row := some lb) OZ.out (k2.mono (fun i hi _ => by rw [hi])) (fun q hq e => by have := (OZ.out.lt q hq).1; have := Option.some.inj e; omega))
          have HVV := Lib.hid hv
          have hx2 : (x - sizeT t2) + sizeF t.ks = l' + sizeF (t.ks.drop (k + 1)) := by omega
          have hksz : k + 1 ≤ 1000 := by omega
          have vone : ∀ u ∈ [(Value.slice za zn zc)], u.oneCell' = true := fun u hu => by rw [List.mem_singleton.1 hu]; exact oneL hv
          clear CF hA1 hA2 hB hv hfit z0 z1 z2 z3
          go_upto_region 12 with fail
          have BN := (Below.refl w2.heap.size w2).alloc (Nat.le_refl _) (.cells #[(Value.slice za zn zc)] 22)
          have F2 := Lib.hid (show ∀ j u, [(Value.slice za zn zc)][j]? = some u → (w2.alloc (.cells #[(Value.slice za zn zc)] 22)).cell? ((⟨w2.heap.size, 0, none⟩ : Addr).add j) = some u from fun j u hj => by
            rw [Addr.add_lit, Nat.zero_add, cell_of_row _ _ _ _ _ (0, 0) (heap_alloc_new w2 _)]
            simpa using hj)
          have HBN := Lib.hid BN
          clear BN
          go_wp2_with (at_builtin; refine wpList_append_new rfl _ _ 85 rfl und hi hz0 hz1 hz2 rfl (by decide) (.slice va k vc) k 1 1 ⟨w2.heap.size, 0, none⟩ vs [(Value.slice za zn zc)] rfl rfl (owns_below O2.out HBN.out) rfl F2.out vone (by unfold maxLen; omega) (by omega) (by rw [World.size_alloc]; omega) ?_)
          intro v3 w3 ho hg hq
          obtain ⟨va3, vc3, rfl⟩ := own_rowG ho
          have kg : Kept (fun b => (Value.slice va k vc).ownBlock = some b) w2 w3 := ((Kept.refl _ w2).alloc _).grown hg (fun q hq => .inl hq)
          have hov : ∀ q, (Value.slice va k vc).ownBlock = some q → w.heap.size + 1 ≤ q ∧ q < w2.heap.size := fun q hq => by have := O2.out.lt q hq; omega
          have O3 := Lib.hid ho
          have L3 := Lib.hid (kg.heap L2.out (fun e => by have := hov lb e; omega))
          have K3 := Lib.hid (K2.out.trans (kg.mono (T := fun b => w.heap.size + 1 ≤ b) (fun i hi _ => (hov i hi).1)) (fun i hi hlt => by omega))
          have N3 := Lib.hid (kg.heap N2.out (fun e => by have := hov _ e; omega))
          have hnewb : ∀ b, b < w2.heap.size → (Value.slice va k vc).ownBlock ≠ some b → (Value.slice va3 (k + 1) vc3).ownBlock ≠ some b := fun b hb hne e => by
            rcases hq b e with h1 | h1
            · exact hne h1
            · omega
          have V3 := Lib.hid (show ∀ j t3, j < k + 1 → t.ks.at j = some t3 → ∃ u, (vs ++ [(Value.slice za zn zc)])[j]? = some u ∧ ResL (fun b => w.heap.size + 1 ≤ b ∧ (Value.slice va3 (k + 1) vc3).ownBlock ≠ some b) w3 t3 u from fun j t3 hj hjt => by
            have hvl : vs.length = k := by have := hO.out.1; rwa [Nat.mul_one] at this
            by_cases hjk : j < k
            · obtain ⟨u, hu, hru⟩ := hV.out j t3 hjk hjt
              refine ⟨u, by rw [List.getElem?_append_left (by omega)]; exact hu, ?_⟩
              have r1 := resL_keptS (resL_keptS hru (kept_below HBA.out (fun _ => False)) (fun _ h => h.elim)) k2 (fun q hq hg => by have := hg.1; omega)
              have r2 := resL_imp (H := fun b => (w.heap.size + 1 ≤ b ∧ (Value.slice va k vc).ownBlock ≠ some b) ∧ (Value.slice va3 (k + 1) vc3).ownBlock ≠ some b) r1 (fun b hb hg => ⟨hg, hnewb b hb hg.2⟩)
              exact resL_imp (resL_keptS r2 kg (fun q hq hg => hg.1.2 hq)) (fun b hb hg => ⟨hg.1.1, hg.2⟩)
            · obtain rfl : j = k := by omega
              have : t3 = t2 := by rw [HAT.out] at hjt; exact (Option.some.inj hjt).symm
              subst this
              refine ⟨_, by rw [List.getElem?_append_right (by omega), hvl, Nat.sub_self]; rfl, ?_⟩
              have r2 := resL_imp (H := fun b => (w.heap.size + 1 ≤ b ∧ (Value.slice va j vc).ownBlock ≠ some b) ∧ (Value.slice va3 (j + 1) vc3).ownBlock ≠ some b) HVV.out (fun b hb hg => by
                have hne : (Value.slice va j vc).ownBlock ≠ some b := fun e => by have := (OZ.out.lt b e).2; omega
                exact ⟨⟨by omega, hne⟩, hnewb b hb hne⟩)
              exact resL_imp (resL_keptS r2 kg (fun q hq hg => hg.1.2 hq)) (fun b hb hg => ⟨hg.1.1, hg.2⟩))
          clear ho hg hq kg hov hnewb
          go_wp2_with fail
          go_roundw
          case rel => exact ⟨k + 1, x - sizeT t2, va3, vc3, vs ++ [(Value.slice za zn zc)], rfl, by go_num, by omega, hx2, O3, V3, L3, K3, N3⟩
          case measure => simp [intOf]; omega
        · obtain rfl := hB hfit
          have P := Lib.hid (show ¬ sizeT t ≤ l' + 1 by omega)
          clear CF hA1 hA2 hB hfit z0 z1 z2 z3
          go_wp2_with fail
          go_ret2
          exact ⟨K2.out, fun h => absurd h P.out, fun h => absurd h P.out, fun _ => rfl⟩
      · obtain rfl : k = t.ks.len := by omega
        have hx2 : x + sizeF t.ks = l' := by rw [hx, F.drop_len _ _ (Nat.le_refl _)]; rfl
        have CO := Lib.hid (ofL_any t wr G a c va vc vs (w.heap.size + 1) PRE.out (wdL WD.out hK.out) (R.out.keptS hK.out (fun q hq hg => HG.out q hg hq)) hO.out (fun j t2 hj => hV.out j t2 (at_lt hj) hj))
        go_wp2_with fail
        refine CO.out.mono ?_
        rintro e w2 ⟨v, rfl, hv, hb⟩
        have P := Lib.hid (show Kept (· = lb) w w2 ∧ ResL (fun b => w.heap.size ≤ b) w2 t v ∧ w2.heap[lb]? = some (.cells #[.int .i64 ((l' + 1 - sizeT t : Nat) : Int)] 3 (0, 0)) ∧ sizeT t ≤ l' + 1 from
          ⟨hK.out.trans (kept_below hb (· = lb)) (fun _ h _ => h), resL_imp hv (fun b _ hg => by omega), by rw [hb.block lb (by omega), hL.out, show x = l' + 1 - sizeT t by omega], by omega⟩)
        clear hv hb CO m0 m1 m2 m3
        go_wp2_with fail
        go_ret2
        exact ⟨P.out.1, fun _ => ⟨v, rfl, P.out.2.1⟩, fun _ => P.out.2.2.1, fun h => absurd P.out.2.2.2 h⟩

theorem foldL_all (t : TN) : FoldL t := tree_of foldL_step t

set_option maxHeartbeats 4000000 in
set_option maxRecDepth 100000 in
theorem foldL_any (t : TN) (G : Nat → Prop) (w : World) (a : Option Addr) (c : Nat) (hpre : PreL t) (hwd : ∀ lb, w.heap.size ≤ lb → WdL lb w) (hr : ReadsN G w a t.ks) :
    Calls Tryz.prog 31 #[nodeV t.op t.nm t.n a t.ks.len c, .func (.func 32) #[] #[]] w fun e w' => Below w.heap.size w w' ∧
      (sizeT t ≤ 32 → ∃ v, e = .returned (.tuple #[v, .bool true]) ∧ ResL (fun b => w.heap.size ≤ b) w' t v) ∧ (¬ sizeT t ≤ 32 → e = .returned (.tuple #[.slice none 0 0, .bool false])) := by
  have BA := (Below.refl w.heap.size w).alloc (Nat.le_refl _) (ndG t.op t.nm t.n a t.ks.len c)
  have NB := heap_alloc_new w (ndG t.op t.nm t.n a t.ks.len c)
  have hs0 : (w.alloc (ndG t.op t.nm t.n a t.ks.len c)).heap.size = w.heap.size + 1 := World.size_alloc _ _
  generalize hW : w.alloc (ndG t.op t.nm t.n a t.ks.len c) = W at BA NB hs0
  have BB := (Below.refl W.heap.size W).alloc (Nat.le_refl _) (.cells #[.int .i64 32] 3)
  have NC := heap_alloc_new W (.cells #[.int .i64 32] 3)
  have hs1 : (W.alloc (.cells #[.int .i64 32] 3)).heap.size = w.heap.size + 2 := by rw [World.size_alloc]; omega
  generalize hV : W.alloc (.cells #[.int .i64 32] 3) = V at BB NC hs1
  rw [hs0] at NC
  have BV := BA.trans (BB.mono (by omega))
  have N2 := (BB.block w.heap.size (by omega)).trans NB
  have hGlt := hr.imp (H := fun b => G b ∧ b < w.heap.size) (fun b hb hg => ⟨hg, hb⟩)
  have CF := Lib.hid (foldL_all t (fun b => G b ∧ b < w.heap.size) (w.heap.size + 1) V a c 32 (by omega) hpre (fun b hg => by omega) (wdL (hwd (w.heap.size + 1) (by omega)) (kept_below BV (fun _ => False) |>.mono (fun _ h _ => h.elim) : Kept (· = w.heap.size + 1) w V)) (hGlt.keptS (kept_below BV (fun _ => False)) (fun _ h => h.elim)) NC)
  have HW := Lib.hid hW
  have HV := Lib.hid hV
  have HB := Lib.hid BV
  obtain ⟨⟨m0, m1, m2, m3⟩, -⟩ := four N2
  clear hW hV BA NB BB NC BV N2 hGlt hr hpre hwd
  go_enter Tryz.func31, Tryz.ntmps31
  go_upto_region 1 with fail
  rw [HW.out]
  go_upto_region 2 with fail
  rw [HV.out]
  go_wp2_with fail
  refine CF.out.mono ?_
  rintro e w2 ⟨k2, hA, -, hB⟩
  have B2 := Lib.hid (HB.out.trans (Kept.below k2 (B := w.heap.size) (fun q hq => by omega) (by omega)))
  by_cases h32 : sizeT t ≤ 32
  · obtain ⟨v, rfl, hv⟩ := hA h32
    have HR := Lib.hid (resL_imp hv (H := fun b => w.heap.size ≤ b) (fun b _ hg => by omega))
    have H32 := Lib.hid h32
    clear k2 hA hB hv h32 CF m0 m1 m2 m3
    go_wp2_with fail
    go_ret2
    exact ⟨B2.out, fun _ => ⟨v, rfl, HR.out⟩, fun h => absurd H32.out h⟩
  · obtain rfl := hB h32
    have H32 := Lib.hid h32
    clear k2 hA hB h32 CF m0 m1 m2 m3
    go_wp2_with fail
    go_ret2
    exact ⟨B2.out, fun h => absurd h H32.out, fun _ => rfl⟩

end

section
open Go.RowKit

set_option maxHeartbeats 4000000 in
theorem alike_any (x y : TN) (qa qb : Option Addr × Nat) (w : World) :
    Calls Tryz.prog 34 #[nodeV x.op x.nm x.n qa.1 x.ks.len qa.2, nodeV y.op y.nm y.n qb.1 y.ks.len qb.2] w fun e w' => e = .returned (.bool (alikeB x y)) ∧ Below w.heap.size w w' := by
  have BA := Lib.hid (((Below.refl w.heap.size w).alloc (Nat.le_refl _) (ndG x.op x.nm x.n qa.1 x.ks.len qa.2)).alloc (by rw [World.size_alloc]; omega) (ndG y.op y.nm y.n qb.1 y.ks.len qb.2))
  unfold alikeB
  rw [← Lib.toList_data, ← Lib.toList_data]
  cases h0 : (x.op.toList == y.op.toList) with
  | false =>
    have b0 : (x.op.toList != y.op.toList) = true := by rw [bne, h0]; rfl
    rw [Bool.false_and]
    go_enter Tryz.func34, Tryz.ntmps34
    go_wp2_with fail
    go_ret
    exact ⟨rfl, BA.out⟩
  | true =>
    have b0 : (x.op.toList != y.op.toList) = false := by rw [bne, h0]; rfl
    rw [Bool.true_and]
    cases h1 : isNum x.op with
    | true =>
      have g1 := op_yes h1
      unfold bNum at g1
      rw [if_pos rfl]
      clear h1
      go_enter Tryz.func34, Tryz.ntmps34
      go_wp2_with fail
      go_ret
      exact ⟨rfl, BA.out⟩
    | false =>
      have g1 := op_not h1
      unfold bNum at g1
      rw [if_neg (by decide)]
      cases h2 : isName x.op with
      | true =>
        have g2 := op_yes h2
        unfold bName at g2
        rw [if_pos rfl, ← Lib.toList_data, ← Lib.toList_data]
        clear h1 h2
        go_enter Tryz.func34, Tryz.ntmps34
        go_wp2_with fail
        go_ret
        exact ⟨rfl, BA.out⟩
      | false =>
        have g2 := op_not h2
        unfold bName at g2
        rw [if_neg (by decide)]
        have E := Lib.hid (show ((x.ks.len : Int) == (y.ks.len : Int)) = (x.ks.len == y.ks.len) by
          by_cases h : x.ks.len = y.ks.len
          · rw [h, beq_self_eq_true, beq_self_eq_true]
          · have : (x.ks.len : Int) ≠ y.ks.len := by omega
            rw [beq_eq_false_iff_ne.2 h, beq_eq_false_iff_ne.2 this])
        clear h1 h2
        go_enter Tryz.func34, Tryz.ntmps34
        go_wp2_with fail
        go_ret
        exact ⟨congrArg (fun b => Ending.returned (.bool b)) E.out, BA.out⟩

theorem lstL_at : ∀ (l : List TN) (q : List (Option Addr × Nat)) {k : Nat} (_ : q.length = l.length) (hk : k < l.length), ∃ p, q[k]? = some p ∧ ∀ i u, (ndL l[k] p)[i]? = some u → i < 4 → (lstL l q)[k * 4 + i]? = some u
  | [], _, _, _, hk => by simp at hk
  | _ :: _, [], _, h, _ => by simp at h
  | t :: r, q :: s, 0, _, _ => ⟨q, rfl, fun i u hu hi => by
      rw [lstL, Nat.zero_mul, Nat.zero_add, List.getElem?_append_left (by exact hi)]; exact hu⟩
  | t :: r, q :: s, k + 1, h, hk => by
    obtain ⟨p, h1, h2⟩ := lstL_at r s (k := k) (by simpa using h) (by simpa using hk)
    refine ⟨p, h1, fun i u hu hi => ?_⟩
    rw [lstL, List.getElem?_append_right (by show 4 ≤ _; omega), show (k + 1) * 4 + i - (ndL t q).length = k * 4 + i by show (k + 1) * 4 + i - 4 = _; omega]
    exact h2 i u hu hi

/-- A list of nodes at an address. -/
def LstAt (w : World) (b off : Nat) (l : List TN) : Prop := b < w.heap.size ∧ ∃ qs : List (Option Addr × Nat), qs.length = l.length ∧ ∀ j u, (lstL l qs)[j]? = some u → w.cell? ⟨b, off + j, none⟩ = some u

theorem LstAt.below {w w' : World} {b off : Nat} {l : List TN} (h : LstAt w b off l) (hb : Below w.heap.size w w') : LstAt w' b off l :=
  ⟨Nat.lt_of_lt_of_le h.1 hb.size, h.2.imp fun _ hq => ⟨hq.1, fun j u hj => (hb.cell (p := ⟨b, off + j, none⟩) h.1).trans (hq.2 j u hj)⟩⟩

theorem LstAt.node {w : World} {b off : Nat} {l : List TN} (h : LstAt w b off l) {k : Nat} (hk : k < l.length) : ∃ p : Option Addr × Nat, w.cell? ⟨b, off + k * 4, none⟩ = some (.string l[k].op) ∧ w.cell? ⟨b, off + k * 4 + 1, none⟩ = some (.string l[k].nm) ∧ w.cell? ⟨b, off + k * 4 + 2, none⟩ = some (.int .i64 l[k].n) ∧ w.cell? ⟨b, off + k * 4 + 3, none⟩ = some (.slice p.1 l[k].ks.len p.2) := by
  obtain ⟨hb, qs, hq, hc⟩ := h
  obtain ⟨p, _, h2⟩ := lstL_at l qs hq hk
  exact ⟨p, hc (k * 4) _ (h2 0 _ rfl (by omega)), hc (k * 4 + 1) _ (h2 1 _ rfl (by omega)), hc (k * 4 + 2) _ (h2 2 _ rfl (by omega)), hc (k * 4 + 3) _ (h2 3 _ rfl (by omega))⟩

theorem all_cons {a b : TN} {x y : List TN} : allAlike (a :: x) (b :: y) = (alikeB a b && allAlike x y) := rfl

theorem all_ne : ∀ {x y : List TN}, x.length ≠ y.length → allAlike x y = false
  | [], [], h => absurd rfl h
  | [], _ :: _, _ => rfl
  | _ :: _, [], _ => rfl
  | a :: x, b :: y, h => by rw [all_cons, all_ne (by simpa using h), Bool.and_false]

set_option maxHeartbeats 8000000 in
theorem equalFunc_any (la lb : List TN) (b1 o1 c1 b2 o2 c2 : Nat) (hla : la.length ≤ 1000) (w : World) (h1 : LstAt w b1 o1 la) (h2 : LstAt w b2 o2 lb) :
    Calls Tryz.prog 33 #[.slice (some ⟨b1, o1, none⟩) la.length c1, .slice (some ⟨b2, o2, none⟩) lb.length c2, .func (.func 34) #[] #[]] w fun e w' => e = .returned (.bool (allAlike la lb)) ∧ Below w.heap.size w w' := by
  have H1 := Lib.hid h1
  have H2 := Lib.hid h2
  have B0 := Lib.hid (Below.refl w.heap.size w)
  clear h1 h2
  by_cases hl : la.length = lb.length
  · have a1 : ((la.length : Int) != (lb.length : Int)) = false := by rw [hl]; simp
    obtain ⟨r, hr⟩ : ∃ r, allAlike la lb = r := ⟨_, rfl⟩
    rw [hr]
    have HRr := Lib.hid hr
    have HL := Lib.hid hl
    have hlb : lb.length ≤ 1000 := by omega
    clear hr hl
    go_enter Tryz.func33, Tryz.ntmps33
    go_wp2_with fail
    go_loopw [17] (fun i wr => ∃ k : Nat, i = .int .i64 k ∧ k ≤ la.length ∧ Hid (allAlike (la.drop k) (lb.drop k) = r) ∧ Hid (Below w.heap.size w wr)) (fun i _ => la.length - (intOf i).toNat)
    case atStart => exact ⟨0, rfl, Nat.zero_le _, HRr, B0⟩
    case round =>
      obtain ⟨k, rfl, hk, hD, hB⟩ := hrel
      by_cases hlt : k < la.length
      · have hlt2 : k < lb.length := by have := HL.out; omega
        obtain ⟨pa, x0, x1, x2, x3⟩ := (H1.out.below hB.out).node hlt
        have hz := hB.out.size
        have BA1 := (Below.refl wr.heap.size wr).alloc (Nat.le_refl _) (ndG la[k].op la[k].nm la[k].n pa.1 la[k].ks.len pa.2)
        have NB1 := heap_alloc_new wr (ndG la[k].op la[k].nm la[k].n pa.1 la[k].ks.len pa.2)
        have hs1 : (wr.alloc (ndG la[k].op la[k].nm la[k].n pa.1 la[k].ks.len pa.2)).heap.size = wr.heap.size + 1 := World.size_alloc _ _
        generalize hV : wr.alloc (ndG la[k].op la[k].nm la[k].n pa.1 la[k].ks.len pa.2) = V at BA1 NB1 hs1
        have HBV := hB.out.trans (BA1.mono (by omega))
        obtain ⟨pb, y0, y1, y2, y3⟩ := (H2.out.below HBV).node hlt2
        have BA2 := (Below.refl V.heap.size V).alloc (Nat.le_refl _) (ndG lb[k].op lb[k].nm lb[k].n pb.1 lb[k].ks.len pb.2)
        have NB2 := heap_alloc_new V (ndG lb[k].op lb[k].nm lb[k].n pb.1 lb[k].ks.len pb.2)
        have hs2 : (V.alloc (ndG lb[k].op lb[k].nm lb[k].n pb.1 lb[k].ks.len pb.2)).heap.size = wr.heap.size + 2 := by rw [World.size_alloc]; omega
        generalize hU : V.alloc (ndG lb[k].op lb[k].nm lb[k].n pb.1 lb[k].ks.len pb.2) = U at BA2 NB2 hs2
        rw [hs1] at NB2
        have N1 := (BA2.block wr.heap.size (by omega)).trans NB1
        have HBU := Lib.hid (HBV.trans (BA2.mono (by omega)))
        have HV := Lib.hid hV
        have HU := Lib.hid hU
        have CA := Lib.hid (alike_any la[k] lb[k] pa pb U)
        have HD2 := Lib.hid (show (alikeB la[k] lb[k] && allAlike (la.drop (k + 1)) (lb.drop (k + 1))) = r by rw [← hD.out, List.drop_eq_getElem_cons hlt, List.drop_eq_getElem_cons hlt2, all_cons])
        have a2 : (k : Int) < (la.length : Int) := by omega
        have a3 : (k : Int) < (lb.length : Int) := by omega
        have a4 : (0 : Int) ≤ (k : Int) := by omega
        have a5 : ((k : Int)).toNat = k := by omega
        generalize la[k] = ta at x0 x1 x2 x3 CA HD2 N1 HV HU
        generalize lb[k] = tb at y0 y1 y2 y3 CA HD2 NB2 HU
        obtain ⟨⟨m0, m1, m2, m3⟩, -⟩ := four N1
        obtain ⟨⟨n0, n1, n2, n3⟩, -⟩ := four NB2
        obtain ⟨z, hz2⟩ : ∃ z, alikeB ta tb = z := ⟨_, rfl⟩
        rw [hz2] at CA HD2
        clear hV hU NB1 NB2 N1 BA1 BA2 HBV hz2
        go_upto_region 6 with fail
        rw [HV.out]
        go_upto_region 7 with fail
        rw [HU.out]
        clear x0 x1 x2 x3 y0 y1 y2 y3
        go_wp2_with fail
        refine CA.out.mono ?_
        rintro e w3 ⟨rfl, hb3⟩
        have B3 := Lib.hid (HBU.out.trans (hb3.mono (by omega)))
        clear hb3 CA m0 m1 m2 m3 n0 n1 n2 n3
        cases z with
        | true =>
          have D3 := Lib.hid (show allAlike (la.drop (k + 1)) (lb.drop (k + 1)) = r by have := HD2.out; rwa [Bool.true_and] at this)
          go_wp2_with fail
          go_roundw
          case rel => exact ⟨k + 1, by go_num, by omega, D3, B3⟩
          case measure => simp [intOf]; omega
        | false =>
          have D3 := Lib.hid (show r = false by have := HD2.out; rw [Bool.false_and] at this; exact this.symm)
          go_wp2_with fail
          go_ret
          rw [D3.out]
          exact ⟨rfl, B3.out⟩
      · obtain rfl : k = la.length := by omega
        have D3 := Lib.hid (show r = true by rw [← hD.out, List.drop_of_length_le (Nat.le_refl _), List.drop_of_length_le (by rw [HL.out]; exact Nat.le_refl _)]; rfl)
        go_wp2_with fail
        go_ret
        rw [D3.out]
        exact ⟨rfl, hB.out⟩
  · have a1 : ((la.length : Int) != (lb.length : Int)) = true := by rw [bne_iff_ne]; omega
    rw [all_ne hl]
    go_enter Tryz.func33, Tryz.ntmps33
    go_wp2_with fail
    go_ret
    exact ⟨rfl, B0.out⟩

theorem ResL.lst {G : Nat → Prop} {w : World} {t : TN} {v : Value} (h : ResL G w t v) : ∃ b off c, v = .slice (some ⟨b, off, none⟩) (preF t.f).length c ∧ LstAt w b off (preF t.f) := by
  obtain ⟨b, off, c, qs, h1, _, h3, h4, h5⟩ := h.h
  exact ⟨b, off, c, h1, h3, qs, h4, h5⟩

set_option maxHeartbeats 8000000 in
theorem pSame_any (x y : TN) (G G' : Nat → Prop) (w : World) (a a' : Option Addr) (c c' : Nat) (hx : OkT x) (hnx : NumsF x.f) (hsx : sizeT x ≤ 32) (hy : OkT y) (hny : NumsF y.f) (hsy : sizeT y ≤ 32) (hrx : ReadsN G w a x.ks) (hry : ReadsN G' w a' y.ks) :
    Calls Tryz.prog 14 #[nodeV x.op x.nm x.n a x.ks.len c, nodeV y.op y.nm y.n a' y.ks.len c'] w fun e w' => e = .returned (.bool (sameT x y)) ∧ Below w.heap.size w w' := by
  have BA := (Below.refl w.heap.size w).alloc (Nat.le_refl _) (ndG x.op x.nm x.n a x.ks.len c)
  have NB := heap_alloc_new w (ndG x.op x.nm x.n a x.ks.len c)
  have hs0 : (w.alloc (ndG x.op x.nm x.n a x.ks.len c)).heap.size = w.heap.size + 1 := World.size_alloc _ _
  generalize hV : w.alloc (ndG x.op x.nm x.n a x.ks.len c) = V at BA NB hs0
  have BB := (Below.refl V.heap.size V).alloc (Nat.le_refl _) (ndG y.op y.nm y.n a' y.ks.len c')
  have NC := heap_alloc_new V (ndG y.op y.nm y.n a' y.ks.len c')
  have hs1 : (V.alloc (ndG y.op y.nm y.n a' y.ks.len c')).heap.size = w.heap.size + 2 := by rw [World.size_alloc]; omega
  generalize hU : V.alloc (ndG y.op y.nm y.n a' y.ks.len c') = U at BB NC hs1
  rw [hs0] at NC
  have N1 := (BB.block w.heap.size (by omega)).trans NB
  have BU := BA.trans (BB.mono (by omega))
  have PX : PreL x := ⟨okI_of x hx hnx, by omega⟩
  have PY : PreL y := ⟨okI_of y hy hny, by omega⟩
  have C1 := Lib.hid (foldL_any x G U a c PX (fun _ _ => trivial) (hrx.kept BU))
  have RY := Lib.hid (hry.kept BU)
  have HPY := Lib.hid PY
  have HS := Lib.hid (pre_sameT hx hy)
  have hpl : (preF x.f).length ≤ 1000 := by have := pre_len x.f; rw [sizeF_tree] at this; omega
  have HX := Lib.hid hsx
  have HY := Lib.hid hsy
  have HV := Lib.hid hV
  have HU := Lib.hid hU
  have HB := Lib.hid BU
  have HNC := Lib.hid NC
  obtain ⟨⟨m0, m1, m2, m3⟩, -⟩ := four N1
  clear hV hU BA NB BB NC N1 BU PX PY hx hnx hy hny hrx hry hsx hsy
  go_enter Tryz.func14, Tryz.ntmps14
  go_upto_region 1 with fail
  rw [HV.out, HU.out]
  go_wp2_with fail
  refine C1.out.mono ?_
  rintro e w2 ⟨hb2, hA, -⟩
  obtain ⟨v, rfl, hv⟩ := hA HX.out
  obtain ⟨b1, o1, c1, rfl, L1⟩ := hv.lst
  have HL1 := Lib.hid L1
  have hz2 := hb2.size
  have B2 := Lib.hid (HB.out.trans (hb2.mono (by omega)))
  have C2 := Lib.hid (foldL_any y G' w2 a' c' HPY.out (fun _ _ => trivial) (RY.out.kept hb2))
  have N2 := (hb2.block _ (by omega)).trans HNC.out
  clear m0 m1 m2 m3
  obtain ⟨⟨m0, m1, m2, m3⟩, -⟩ := four N2
  clear hb2 hA hv L1 C1 N2
  go_wp2_with fail
  refine C2.out.mono ?_
  rintro e w3 ⟨hb3, hA, -⟩
  obtain ⟨v, rfl, hv⟩ := hA HY.out
  obtain ⟨b2, o2, c2, rfl, L2⟩ := hv.lst
  have hz3 := hb3.size
  have B3 := Lib.hid (B2.out.trans (hb3.mono (by omega)))
  have CE := Lib.hid (equalFunc_any (preF x.f) (preF y.f) b1 o1 c1 b2 o2 c2 hpl w3 (HL1.out.below hb3) L2)
  rw [HS.out] at CE
  clear hb3 hA hv L2 C2 m0 m1 m2 m3
  go_wp2_with fail
  refine CE.out.mono ?_
  rintro e w4 ⟨rfl, hb4⟩
  have B4 := Lib.hid (B3.out.trans (hb4.mono (by omega)))
  clear hb4 CE
  go_wp2_with fail
  go_ret
  exact ⟨rfl, B4.out⟩

end

section
open Go.RowKit

theorem le_iff_not {x y : List UInt8} : x ≤ y ↔ Op.bytesLess y x = false := by
  rw [bytesLess_eq]
  simp [List.not_lt]

theorem srt_pair (l : List (List UInt8)) : (l.mergeSort fun x y => decide (x ≤ y)).Pairwise (fun a b => Op.bytesLess b a = false) := by
  have h := List.pairwise_mergeSort (le := fun x y : List UInt8 => decide (x ≤ y)) (fun a b c h1 h2 => by
    simp only [decide_eq_true_eq] at h1 h2 ⊢
    exact List.le_trans h1 h2) (fun a b => by
    simp only [Bool.or_eq_true, decide_eq_true_eq]
    exact List.le_total a b) l
  refine h.imp (fun hab => ?_)
  exact le_iff_not.1 (by simpa using hab)

/-- What compact keeps of a sorted list rises, and has the same elements. -/
theorem compact_rise (d : Array (List UInt8)) (hd : d.toList.Pairwise (fun a b => Op.bytesLess b a = false)) : ∀ m, m ≤ d.size →
    (Lib.compactUpTo d m).Pairwise (fun a b => Op.bytesLess a b = true) ∧ (∀ x, x ∈ Lib.compactUpTo d m ↔ ∃ j, j < m ∧ x = d[j]!)
  | 0, _ => ⟨by simp [Lib.compactUpTo], by simp [Lib.compactUpTo]⟩
  | m + 1, hm => by
    obtain ⟨h1, h2⟩ := compact_rise d hd m (by omega)
    have hle : ∀ i j, i < j → j < d.size → Op.bytesLess d[j]! d[i]! = false := fun i j hij hj => by
      have := List.pairwise_iff_getElem.1 hd i j (by simp; omega) (by simpa using hj) hij
      rw [getElem!_pos d j hj, getElem!_pos d i (by omega)]
      simpa using this
    rw [Lib.compactUpTo_succ]
    by_cases hk : Lib.keeps d m = true
    · rw [if_pos hk]
      have hne : m = 0 ∨ d[m]! ≠ d[m - 1]! := by simpa [Lib.keeps] using hk
      refine ⟨List.pairwise_append.2 ⟨h1, List.pairwise_singleton _ _, fun x hx y hy => ?_⟩, fun x => ?_⟩
      · rw [List.mem_singleton.1 hy]
        obtain ⟨j, hj, rfl⟩ := (h2 x).1 hx
        have hm0 : m ≠ 0 := by omega
        have hne2 : d[m]! ≠ d[m - 1]! := hne.resolve_left hm0
        cases hb : Op.bytesLess d[j]! d[m]! with
        | true => rfl
        | false =>
          exfalso
          have e1 := bytesLess_total d[j]! d[m]! hb (hle j m hj (by omega))
          -- d[j] = d[m], and d[m-1] lies between
          have e2 : d[m - 1]! = d[m]! := by
            rcases Nat.lt_or_ge j (m - 1) with h | h
            · have a1 := hle (m - 1) m (by omega) (by omega)
              have a2 := hle j (m - 1) h (by omega)
              rw [e1] at a2
              exact bytesLess_total _ _ a2 a1
            · obtain rfl : j = m - 1 := by omega
              exact e1
          exact hne2 e2.symm
      · rw [List.mem_append, h2, List.mem_singleton]
        constructor
        · rintro (⟨j, hj, rfl⟩ | rfl)
          · exact ⟨j, by omega, rfl⟩
          · exact ⟨m, by omega, rfl⟩
        · rintro ⟨j, hj, rfl⟩
          by_cases hjm : j = m
          · subst hjm; exact .inr rfl
          · exact .inl ⟨j, by omega, rfl⟩
    · rw [if_neg hk, List.append_nil]
      have he : m ≠ 0 ∧ d[m]! = d[m - 1]! := by
        have := hk
        simp [Lib.keeps] at this
        exact ⟨this.1, this.2⟩
      refine ⟨h1, fun x => ?_⟩
      rw [h2]
      constructor
      · rintro ⟨j, hj, rfl⟩; exact ⟨j, by omega, rfl⟩
      · rintro ⟨j, hj, rfl⟩
        by_cases hjm : j = m
        · subst hjm
          exact ⟨j - 1, by omega, he.2⟩
        · exact ⟨j, by omega, rfl⟩

/-- Texts sorted and compacted. -/
def uniqT (l : List ByteArray) : List (List UInt8) := Lib.compact ((l.map (·.data.toList)).mergeSort fun x y => decide (x ≤ y))

theorem uniqT_rise (l : List ByteArray) : Rising lsS ((uniqT l).map (fun x => (⟨x.toArray⟩ : ByteArray))) ∧ ∀ y : ByteArray, y ∈ (uniqT l).map (fun x => (⟨x.toArray⟩ : ByteArray)) ↔ y ∈ l := by
  have hs := srt_pair (l.map (·.data.toList))
  obtain ⟨S, hS⟩ : ∃ S, ((l.map (·.data.toList)).mergeSort fun x y => decide (x ≤ y)) = S := ⟨_, rfl⟩
  have hmem : ∀ x, x ∈ S ↔ x ∈ l.map (·.data.toList) := fun x => by rw [← hS]; exact List.mem_mergeSort
  unfold uniqT
  rw [hS] at hs ⊢
  obtain ⟨h1, h2⟩ := compact_rise S.toArray (by simpa using hs) S.length (by simp)
  refine ⟨?_, fun y => ?_⟩
  · unfold Rising
    rw [List.pairwise_map]
    refine h1.imp (fun hab => ?_)
    unfold lsS
    rw [Lib.toList_data, Lib.toList_data]
    exact hab
  · rw [List.mem_map]
    constructor
    · rintro ⟨x, hx, rfl⟩
      obtain ⟨j, hj, rfl⟩ := (h2 x).1 hx
      have hin : S.toArray[j]! ∈ S := by
        rw [getElem!_pos S.toArray j (by simpa using hj)]
        simp
      obtain ⟨z, hz, e⟩ := List.mem_map.1 ((hmem _).1 hin)
      have : (⟨(S.toArray[j]!).toArray⟩ : ByteArray) = z := by rw [← e]
      rw [this]; exact hz
    · intro hy
      have hin : y.data.toList ∈ S := (hmem _).2 (List.mem_map.2 ⟨y, hy, rfl⟩)
      obtain ⟨j, hj, e⟩ := List.getElem_of_mem hin
      refine ⟨y.data.toList, (h2 _).2 ⟨j, hj, ?_⟩, rfl⟩
      rw [getElem!_pos S.toArray j (by simpa using hj)]
      simp [e]

end

section
open Go.RowKit Go.Sort

theorem srt_end {w w1 : World} {g cap n nn q : Nat} {os : Array Obj} {B : Nat} {ss : List (List UInt8)} (hown : w1.ownsRow B 9 1 (.slice (some ⟨g, 0, none⟩) n cap) n (ss.map encStr)) (hbel : Below B w w1) (hB : B ≤ w1.heap.size) (hlen : ss.length = n) :
    (putRow encStr (Sort.ahead (grow (putRow encStr (Sort.ahead w1 nn) g 0 (ss.mergeSort fun x y => decide (x ≤ y)).toArray) os) q) g 0 (Lib.compact (ss.mergeSort fun x y => decide (x ≤ y)) ++ List.replicate (n - (Lib.compact (ss.mergeSort fun x y => decide (x ≤ y))).length) []).toArray).ownsRow B 9 1 (.slice (some ⟨g, 0, none⟩) (Lib.compact (ss.mergeSort fun x y => decide (x ≤ y))).length cap) (Lib.compact (ss.mergeSort fun x y => decide (x ≤ y))).length ((Lib.compact (ss.mergeSort fun x y => decide (x ≤ y))).map encStr) ∧
    Below B w (putRow encStr (Sort.ahead (grow (putRow encStr (Sort.ahead w1 nn) g 0 (ss.mergeSort fun x y => decide (x ≤ y)).toArray) os) q) g 0 (Lib.compact (ss.mergeSort fun x y => decide (x ≤ y)) ++ List.replicate (n - (Lib.compact (ss.mergeSort fun x y => decide (x ≤ y))).length) []).toArray) := by
  have hl2 : (ss.mergeSort fun x y => decide (x ≤ y)).length = ss.length := List.length_mergeSort ss
  have hle := Lib.compact_length_le (ss.mergeSort fun x y => decide (x ≤ y))
  subst hlen
  rcases hown.2 with ⟨h0, _⟩ | ⟨g', cap', cur, hv, hbase, hb, h1, h2, h3, h4⟩
  · cases h0
  cases hv
  have hs := ownsRow_sorted (n := nn) (os := os) (ts := ss.mergeSort fun x y => decide (x ≤ y)) hl2 hbase hb h1 h2 h3
  have hc := Lib.ownsRow_putRow (q := q) (k := (Lib.compact (ss.mergeSort fun x y => decide (x ≤ y))).length) (ys := Lib.compact (ss.mergeSort fun x y => decide (x ≤ y)) ++ List.replicate (ss.length - (Lib.compact (ss.mergeSort fun x y => decide (x ≤ y))).length) []) hs (by simp; omega) (by omega)
  rw [List.take_left] at hc
  exact ⟨hc, Lib.below_putRow (hbel.grown (grownBy_sorted _) hB (fun j hj => by cases hj; exact hbase)) hbase⟩

theorem uniq_names {t : TN} (h : OkT t) : (uniqT (nmsL (preF t.f))).map (fun x => (⟨x.toArray⟩ : ByteArray)) = namesT t := by
  have hu := uniqT_rise (nmsL (preF t.f))
  rw [pre_names t.f h] at hu ⊢
  exact namesT_of hu.1 hu.2

theorem nms_take {l : List TN} {k : Nat} (hk : k < l.length) : nmsL (l.take (k + 1)) = nmsL (l.take k) ++ (if isName l[k].op = true then [l[k].nm] else []) := by
  rw [List.take_succ_eq_append_getElem hk, nms_app]
  congr 1
  unfold nmsL
  by_cases h : isName l[k].op = true
  · rw [if_pos h, List.filter_cons_of_pos (by exact h)]; rfl
  · rw [if_neg h, List.filter_cons_of_neg (by exact h)]; rfl

set_option maxHeartbeats 8000000 in
set_option maxRecDepth 100000 in
theorem pNames_any (t : TN) (G : Nat → Prop) (w : World) (a : Option Addr) (c : Nat) (ho : OkT t) (hn : NumsF t.f) (hs : sizeT t ≤ 32) (hr : ReadsN G w a t.ks) :
    Calls Tryz.prog 16 #[nodeV t.op t.nm t.n a t.ks.len c] w fun e w' => ∃ v, e = .returned v ∧ w'.ownsRow w.heap.size 9 1 v (namesT t).length ((namesT t).map Value.string) ∧ Below w.heap.size w w' := by
  have hun := uniq_names ho
  obtain ⟨nt, hnt⟩ : ∃ r, namesT t = r := ⟨_, rfl⟩
  rw [hnt] at hun ⊢
  clear hnt
  obtain ⟨i0, hi, hz0, hz1, hz2⟩ := info_parts infoT
  have und : Tryz.prog.underlying 41 = some (.slice 9) := Tryz.underlying41
  have BA := (Below.refl w.heap.size w).alloc (Nat.le_refl _) (ndG t.op t.nm t.n a t.ks.len c)
  have NB := heap_alloc_new w (ndG t.op t.nm t.n a t.ks.len c)
  have CF := foldL_any t G (w.alloc (ndG t.op t.nm t.n a t.ks.len c)) a c ⟨okI_of t ho hn, by omega⟩ (fun _ _ => trivial) (hr.kept BA)
  have hz : w.heap.size ≤ (w.alloc (ndG t.op t.nm t.n a t.ks.len c)).heap.size := BA.size
  generalize hW : w.alloc (ndG t.op t.nm t.n a t.ks.len c) = W at BA NB CF hz
  have HCF := Lib.hid CF
  have HB := Lib.hid BA
  have HW := Lib.hid hW
  have H32 := Lib.hid hs
  have HU := Lib.hid hun
  have hpl : (preF t.f).length ≤ 1000 := by have := pre_len t.f; rw [sizeF_tree] at this; omega
  obtain ⟨⟨m0, m1, m2, m3⟩, -⟩ := four NB
  clear hW BA NB CF hr hs ho hn hun
  obtain ⟨l, hl⟩ : ∃ l, preF t.f = l := ⟨_, rfl⟩
  have HLl := Lib.hid hl
  rw [hl] at HU hpl
  clear hl
  go_enter Tryz.func16, Tryz.ntmps16
  go_upto_region 1 with fail
  rw [HW.out]
  go_wp2_with fail
  refine HCF.out.mono ?_
  rintro e w2 ⟨hb2, hA, -⟩
  obtain ⟨v, rfl, hv⟩ := hA H32.out
  obtain ⟨b, off, cc, rfl, L2⟩ := hv.lst
  rw [HLl.out] at L2 ⊢
  have HL2 := Lib.hid L2
  have hz2w := hb2.size
  have B2 := Lib.hid (HB.out.trans (hb2.mono hz))
  have BR := Lib.hid (Below.refl w2.heap.size w2)
  clear hb2 hA hv L2 HCF m0 m1 m2 m3
  go_wp2_with fail
  go_loopw [5, 15] (fun s i wr => ∃ (k : Nat) (va : Option Addr) (vc : Nat) (ns : List ByteArray), s = .slice va ns.length vc ∧ i = .int .i64 k ∧ k ≤ l.length ∧ ns.length ≤ k ∧ Hid (ns = nmsL (l.take k)) ∧ Hid (wr.ownsRow w2.heap.size 9 1 (.slice va ns.length vc) ns.length (ns.map Value.string)) ∧ Hid (Below w2.heap.size w2 wr)) (fun _ i _ => l.length - (intOf i).toNat)
  case atStart => exact ⟨0, none, 0, [], rfl, rfl, Nat.zero_le _, Nat.zero_le _, Lib.hid rfl, Lib.hid (World.ownsRow_nil _ _ _ _), BR⟩
  case round =>
    obtain ⟨k, va, vc, ns, rfl, rfl, hk, hnk, hN, hO, hB⟩ := hrel
    have hzr := hB.out.size
    by_cases hlt : k < l.length
    · obtain ⟨p, x0, x1, x2, x3⟩ := (HL2.out.below hB.out).node hlt
      have HT := Lib.hid (nms_take hlt)
      have BA1 := (Below.refl wr.heap.size wr).alloc (Nat.le_refl _) (ndG l[k].op l[k].nm l[k].n p.1 l[k].ks.len p.2)
      have NB1 := heap_alloc_new wr (ndG l[k].op l[k].nm l[k].n p.1 l[k].ks.len p.2)
      have hs1 : (wr.alloc (ndG l[k].op l[k].nm l[k].n p.1 l[k].ks.len p.2)).heap.size = wr.heap.size + 1 := World.size_alloc _ _
      generalize hV : wr.alloc (ndG l[k].op l[k].nm l[k].n p.1 l[k].ks.len p.2) = V at BA1 NB1 hs1
      have HV := Lib.hid hV
      generalize l[k] = tk at x0 x1 x2 x3 HT NB1 HV
      obtain ⟨⟨n0, n1, n2, n3⟩, -⟩ := four NB1
      have HBV := Lib.hid (hB.out.trans (BA1.mono (by omega)))
      have OV := Lib.hid (owns_below hO.out BA1)
      clear hV NB1 BA1
      cases hnm : isName tk.op with
      | true =>
        have g2 := op_yes hnm
        unfold bName at g2
        rw [hnm, if_pos rfl, ← hN.out] at HT
        have BN := (Below.refl V.heap.size V).alloc (Nat.le_refl _) (.cells #[.string tk.nm] 9)
        have F2 := Lib.hid (show ∀ j u, [Value.string tk.nm][j]? = some u → (V.alloc (.cells #[.string tk.nm] 9)).cell? ((⟨V.heap.size, 0, none⟩ : Addr).add j) = some u from fun j u hj => by
          rw [Addr.add_lit, Nat.zero_add, cell_of_row _ _ _ _ _ (0, 0) (heap_alloc_new V _)]
          simpa using hj)
        have HBN := Lib.hid BN
        have HBN2 := Lib.hid (HBV.out.trans (BN.mono (by omega)))
        have hns : ns.length ≤ 1000 := by omega
        rw [hs1] at F2
        clear hnm BN
        go_upto_region 6 with fail
        rw [HV.out]
        clear x0 x1 x2 x3
        go_wp2_with (at_builtin; refine wpList_append_new rfl _ _ 41 rfl und hi hz0 hz1 hz2 rfl (by decide) (.slice va ns.length vc) ns.length 1 1 ⟨wr.heap.size + 1, 0, none⟩ (ns.map Value.string) [Value.string tk.nm] rfl rfl (owns_below OV.out HBN.out) rfl F2.out (fun u hu => by rw [List.mem_singleton.1 hu]; rfl) (by unfold maxLen; omega) (by omega) (by rw [World.size_alloc]; omega) ?_)
        intro v3 w3 ho3 hg3 _
        obtain ⟨va3, vc3, rfl⟩ := own_rowG ho3
        have e1 : ns.length + 1 = (ns ++ [tk.nm]).length := by simp
        have e2 : ns.map Value.string ++ [Value.string tk.nm] = (ns ++ [tk.nm]).map Value.string := by simp
        rw [e1, e2] at ho3
        have O3 := Lib.hid ho3
        have B3 := Lib.hid (HBN2.out.grown hg3 (by rw [World.size_alloc]; omega) (fun q hq => (OV.out.lt q hq).1))
        have N3 := Lib.hid (show ns ++ [tk.nm] = nmsL (l.take (k + 1)) from HT.out.symm)
        have hl3 : (ns ++ [tk.nm]).length ≤ k + 1 := by simp; omega
        rw [e1]
        clear ho3 hg3 e1 e2 n0 n1 n2 n3
        go_wp2_with fail
        go_roundw
        case rel => exact ⟨k + 1, va3, vc3, ns ++ [tk.nm], rfl, by go_num, by omega, hl3, N3, O3, B3⟩
        case measure => simp [intOf]; omega
      | false =>
        have g2 := op_not hnm
        unfold bName at g2
        rw [hnm, if_neg (by decide), List.append_nil, ← hN.out] at HT
        have N3 := Lib.hid HT.out.symm
        clear hnm
        go_upto_region 6 with fail
        rw [HV.out]
        clear x0 x1 x2 x3
        go_wp2_with fail
        go_roundw
        case rel => exact ⟨k + 1, va, vc, ns, rfl, by go_num, by omega, by omega, N3, OV, HBV⟩
        case measure => simp [intOf]; omega
    · obtain rfl : k = l.length := by omega
      have hns : ns = nmsL l := by have := hN.out; rwa [List.take_length] at this
      rw [← hns] at HU
      have B3 := Lib.hid (B2.out.trans (hB.out.mono (by omega)))
      have hns9 : ns.length ≤ 1000 := by omega
      clear hns hN
      by_cases h0 : ns = []
      · subst h0
        obtain rfl : nt = [] := by rw [← HU.out]; simp [uniqT, Lib.compact, Lib.compactUpTo]
        have O4 := Lib.hid (owns_mono hO.out (show w.heap.size ≤ w2.heap.size by omega))
        have CS := Lib.hid (Tryz.slices_Sort_string_none va vc wr)
        have CC := Lib.hid (Tryz.slices_Compact_string_empty va vc wr)
        clear HU
        go_wp2_with fail
        refine CS.out.mono ?_
        rintro e w4 ⟨rfl, rfl⟩
        go_wp2_with fail
        refine CC.out.mono ?_
        rintro e w5 ⟨rfl, rfl⟩
        go_wp2_with fail
        go_ret
        exact ⟨_, rfl, O4.out, B3.out⟩
      · have hne : Value.slice va ns.length vc ≠ .slice none 0 0 := by
          intro e
          simp only [Value.slice.injEq] at e
          exact h0 (List.length_eq_zero_iff.1 e.2.1)
        have hO' := hO.out
        rw [← Lib.map_encStr] at hO'
        obtain ⟨g, cap, hv, hbg, hgl, hncap, hcm, hlen, hH⟩ := Lib.holds_of_ownsRow hO' hne
        simp only [Value.slice.injEq, true_and] at hv
        obtain ⟨rfl, rfl⟩ := hv
        have CS := Tryz.slices_Sort_string g 0 vc (ns.map (·.data.toList)) wr hH hgl (by omega)
        rw [hlen] at CS
        have HCS := Lib.hid CS
        have HOW := Lib.hid (owns_mono hO' (show w.heap.size ≤ w2.heap.size by omega))
        have HH := Lib.hid hH
        have HLEN := Lib.hid hlen
        have hbw : w.heap.size ≤ wr.heap.size := by omega
        clear CS hO' hne h0 hH hlen
        go_wp2_with fail
        refine HCS.out.mono ?_
        rintro e w4 ⟨rfl, nn, os, rfl⟩
        have hl2 : ((ns.map (·.data.toList)).mergeSort fun x y => decide (x ≤ y)).length = ns.length := by rw [List.length_mergeSort]; exact HLEN.out
        have hH2 : Holds encStr (grow (putRow encStr (Sort.ahead wr nn) g 0 ((ns.map (·.data.toList)).mergeSort fun x y => decide (x ≤ y)).toArray) os) g 0 ((ns.map (·.data.toList)).mergeSort fun x y => decide (x ≤ y)).toArray :=
          holds_grow encStr _ os g 0 _ (by simpa [putRow, mapBlock, Sort.ahead] using hgl) (holds_putRow encStr _ g 0 _ _ (holds_ahead encStr wr nn g 0 _ HH.out) (by simp))
        have CC := Tryz.slices_Compact_string g 0 vc ((ns.map (·.data.toList)).mergeSort fun x y => decide (x ≤ y)) _ hH2 (by omega) (by omega)
        rw [hl2] at CC
        have HCC := Lib.hid CC
        clear CC hl2 hH2 HCS
        generalize hX : grow (putRow encStr (Sort.ahead wr nn) g 0 ((ns.map (·.data.toList)).mergeSort fun x y => decide (x ≤ y)).toArray) os = X at HCC ⊢
        have HX := Lib.hid hX
        clear hX
        go_wp2_with fail
        refine HCC.out.mono ?_
        rintro e w5 ⟨rfl, q, rfl⟩
        have P := srt_end (nn := nn) (q := q) (os := os) HOW.out B3.out hbw HLEN.out
        rw [HX.out] at P
        have hfin : (Lib.compact ((ns.map (·.data.toList)).mergeSort fun x y => decide (x ≤ y))) = nt.map (·.data.toList) := by
          rw [← HU.out, List.map_map]
          unfold uniqT
          conv => lhs; rw [← List.map_id (Lib.compact _)]
          rfl
        rw [hfin] at P ⊢
        rw [Lib.map_encStr, List.length_map] at P
        rw [List.length_map]
        have HP := Lib.hid P
        clear P hfin
        generalize putRow encStr _ _ _ _ = Y at HP ⊢
        go_wp2_with fail
        go_ret
        exact ⟨_, rfl, HP.out.1, HP.out.2⟩

end

section
open Go.RowKit

def bareF : F → F
  | .nil => .nil
  | .cons o _ n ks r => .cons (if isName o = true then ⟨#[110, 117, 109]⟩ else o) ⟨#[]⟩ (if isName o = true then 1 else n) (if isName o = true then .nil else bareF ks) (bareF r)

/-- The tree itself. -/
def bareT (t : TN) : TN := if isName t.op = true then ⟨⟨#[110, 117, 109]⟩, ⟨#[]⟩, 1, .nil⟩ else ⟨t.op, ⟨#[]⟩, t.n, bareF t.ks⟩

theorem bare_tree (t : TN) : (bareT t).f = bareF t.f := by
  unfold bareT TN.f
  rw [bareF, bareF]
  by_cases h : isName t.op = true
  · rw [if_pos h, if_pos h, if_pos h, if_pos h]
  · rw [if_neg h, if_neg h, if_neg h, if_neg h]

theorem bare_cons (t : TN) (r : F) : bareF (.cons t.op t.nm t.n t.ks r) = .cons (bareT t).op (bareT t).nm (bareT t).n (bareT t).ks (bareF r) := by
  unfold bareT
  rw [bareF]
  by_cases h : isName t.op = true
  · simp only [if_pos h]
  · simp only [if_neg h]

theorem bare_len : ∀ f : F, (bareF f).len = f.len
  | .nil => rfl
  | .cons _ _ _ _ r => by rw [bareF, F.len, F.len, bare_len r]

theorem bare_size : ∀ f : F, sizeF (bareF f) ≤ sizeF f
  | .nil => Nat.le_refl _
  | .cons o _ _ ks r => by
    have h1 := bare_size ks
    have h2 := bare_size r
    rw [bareF, sizeF, sizeF]
    split
    · have : sizeF .nil = 0 := rfl
      omega
    · omega

theorem bare_names : ∀ f : F, allN (bareF f) = []
  | .nil => rfl
  | .cons o _ _ ks r => by
    rw [bareF, allN, bare_names r, List.append_nil]
    by_cases h : isName o = true
    · rw [if_pos h, if_pos h]; rfl
    · rw [if_neg h, if_neg h, if_neg h, bare_names ks]

theorem bare_err {o m : ByteArray} {n : Int} {k : Nat} (h : errN o m n k = 0) (hn : isName o = false) : errN o ⟨#[]⟩ n k = 0 := by
  unfold errN at h ⊢
  rw [hn] at h ⊢
  split at h
  · cases h
  · rename_i h1
    rw [if_neg h1]
    exact h

theorem bare_chk : ∀ f : F, chkF f = 0 → chkF (bareF f) = 0
  | .nil, _ => rfl
  | .cons o m n ks r, h => by
    rw [chkF] at h
    by_cases h1 : errN o m n ks.len = 0
    · rw [if_pos h1] at h
      by_cases h2 : chkF ks = 0
      · rw [if_pos h2] at h
        have ir := bare_chk r h
        have ik := bare_chk ks h2
        rw [bareF, chkF]
        by_cases hn : isName o = true
        · rw [if_pos hn, if_pos hn, if_pos hn]
          rw [if_pos (show errN ⟨#[110, 117, 109]⟩ ⟨#[]⟩ 1 F.nil.len = 0 by decide), if_pos (show chkF .nil = 0 from rfl)]
          exact ir
        · rw [if_neg hn, if_neg hn, if_neg hn, bare_len, if_pos (bare_err h1 (by simpa using hn)), if_pos ik]
          exact ir
      · rw [if_neg h2] at h; exact absurd h h2
    · rw [if_neg h1] at h; exact absurd h h1

theorem check_iff (t : TN) : checkT t = 0 ↔ OkT t ∧ sizeT t ≤ 32 := by
  unfold checkT OkT
  have h := cnt_iff t
  by_cases k : cntF t.ks 31 < 0
  · rw [if_pos k]
    exact ⟨fun e => absurd e (by decide), fun e => by have := h.1 k; omega⟩
  · rw [if_neg k]
    exact ⟨fun e => ⟨e, by have : ¬ 32 < sizeT t := fun x => k (h.2 x); omega⟩, fun e => e.1⟩

theorem bare_check {t : TN} (h : checkT t = 0) : checkT (bareT t) = 0 ∧ namesT (bareT t) = [] := by
  rw [check_iff] at h ⊢
  refine ⟨⟨?_, ?_⟩, ?_⟩
  · unfold OkT; rw [bare_tree]; exact bare_chk _ h.1
  · rw [← sizeF_tree, bare_tree]
    have := bare_size t.f
    rw [sizeF_tree] at this
    omega
  · cases e : namesT (bareT t) with
    | nil => rfl
    | cons x l =>
      have : x ∈ namesT (bareT t) := by rw [e]; exact List.mem_cons_self
      rw [namesT_mem, bare_tree, bare_names] at this
      cases this

end

section
open Go.RowKit

def k9T : List Tk := [⟨1, [97], 0, 0⟩, ⟨3, [43], 0, 2⟩, ⟨2, [50], 2, 4⟩, ⟨3, [42], 0, 6⟩, ⟨3, [45], 0, 8⟩, ⟨3, [40], 0, 9⟩, ⟨1, [98], 0, 10⟩, ⟨3, [45], 0, 12⟩, ⟨2, [49], 1, 14⟩, ⟨3, [41], 0, 15⟩]

def k9B : List Tk := [⟨1, [97], 0, 0⟩, ⟨3, [43], 0, 2⟩, ⟨3, [41], 0, 4⟩]

def t9 : TN := twoT [43] (nameT [97]) (twoT [42] (numT 2) (negT (twoT [45] (nameT [98]) (numT 1))))

theorem k9_step {l : List UInt8} {p : Nat} {k v : Int} {n : Nat} {ts : List Tk} (h1 : ¬ l.head? = some 32) (hn : 1 ≤ n) (h : firstF l = .tok k n v) (hr : lexL (l.drop n) (p + n) = .ok ts) : lexL l p = .ok (⟨k, l.take n, v, p⟩ :: ts) := by
  rw [lex_tok h1 hn h, hr]; rfl

theorem k9_a : lexL [97, 32, 43, 32, 50, 32, 42, 32, 45, 40, 98, 32, 45, 32, 49, 41] 0 = .ok k9T := by
  refine k9_step (n := 1) (k := 1) (v := 0) (by decide) (by decide) (by rfl) ?_
  refine (lex_blank _ _).trans ?_
  refine k9_step (n := 1) (k := 3) (v := 0) (by decide) (by decide) (by rfl) ?_
  refine (lex_blank _ _).trans ?_
  refine k9_step (n := 1) (k := 2) (v := 2) (by decide) (by decide) (by rfl) ?_
  refine (lex_blank _ _).trans ?_
  refine k9_step (n := 1) (k := 3) (v := 0) (by decide) (by decide) (by rfl) ?_
  refine (lex_blank _ _).trans ?_
  refine k9_step (n := 1) (k := 3) (v := 0) (by decide) (by decide) (by rfl) ?_
  refine k9_step (n := 1) (k := 3) (v := 0) (by decide) (by decide) (by rfl) ?_
  refine k9_step (n := 1) (k := 1) (v := 0) (by decide) (by decide) (by rfl) ?_
  refine (lex_blank _ _).trans ?_
  refine k9_step (n := 1) (k := 3) (v := 0) (by decide) (by decide) (by rfl) ?_
  refine (lex_blank _ _).trans ?_
  refine k9_step (n := 1) (k := 2) (v := 1) (by decide) (by decide) (by rfl) ?_
  refine k9_step (n := 1) (k := 3) (v := 0) (by decide) (by decide) (by rfl) ?_
  exact lex_nil _

theorem k9_b : lexL [97, 32, 43, 32, 41] 0 = .ok k9B := by
  refine k9_step (n := 1) (k := 1) (v := 0) (by decide) (by decide) (by rfl) ?_
  refine (lex_blank _ _).trans ?_
  refine k9_step (n := 1) (k := 3) (v := 0) (by decide) (by decide) (by rfl) ?_
  refine (lex_blank _ _).trans ?_
  refine k9_step (n := 1) (k := 3) (v := 0) (by decide) (by decide) (by rfl) ?_
  exact lex_nil _

theorem k9_of : ofL k9T 0 = .ok t9 10 := by rfl

theorem k9_ofb : ofL k9B 0 = .bad 2 2 := by rfl

theorem k9_pa : parseX (⟨#[97, 32, 43, 32, 50, 32, 42, 32, 45, 40, 98, 32, 45, 32, 49, 41]⟩ : ByteArray).data.toList = .ok t9 := by
  have h : lexT (⟨#[97, 32, 43, 32, 50, 32, 42, 32, 45, 40, 98, 32, 45, 32, 49, 41]⟩ : ByteArray).data.toList = .ok k9T := by
    unfold lexT
    rw [if_neg (by decide)]
    exact k9_a
  unfold parseX
  rw [h]
  simp only
  rw [k9_of]
  rfl

theorem k9_pb : parseX (⟨#[97, 32, 43, 32, 41]⟩ : ByteArray).data.toList = .bad 4 2 := by
  have h : lexT (⟨#[97, 32, 43, 32, 41]⟩ : ByteArray).data.toList = .ok k9B := by
    unfold lexT
    rw [if_neg (by decide)]
    exact k9_b
  unfold parseX
  rw [h]
  simp only
  rw [k9_ofb]
  rfl

theorem k9_check : checkT t9 = 0 := by rfl

theorem k9_ok : OkT t9 := ((check_iff t9).1 k9_check).1

theorem k9_nums : NumsF t9.f := by simp [t9, twoT, nameT, numT, negT, TN.f, NumsF]

theorem k9_sz : SzF t9.f := by simp [t9, twoT, nameT, numT, negT, TN.f, SzF, F.len, ByteArray.size]

theorem k9_text : textE t9 = [40, 97, 32, 43, 32, 40, 50, 32, 42, 32, 45, 40, 98, 32, 45, 32, 49, 41, 41, 41] := by
  have h1 : Lib.itoa 1 = [49] := by simp [Lib.itoa, Lib.decDigits]
  have h2 : Lib.itoa 2 = [50] := by simp [Lib.itoa, Lib.decDigits]
  show 40 :: ([97] ++ 32 :: ([43] ++ 32 :: ((40 :: (Lib.itoa 2 ++ 32 :: ([42] ++ 32 :: ((45 :: (40 :: ([98] ++ 32 :: ([45] ++ 32 :: (Lib.itoa 1 ++ [41]))))) ++ [41])))) ++ [41]))) = _
  rw [h1, h2]
  rfl

theorem k9_same : sameT t9 t9 = true := by rfl

theorem k9_names : namesT t9 = [⟨#[97]⟩, ⟨#[98]⟩] := by
  refine (namesT_of (t := t9) (l := [⟨#[97]⟩, ⟨#[98]⟩]) ?_ (fun y => ?_)).symm
  · have h : lsS ⟨#[97]⟩ ⟨#[98]⟩ = true := by
      unfold lsS
      rw [Lib.toList_data, Lib.toList_data]
      rfl
    simp [Rising, h]
  · have : allN t9.f = [⟨#[97]⟩, ⟨#[98]⟩] := by rfl
    rw [this]

theorem k9_plus : checkT ⟨⟨#[43]⟩, ⟨#[]⟩, 0, .nil⟩ = 2 := by rfl

/-- The library's variables that the program reads: two errors, the table of powers. -/
def Laid9 (w : World) : Prop := Laid w ∧ LaidT w

theorem LaidT.step {w w' : World} (h : LaidT w) (hb : Below w.heap.size w w') : LaidT w' := by
  obtain ⟨t, f, h1⟩ := h
  exact ⟨t, f, (hb.block _ (Array.getElem?_eq_some_iff.1 h1).1).trans h1⟩

theorem Laid9.step {w w' : World} (h : Laid9 w) (hb : Below w.heap.size w w') : Laid9 w' := ⟨h.1.step hb, h.2.step hb⟩

/-- What known keeps: its tree, all else. -/
structure K9 (w : World) (n : Nat) (a : Option Addr) (c : Nat) (V : World) : Prop where
  b : Below w.heap.size w V
  n : V.heap[n]? = some (ndG ⟨#[43]⟩ ⟨#[]⟩ 0 a 2 c)
  r : ReadsK w.heap.size V a t9.ks
  l : Laid9 V
  z : w.heap.size ≤ V.heap.size

theorem K9.step {w V V' : World} {n : Nat} {a : Option Addr} {c : Nat} (h : K9 w n a c V) (hb : Below V.heap.size V V') : K9 w n a c V' :=
  ⟨h.b.trans (hb.mono h.z), (hb.block _ (Array.getElem?_eq_some_iff.1 h.n).1).trans h.n, h.r.kept hb, h.l.step hb, Nat.le_trans h.z hb.size⟩

set_option maxRecDepth 100000 in
set_option maxHeartbeats 8000000 in
theorem known9_any (w : World) (hw : Laid9 w) : Calls Tryz.prog 5 #[] w fun e w' => e = .returned (.bool true) ∧ Below w.heap.size w w' := by
  have A1 := Lib.hid (p := ∀ w, Laid w → Calls Tryz.prog 11 #[.string ⟨#[97, 32, 43, 32, 50, 32, 42, 32, 45, 40, 98, 32, 45, 32, 49, 41]⟩] w fun e w' => Below w.heap.size w w' ∧ ∃ a c, e = .returned (.tuple #[nodeV ⟨#[43]⟩ ⟨#[]⟩ 0 a 2 c, .int .i64 0, .int .i64 0]) ∧ ReadsK w.heap.size w' a t9.ks) (fun w hw => by
    have h := pParse_any ⟨#[97, 32, 43, 32, 50, 32, 42, 32, 45, 40, 98, 32, 45, 32, 49, 41]⟩ (by decide) w hw
    rw [k9_pa] at h
    exact h)
  have A2 := Lib.hid (p := ∀ w, Laid w → Calls Tryz.prog 11 #[.string ⟨#[97, 32, 43, 32, 41]⟩] w fun e w' => Below w.heap.size w w' ∧ e = .returned (.tuple #[nodeV ⟨#[]⟩ ⟨#[]⟩ 0 none 0 0, .int .i64 4, .int .i64 2])) (fun w hw => by
    have h := pParse_any ⟨#[97, 32, 43, 32, 41]⟩ (by decide) w hw
    rw [k9_pb] at h
    exact h)
  have NM := Lib.hid (p := ∀ (G : Nat → Prop) w a c, ReadsN G w a t9.ks → Calls Tryz.prog 16 #[nodeV ⟨#[43]⟩ ⟨#[]⟩ 0 a 2 c] w fun e w' => ∃ g vc, e = .returned (.slice (some ⟨g, 0, none⟩) 2 vc) ∧ w'.cell? ⟨g, 0, none⟩ = some (.string ⟨#[97]⟩) ∧ g < w'.heap.size ∧ Below w.heap.size w w') (fun G w a c hr => by
    have h := pNames_any t9 G w a c k9_ok k9_nums (by decide) hr
    rw [k9_names] at h
    refine h.mono ?_
    rintro e w' ⟨v, rfl, ho, hb⟩
    obtain ⟨g, vc, rfl, -, -, hc⟩ := own_full ho (by decide)
    exact ⟨g, vc, rfl, hc 0 _ rfl, (ho.lt g rfl).2, hb⟩)
  have TX := Lib.hid (p := ∀ (G : Nat → Prop) w a c, LaidT w → ReadsN G w a t9.ks → Calls Tryz.prog 10 #[nodeV ⟨#[43]⟩ ⟨#[]⟩ 0 a 2 c] w fun e w' => e = .returned (.string ⟨#[40, 97, 32, 43, 32, 40, 50, 32, 42, 32, 45, 40, 98, 32, 45, 32, 49, 41, 41, 41]⟩) ∧ Below w.heap.size w w') (fun G w a c hl hr => by
    have h := pText_any t9 G w a c k9_ok k9_nums (by decide) hl hr
    rw [k9_text] at h
    exact h)
  have CK := Lib.hid (p := ∀ (G : Nat → Prop) w a c, ReadsN G w a t9.ks → Calls Tryz.prog 9 #[nodeV ⟨#[43]⟩ ⟨#[]⟩ 0 a 2 c] w fun e w' => e = .returned (.int .i64 0) ∧ Below w.heap.size w w') (fun G w a c hr => by
    have h := pCheck_any t9 G w a c k9_sz hr
    rw [k9_check] at h
    exact h)
  have SM := Lib.hid (p := ∀ (G : Nat → Prop) w a c, ReadsN G w a t9.ks → Calls Tryz.prog 14 #[nodeV ⟨#[43]⟩ ⟨#[]⟩ 0 a 2 c, nodeV ⟨#[43]⟩ ⟨#[]⟩ 0 a 2 c] w fun e w' => e = .returned (.bool true) ∧ Below w.heap.size w w') (fun G w a c hr => by
    have h := pSame_any t9 t9 G G w a a c c k9_ok k9_nums (by decide) k9_ok k9_nums (by decide) hr hr
    rw [k9_same] at h
    exact h)
  have CP := Lib.hid (p := ∀ w, Calls Tryz.prog 9 #[nodeV ⟨#[43]⟩ ⟨#[]⟩ 0 none 0 0] w fun e w' => e = .returned (.int .i64 2) ∧ Below w.heap.size w w') (fun w => by
    have h := pCheck_any ⟨⟨#[43]⟩, ⟨#[]⟩, 0, .nil⟩ (fun _ => True) w none 0 (by simp [TN.f, SzF, F.len, ByteArray.size]) (.inl rfl)
    rw [k9_plus] at h
    exact h)
  have LD := Lib.hid hw
  clear hw
  go_enter Tryz.func5, Tryz.ntmps5
  go_wp2_with fail
  refine (A1.out w LD.out.1).mono ?_
  rintro e w1 ⟨hb1, a, c, rfl, hr1⟩
  have BA1 := (Below.refl w1.heap.size w1).alloc (Nat.le_refl _) (ndG ⟨#[43]⟩ ⟨#[]⟩ 0 a 2 c)
  have NB1 := heap_alloc_new w1 (ndG ⟨#[43]⟩ ⟨#[]⟩ 0 a 2 c)
  have hz1 := hb1.size
  have S1 : K9 w w1.heap.size a c (w1.alloc (ndG ⟨#[43]⟩ ⟨#[]⟩ 0 a 2 c)) := ⟨hb1.trans (BA1.mono hz1), NB1, hr1.kept BA1, (LD.out.step hb1).step BA1, Nat.le_trans hz1 BA1.size⟩
  generalize hn1 : w1.heap.size = n1 at S1
  generalize hV1 : w1.alloc (ndG ⟨#[43]⟩ ⟨#[]⟩ 0 a 2 c) = V1 at S1
  have HS1 := Lib.hid S1
  have HN1 := Lib.hid hn1
  have HV1 := Lib.hid hV1
  clear hb1 hr1 BA1 NB1 S1 hn1 hV1 A1
  go_upto_region 2 with fail
  rw [HV1.out, HN1.out]
  go_wp2_with fail
  refine (A2.out V1 HS1.out.l.1).mono ?_
  rintro e w2 ⟨hb2, rfl⟩
  have S2 := (HS1.out.step hb2).step ((Below.refl w2.heap.size w2).alloc (Nat.le_refl _) (ndG ⟨#[]⟩ ⟨#[]⟩ 0 none 0 0))
  generalize hn2 : w2.heap.size = n2
  generalize hV2 : w2.alloc (ndG ⟨#[]⟩ ⟨#[]⟩ 0 none 0 0) = V2 at S2
  have HS2 := Lib.hid S2
  have HN2 := Lib.hid hn2
  have HV2 := Lib.hid hV2
  clear hb2 S2 hn2 hV2 A2
  go_upto_region 3 with fail
  rw [HV2.out]
  obtain ⟨⟨x0, x1, x2, x3⟩, -⟩ := four HS2.out.n
  go_wp2_with fail
  refine (NM.out _ V2 a c HS2.out.r).mono ?_
  rintro e w3 ⟨g, vc, rfl, hg, hgl, hb3⟩
  have HS3 := Lib.hid (HS2.out.step hb3)
  have HG3 := Lib.hid hg
  have HGL := Lib.hid hgl
  clear hb3 hg hgl NM x0 x1 x2 x3
  obtain ⟨⟨x0, x1, x2, x3⟩, -⟩ := four HS3.out.n
  go_wp2_with fail
  refine (TX.out _ w3 a c HS3.out.l.2 HS3.out.r).mono ?_
  rintro e w4 ⟨rfl, hb4⟩
  have HS4 := Lib.hid (HS3.out.step hb4)
  have HG4 := Lib.hid ((hb4.cell (p := ⟨g, 0, none⟩) HGL.out).trans HG3.out)
  have HGL4 := Lib.hid (Nat.lt_of_lt_of_le HGL.out hb4.size)
  clear hb4 TX x0 x1 x2 x3
  obtain ⟨⟨x0, x1, x2, x3⟩, -⟩ := four HS4.out.n
  go_wp2_with fail
  refine (CK.out _ w4 a c HS4.out.r).mono ?_
  rintro e w5 ⟨rfl, hb5⟩
  have HS5 := Lib.hid (HS4.out.step hb5)
  have HG5 := Lib.hid ((hb5.cell (p := ⟨g, 0, none⟩) HGL4.out).trans HG4.out)
  have HGL5 := Lib.hid (Nat.lt_of_lt_of_le HGL4.out hb5.size)
  clear hb5 CK x0 x1 x2 x3
  obtain ⟨⟨x0, x1, x2, x3⟩, -⟩ := four HS5.out.n
  go_wp2_with fail
  refine (SM.out _ w5 a c HS5.out.r).mono ?_
  rintro e w6 ⟨rfl, hb6⟩
  have HS6 := Lib.hid (HS5.out.step hb6)
  have hg6 := (hb6.cell (p := ⟨g, 0, none⟩) HGL5.out).trans HG5.out
  clear hb6 SM x0 x1 x2 x3
  go_wp2_with fail
  refine (CP.out w6).mono ?_
  rintro e w7 ⟨rfl, hb7⟩
  have HS7 := Lib.hid (HS6.out.step hb7)
  clear hb7 CP hg6
  go_wp2_with fail
  go_ret
  exact ⟨rfl, HS7.out.b⟩

end

section
open Go.RowKit

def MdF : F → Prop
  | .nil => True
  | .cons _ m n ks r => m.size ≤ 8 ∧ n ≤ 9223372036854775807 ∧ ks.len ≤ 2 ∧ MdF ks ∧ MdF r

def mdT (t : TN) : Prop := MdF t.f

theorem md_zero : mdT zeroT := ⟨by decide, by decide, by decide, trivial, trivial⟩

theorem md_num {v : Int} (h : v ≤ 9223372036854775807) : mdT (numT v) := ⟨by show (0 : Nat) ≤ 8; decide, h, by show (0 : Nat) ≤ 2; decide, trivial, trivial⟩

theorem md_name {x : List UInt8} (h : x.length ≤ 8) : mdT (nameT x) := ⟨by show x.toArray.size ≤ 8; rw [List.size_toArray]; exact h, by show (0 : Int) ≤ _; decide, by show (0 : Nat) ≤ 2; decide, trivial, trivial⟩

theorem md_neg {k : TN} (h : mdT k) : mdT (negT k) := ⟨by show (0 : Nat) ≤ 8; decide, by show (0 : Int) ≤ _; decide, by show (1 : Nat) ≤ 2; decide, h, trivial⟩

theorem md_two {o : List UInt8} {a b : TN} (ha : mdT a) (hb : mdT b) : mdT (twoT o a b) :=
  ⟨by show (0 : Nat) ≤ 8; decide, by show (0 : Int) ≤ _; decide, by show (2 : Nat) ≤ 2; decide, ⟨ha.1, ha.2.1, ha.2.2.1, ha.2.2.2.1, hb⟩, trivial⟩

def Md.made : Md → Prop
  | .prodL n => mdT n
  | .sumL n => mdT n
  | _ => True

theorem pr_made (L : List Tk) (hL : ∀ t ∈ L, GoodTk t) : ∀ (f : Nat) (md : Md) (s : RS), md.made → mdT (pr L f md s).1
  | 0, md, s, _ => md_zero
  | f + 1, .fac, s, _ => by
    rw [pr]
    by_cases hb : s.bad = 0
    · rw [if_pos hb]
      cases e : L[s.pos]? with
      | none => exact md_zero
      | some t =>
        have hg := hL t (by rw [← (List.getElem?_eq_some_iff.1 e).2]; exact List.getElem_mem (List.getElem?_eq_some_iff.1 e).1)
        simp only
        by_cases h2 : t.kind = 2
        · rw [if_pos h2]
          refine md_num ?_
          rcases hg with ⟨h, _⟩ | ⟨_, _, h⟩ | h
          · rw [h] at h2; exact absurd h2 (by decide)
          · exact h
          · rw [h] at h2; exact absurd h2 (by decide)
        rw [if_neg h2]
        by_cases h1 : t.kind = 1
        · rw [if_pos h1]
          refine md_name ?_
          rcases hg with ⟨_, h⟩ | ⟨h, _⟩ | h
          · exact good_len h
          · rw [h] at h1; exact absurd h1 (by decide)
          · rw [h] at h1; exact absurd h1 (by decide)
        rw [if_neg h1]
        by_cases h45 : t.text = [45]
        · rw [if_pos h45]
          exact md_neg (pr_made L hL f .fac _ trivial)
        rw [if_neg h45]
        by_cases h40 : t.text = [40]
        · rw [if_pos h40]
          exact pr_made L hL f .sum _ trivial
        rw [if_neg h40]
        exact md_zero
    · rw [if_neg hb]; exact md_zero
  | f + 1, .prod, s, _ => by rw [pr]; exact pr_made L hL f _ _ (pr_made L hL f .fac s trivial)
  | f + 1, .prodL n, s, hn => by
    rw [pr]
    split
    · exact pr_made L hL f _ _ (md_two hn (pr_made L hL f .fac _ trivial))
    · exact hn
  | f + 1, .sum, s, _ => by rw [pr]; exact pr_made L hL f _ _ (pr_made L hL f .prod s trivial)
  | f + 1, .sumL n, s, hn => by
    rw [pr]
    split
    · exact pr_made L hL f _ _ (md_two hn (pr_made L hL f .prod _ trivial))
    · exact hn

theorem ofL_made {L : List Tk} (hL : ∀ t ∈ L, GoodTk t) {p q : Nat} {t : TN} (h : ofL L p = .ok t q) : mdT t := by
  unfold ofL at h
  split at h
  · cases h
    exact pr_made L hL _ _ _ trivial
  · cases h

theorem parse_made {l : List UInt8} {t : TN} (h : parseX l = .ok t) : mdT t := by
  unfold parseX at h
  cases hl : lexT l with
  | bad p e => rw [hl] at h; cases h
  | ok L =>
    rw [hl] at h
    simp only at h
    cases ho : ofL L 0 with
    | bad p e => rw [ho] at h; cases h
    | ok t' q =>
      rw [ho] at h
      simp only at h
      split at h
      · cases h
      · cases h
        exact ofL_made (lexT_good hl) ho

theorem md_sz : ∀ {f : F}, MdF f → SzF f
  | .nil, _ => trivial
  | .cons _ _ _ _ _, h => ⟨by have := h.1; omega, by have := h.2.2.1; omega, md_sz h.2.2.2.1, md_sz h.2.2.2.2⟩

theorem md_nums : ∀ {f : F}, MdF f → NumsF f
  | .nil, _ => trivial
  | .cons _ _ _ _ _, h => ⟨h.2.1, md_nums h.2.2.2.1, md_nums h.2.2.2.2⟩

theorem parse_sz {l : List UInt8} {t : TN} (h : parseX l = .ok t) : SzF t.f := md_sz (parse_made h)

theorem parse_nums {l : List UInt8} {t : TN} (h : parseX l = .ok t) : NumsF t.f := md_nums (parse_made h)

end

end Go.Proofs.YtcmcnmmhkpolcaaGreatDoor
