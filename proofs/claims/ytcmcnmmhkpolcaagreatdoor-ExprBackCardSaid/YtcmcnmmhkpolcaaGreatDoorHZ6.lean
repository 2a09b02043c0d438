/-
  No statement: what these walks need, of earlier texts: GOf, EPx, GPx, Keys, ENmath, EPre, ETree.
-/
import Derived.Test.YtcmcnmmhkpolcaaGreatDoorHZ5
import Derived.WalkKit
import Derived.WalkSpells
import Derived.Lib.Hide
import Derived.Deep.Draws
import Derived.Sort.Walk0
import Derived.Lib.ParseIntB
import Derived.Lib.AtoiErrMem
import Derived.Lib.AppendIntMem
import Derived.Test.YtcmcnmmhkpolcaaGreatDoorShelf
import Derived.Test.YtcmcnmmhkpolcaaGreatDoorProg
import Derived.IntWalk
import Derived.LoopTactic
import Derived.StillTailTactics
import Derived.Deep.QuietTactic
import Derived.BigQuiet
import Derived.Lib.ParseIntBTie
import Derived.RangeFuncRecord
import Derived.ArgAppend
import Derived.OwnWalk
import Derived.BigRegion
import Derived.Deep.Cut
import Derived.Deep.RegionLaw
import Derived.Deep.RegionHeld3
import Derived.Shelf.Spec.SearchS
import Derived.Laws.IdiomStrings
import Derived.Lib.AppendZerosOnto
import Derived.Lib.SliceRun
import Derived.Lib.OwnBridge
import Derived.Lib.SlicesCompact
import Derived.Sort.OwnSorted
import Derived.RangeFuncBox
namespace Go.Proofs.YtcmcnmmhkpolcaaGreatDoor
section
open Go.RowKit

abbrev ndG (o m : ByteArray) (n : Int) (a : Option Addr) (l c : Nat) : Obj := .cells #[.string o, .string m, .int .i64 n, .slice a l c] 24

theorem RGx.mark {ts : List Tk} {rb : Nat} {a : Option Addr} {c p o n : Nat} {sg : List (List UInt8 × Nat)} {dn : List TN} {sv dv : Value} {q : List (Option Addr × Nat)} {w : World} (h : RG ts rb a c p o n sg dn sv dv q w) (ob : Obj) : RGx w.heap.size ts rb a c p o n sg dn sv dv q (w.alloc ob) := by
  have hb := (Below.refl w.heap.size w).alloc (Nat.le_refl _) ob
  have h2 := h.below hb
  exact ⟨h2.g, h2.so, h2.dw, (h.dk.imp (fun b hlt hg => (⟨hg.1, by omega, hg.2.2⟩ : Gk w.heap.size rb sv dv b))).keptS (kept_below hb (fun _ => False)) (fun _ h => h.elim), h2.ap, by rw [World.size_alloc]; omega, h2.hs, h2.hd⟩

set_option maxHeartbeats 8000000 in
set_option maxRecDepth 100000 in
theorem whole_any (ts : List Tk) (rb : Nat) (a : Option Addr) (c p o n : Nat) (sg : List (List UInt8 × Nat)) (dn : List TN) (sv dv : Value) (q : List (Option Addr × Nat)) (w : World) (H : RG ts rb a c p o n sg dn sv dv q w) (hs : SgOk sg) (hd : dn.length = bins sg + 1) (t : TN) (hj : joinS 0 sg dn = ([], [t])) :
    Calls Tryz.prog 47 #[.pointer (some ⟨rb, 0, none⟩)] w fun e w' => ∃ ad cc, e = .returned (nodeV t.op t.nm t.n ad t.ks.len cc) ∧ KeptR rb w w' ∧ ReadsN (fun b => rb < b) w' ad t.ks ∧ w'.cell? ⟨rb, 1, none⟩ = some (.int .i64 p) := by
  have hrb := H.lt
  have HX := H.mark (ndG ⟨#[]⟩ ⟨#[]⟩ 0 none 0 0)
  have KA := KeptR.below (rb := rb) ((Below.refl w.heap.size w).alloc (Nat.le_refl _) (ndG ⟨#[]⟩ ⟨#[]⟩ 0 none 0 0))
  have NB := heap_alloc_new w (ndG ⟨#[]⟩ ⟨#[]⟩ 0 none 0 0)
  have hs0 : (w.alloc (ndG ⟨#[]⟩ ⟨#[]⟩ 0 none 0 0)).heap.size = w.heap.size + 1 := World.size_alloc _ _
  generalize hW : w.alloc (ndG ⟨#[]⟩ ⟨#[]⟩ 0 none 0 0) = W at HX KA NB hs0
  have CJ := join_fr w.heap.size ts rb a c p o n 0 sg dn sv dv q W HX hs hd
  rw [hj] at CJ
  have HCJ := Lib.hid CJ
  have HSV := Lib.hid (fun (e : sv.ownBlock = some w.heap.size) => (Nat.lt_irrefl _ (H.svNe e).2))
  have HDV := Lib.hid (fun (e : dv.ownBlock = some w.heap.size) => (Nat.lt_irrefl _ (H.dvNe e).2))
  have HW := Lib.hid hW
  have HNB := Lib.hid NB
  have HKA := Lib.hid KA
  clear hW HX CJ hs hd hj H NB KA
  go_enter Tryz.func47, Tryz.ntmps47
  go_upto_region 1 with fail
  rw [HW.out]
  go_wp2_with fail
  refine HCJ.out.mono ?_
  rintro e w2 ⟨rfl, ⟨k2, sv2, dv2, q2, R2⟩, hf⟩
  have N2 := (hf w.heap.size (by omega) (by omega) HSV.out HDV.out).trans HNB.out
  obtain ⟨g, vc, hv, -, -, hcs⟩ := own_full R2.dw (by simp)
  subst hv
  obtain ⟨qa, rfl⟩ : ∃ x, q2 = [x] := by
    have := dnK_len R2.dk
    match q2, this with
    | [x], _ => exact ⟨x, rfl⟩
  have hx0 := hcs 0 _ rfl
  have hx1 := hcs 1 _ rfl
  have hx2 := hcs 2 _ rfl
  have hx3 := hcs 3 _ rfl
  have RK := R2.dk.1
  obtain ⟨⟨c0, c1, c2, c3, c4, c5⟩, -⟩ := R2.g.r.cells
  obtain ⟨⟨z0, z1, z2, z3⟩, y0, y1, y2, y3⟩ := four N2
  have HN2 := Lib.hid N2
  have HK2 := Lib.hid (HKA.out.trans k2)
  have HRK := Lib.hid RK
  have hgr := (R2.g.r)
  have HGR := Lib.hid hgr
  have hl1 : ([t] : List TN).length = 1 := rfl
  rw [hl1] at c5
  clear hcs R2 k2 hf N2 RK hgr HCJ hl1
  go_wp2_with fail
  have h4 := four_set HN2.out (.string t.op) (.string t.nm) (.int .i64 t.n) (.slice qa.1 t.ks.len qa.2)
  obtain ⟨⟨d0, d1, d2, d3⟩, -⟩ := four h4
  have KP := ((((Kept.refl (· = w.heap.size) w2).setCell (p := ⟨w.heap.size, 0, none⟩) (.inl rfl) (.string t.op)).setCell (p := ⟨w.heap.size, 1, none⟩) (.inl rfl) (.string t.nm)).setCell (p := ⟨w.heap.size, 2, none⟩) (.inl rfl) (.int .i64 t.n)).setCell (p := ⟨w.heap.size, 3, none⟩) (.inl rfl) (.slice qa.1 t.ks.len qa.2)
  have RF := (HRK.out.keptS KP (fun k hk hg => hg.2.1 hk)).imp (H := fun b => rb < b) (fun b _ hg => hg.1)
  have KF := HK2.out.trans (KP.mono (T := fun b => rb ≤ b) (fun i hi _ => by omega))
  have GF : IsG _ rb a ts.length c p o n sv2 (Value.slice (some ⟨g, 0, none⟩) [t].length vc) := KP.heap HGR.out (by omega)
  exact bodyPost_ret (v := nodeV t.op t.nm t.n qa.1 t.ks.len qa.2) (by simp [results, Tryz.results47, go_sem, d0, d1, d2, d3]) rfl ⟨qa.1, qa.2, rfl, KF, RF, GF.cells.1.2.1⟩

/-- The reader at its start. -/
theorem rg_start {ts : List Tk} {rb : Nat} {a : Option Addr} {c p : Nat} {w : World} (h : w.heap[rb]? = some (.cells #[.slice a ts.length c, .int .i64 p, .int .i64 0, .int .i64 0, .slice none 0 0, .slice none 0 0] 80 (0, 0))) (ht : TokB rb w a ts) (hp : p ≤ ts.length) (hl : ts.length ≤ 100000) :
    RG ts rb a c p 0 0 [] [] (.slice none 0 0) (.slice none 0 0) [] w :=
  ⟨⟨h, ht, hp, hl, by omega, by omega⟩, World.ownsRow_nil _ _ _ _, World.ownsRow_nil _ _ _ _, trivial, (fun _ h => by cases h), (Array.getElem?_eq_some_iff.1 h).1, Nat.le_refl _, Nat.le_refl _⟩

set_option maxHeartbeats 8000000 in
set_option maxRecDepth 100000 in
theorem pOf_any (ts : List Tk) (hL : ∀ t ∈ ts, GoodTk t) (a : Option Addr) (c p : Nat) (hn : ts.length ≤ 100000) (hp : p ≤ ts.length) (w : World) (hr : ReadsT w a ts) :
    Calls Tryz.prog 28 #[.slice a ts.length c, .int .i64 p] w fun e w' => OfPost (ofL ts p) w e w' ∧ ∀ q er, ofL ts p = .bad q er → q ≤ ts.length := by
  have B1 := (Below.refl w.heap.size w).alloc (Nat.le_refl _) (ndG ⟨#[]⟩ ⟨#[]⟩ 0 none 0 0)
  have NB := heap_alloc_new w (ndG ⟨#[]⟩ ⟨#[]⟩ 0 none 0 0)
  have hs0 : (w.alloc (ndG ⟨#[]⟩ ⟨#[]⟩ 0 none 0 0)).heap.size = w.heap.size + 1 := World.size_alloc _ _
  generalize hW : w.alloc (ndG ⟨#[]⟩ ⟨#[]⟩ 0 none 0 0) = W at B1 NB hs0
  have B2 := (Below.refl W.heap.size W).alloc (Nat.le_refl _) (.cells #[.slice a ts.length c, .int .i64 p, .int .i64 0, .int .i64 0, .slice none 0 0, .slice none 0 0] 80)
  have NV := heap_alloc_new W (.cells #[.slice a ts.length c, .int .i64 p, .int .i64 0, .int .i64 0, .slice none 0 0, .slice none 0 0] 80)
  have hs1 : (W.alloc (.cells #[.slice a ts.length c, .int .i64 p, .int .i64 0, .int .i64 0, .slice none 0 0, .slice none 0 0] 80)).heap.size = w.heap.size + 2 := by rw [World.size_alloc]; omega
  generalize hV : W.alloc (.cells #[.slice a ts.length c, .int .i64 p, .int .i64 0, .int .i64 0, .slice none 0 0, .slice none 0 0] 80) = V at B2 NV hs1
  rw [hs0] at NV
  have R0 := rg_start NV ((tokB_of (hr.kept B1)).kept (kept_below B2 (fun _ => False)) (fun _ h => h.elim) |>.imp id (fun ⟨b, off, e, hlt, hc⟩ => ⟨b, off, e, by omega, hc⟩)) hp hn
  have BV := Lib.hid (B1.trans (B2.mono (by omega)))
  have NDV := Lib.hid ((B2.block w.heap.size (by omega)).trans NB)
  have CS := Lib.hid (sum_any' ts hL (w.heap.size + 1) a c p 0 0 [] [] (.slice none 0 0) (.slice none 0 0) [] V R0 (fun _ hx => by cases hx) rfl (Nat.zero_le _))
  have RO := run_of hL hp
  obtain ⟨rO, hrO⟩ : ∃ r, ofL ts p = r := ⟨_, rfl⟩
  rw [hrO] at RO ⊢
  have RO := Lib.hid RO
  clear hrO
  have HW := Lib.hid hW
  have HV := Lib.hid hV
  have a1 : ¬ (p : Int) < 0 := by omega
  have a2 : (p : Int) ≤ (ts.length : Int) := by omega
  have a3 : min (p : Int) (ts.length : Int) = p := by omega
  clear hW hV B1 B2 NV NB R0 hr hL
  go_enter Tryz.func28, Tryz.ntmps28
  go_upto_region 1 with fail
  rw [HW.out]
  go_upto_region 4 with fail
  rw [HV.out]
  clear a1 a2 a3 HW HV
  go_wp2_with fail
  refine CS.out.mono ?_
  rintro e w1 ⟨k1, er, p1, o1, n1, sg1, dn1, sv1, dv1, q1, rfl, R1, h⟩
  have hz1 := k1.size
  have N1 := k1.heap NDV.out (by omega)
  have B1 := BV.out.trans (Kept.below k1 (B := w.heap.size) (fun k hk => by omega) (by omega))
  obtain ⟨⟨c0, c1, c2, c3, c4, c5⟩, -⟩ := R1.g.r.cells
  obtain ⟨⟨z0, z1, z2, z3⟩, y0, y1, y2, y3⟩ := four N1
  have HN1 := Lib.hid N1
  have HB1 := Lib.hid B1
  have HR1 := Lib.hid R1
  have HO := RO.out
  cases rO with
  | bad qb eb =>
    have h0 := HO.1 qb eb rfl
    rw [h0] at h
    obtain ⟨hne, rfl, rfl⟩ : er ≠ 0 ∧ qb = p1 ∧ eb = er := by
      rcases h with ⟨_, h, _⟩ | ⟨hne, h⟩
      · cases h
      · cases h; exact ⟨hne, rfl, rfl⟩
    have b1 : ((eb : Int) != 0) = true := by simpa using hne
    clear HO h h0 hne N1 B1 R1 k1 CS RO
    go_wp2_with fail
    go_region
    go_wp2_with fail
    have h4 := four_set (W := w1) HN1.out (.string ⟨#[]⟩) (.string ⟨#[]⟩) (.int .i64 0) (.slice none 0 0)
    obtain ⟨⟨d0, d1, d2, d3⟩, -⟩ := four h4
    have KP := below_put4 (b := w.heap.size) HB1.out (Nat.le_refl _) (by omega) 1 (.string ⟨#[]⟩) (.string ⟨#[]⟩) (.int .i64 0) (.slice none 0 0)
    exact bodyPost_ret (v := .tuple #[nodeV ⟨#[]⟩ ⟨#[]⟩ 0 none 0 0, .int .i64 (qb : Nat), .int .i64 eb]) (by simp [results, Tryz.results28, go_sem, d0, d1, d2, d3]) rfl ⟨⟨KP, rfl⟩, fun q er h => by cases h; exact HR1.out.g.hp⟩
  | ok t qo =>
    obtain ⟨s, h0, hsp, hql, hj⟩ := HO.2 t qo rfl
    rw [h0] at h
    obtain ⟨rfl, rfl, S1, D1⟩ : er = 0 ∧ s = ⟨p1, o1, n1, sg1, dn1⟩ ∧ SgOk sg1 ∧ dn1.length = bins sg1 + 1 := by
      rcases h with ⟨he, h, h1, h2⟩ | ⟨hne, h⟩
      · cases h; exact ⟨he, rfl, h1, h2⟩
      · cases h
    simp only at hsp hj
    subst hsp
    have CW := Lib.hid (whole_any ts (w.heap.size + 1) a c p1 o1 n1 sg1 dn1 sv1 dv1 q1 w1.drew (HR1.out.below ⟨rfl, rfl, rfl, Nat.le_refl _, fun _ _ => rfl⟩) S1 D1 t hj)
    have HN1d := Lib.hid (show w1.drew.heap[w.heap.size]? = some (ndG ⟨#[]⟩ ⟨#[]⟩ 0 none 0 0) from HN1.out)
    have HB1d := Lib.hid (show Below w.heap.size w w1.drew from ⟨HB1.out.os, HB1.out.tape, HB1.out.output, HB1.out.size, HB1.out.block⟩)
    have hz1d : V.heap.size ≤ w1.drew.heap.size := hz1
    clear HO h h0 N1 B1 R1 k1 CS RO S1 D1 hj
    go_wp2_with fail
    go_region_law (first
      | (go_simp
         go_at_call 47
         refine CW.out.mono ?_
         rintro e w2 ⟨ad, cc, rfl, k2, rr, cc1⟩
         have N2 := k2.heap HN1d.out (by omega)
         have hz2 := k2.size
         have HB2 := Lib.hid (HB1d.out.trans (Kept.below k2 (B := w.heap.size) (fun k hk => by omega) (by omega)))
         have HRR := Lib.hid rr
         have HN2 := Lib.hid N2
         clear z0 z1 z2 z3 y0 y1 y2 y3 c0 c1 c2 c3 c4 c5 k2 rr
         obtain ⟨⟨z0, z1, z2, z3⟩, y0, y1, y2, y3⟩ := four N2
         clear N2)
      | fail)
    all_goals
      go_wp2_with fail
      have KP := ((((Kept.refl (· = w.heap.size) w2).setCell (p := ⟨w.heap.size, 0, none⟩) (.inl rfl) (.string t.op)).setCell (p := ⟨w.heap.size, 1, none⟩) (.inl rfl) (.string t.nm)).setCell (p := ⟨w.heap.size, 2, none⟩) (.inl rfl) (.int .i64 t.n)).setCell (p := ⟨w.heap.size, 3, none⟩) (.inl rfl) (.slice ad t.ks.len cc)
      obtain ⟨⟨d0, d1, d2, d3⟩, -⟩ := four (four_set (W := w2) HN2.out (.string t.op) (.string t.nm) (.int .i64 t.n) (.slice ad t.ks.len cc))
      have BF := HB2.out.trans (Kept.below KP (B := w.heap.size) (fun k hk => by omega) (by omega))
      have RF := (HRR.out.keptS KP (fun k hk hg => by omega)).imp (H := fun b => w.heap.size ≤ b) (fun b _ hg => by omega)
      exact bodyPost_ret (v := .tuple #[nodeV t.op t.nm t.n ad t.ks.len cc, .int .i64 p1, .int .i64 0]) (by simp [results, Tryz.results28, go_sem, Act.put, d0, d1, d2, d3]) (by simp [Act.put]) ⟨⟨BF, ad, cc, rfl, RF⟩, fun _ _ h => by cases h⟩

end

section
open Go.RowKit

theorem ofL_ne {L : List Tk} {p q : Nat} {e : Int} (h : ofL L p = .bad q e) : ((e : Int) != 0) = true ∧ (q : Nat) ≤ 1000000 ∨ ((e : Int) != 0) = true := by
  unfold ofL at h
  split at h
  · cases h
  · rename_i hb
    cases h
    exact .inr (by simpa using hb)

theorem lexT_len {l : List UInt8} {ts : List Tk} (h : lexT l = .ok ts) : ts.length ≤ 1024 := by
  unfold lexT at h
  split at h
  · cases h
  · have := (lex_sizes _ _ _ h).2.1
    omega

/-- What Parse answers, of the program and of the document. -/
def PxPost (q : PxEnd) (w : World) (e : Ending) (w' : World) : Prop := Below w.heap.size w w' ∧
  match q with
  | .bad p er => e = .returned (.tuple #[nodeV ⟨#[]⟩ ⟨#[]⟩ 0 none 0 0, .int .i64 (p : Nat), .int .i64 er])
  | .ok t => ∃ a c, e = .returned (.tuple #[nodeV t.op t.nm t.n a t.ks.len c, .int .i64 0, .int .i64 0]) ∧ ReadsK w.heap.size w' a t.ks

end

section
open Go.RowKit

set_option maxHeartbeats 2000000 in
theorem pByte_any (s : ByteArray) (ts : List Tk) (a : Option Addr) (c p : Nat) (hp : p ≤ ts.length) (w : World) (hr : ReadsT w a ts) :
    Calls Tryz.prog 29 #[.string s, .slice a ts.length c, .int .i64 p] w fun e w' => e = .returned (.int .i64 ((placeT s.size ts p : Nat) : Int)) ∧ w = w' := by
  by_cases hlt : p < ts.length
  · obtain ⟨b, off, ha, -, hc⟩ := hr.resolve_left (by intro e; rw [e] at hlt; simp at hlt)
    obtain ⟨-, -, -, p3⟩ := hc p hlt
    subst ha
    have e : placeT s.size ts p = ts[p].place := by unfold placeT; rw [List.getElem?_eq_getElem hlt]
    rw [e]
    have a1 : ((p : Int) == (ts.length : Int)) = false := by rw [beq_eq_false_iff_ne]; omega
    have a2 : (p : Int) < (ts.length : Int) := by omega
    have a3 : (0 : Int) ≤ (p : Int) := by omega
    have a4 : ((p : Int)).toNat = p := by omega
    clear hc
    go_enter Tryz.func29, Tryz.ntmps29
    go_wp2_with fail
    go_ret
    exact ⟨rfl, rfl⟩
  · have e : placeT s.size ts p = s.size := by unfold placeT; rw [List.getElem?_eq_none (by omega)]
    rw [e]
    have a1 : ((p : Int) == (ts.length : Int)) = true := by rw [beq_iff_eq]; omega
    clear hr
    go_enter Tryz.func29, Tryz.ntmps29
    go_wp2_with fail
    go_ret
    exact ⟨rfl, rfl⟩

set_option maxHeartbeats 4000000 in
theorem pPxA (s : ByteArray) (hm : s.size ≤ 281474976710656) (w : World) (hw : Laid w) {p : Nat} {er : Int} (hL : lexT s.data.toList = .bad p er) : Calls Tryz.prog 11 #[.string s] w (PxPost (.bad p er) w) := by
  obtain ⟨-, qe⟩ := lexT_bad_ne hL
  have B1 := (Below.refl w.heap.size w).alloc (Nat.le_refl _) (ndG ⟨#[]⟩ ⟨#[]⟩ 0 none 0 0)
  have NB := heap_alloc_new w (ndG ⟨#[]⟩ ⟨#[]⟩ 0 none 0 0)
  have hs0 : (w.alloc (ndG ⟨#[]⟩ ⟨#[]⟩ 0 none 0 0)).heap.size = w.heap.size + 1 := World.size_alloc _ _
  generalize hW : w.alloc (ndG ⟨#[]⟩ ⟨#[]⟩ 0 none 0 0) = W at *
  have C := Lib.hid (lTokens_any s hm W (hw.step B1))
  rw [hL] at C
  go_enter Tryz.func11, Tryz.ntmps11
  go_wp2_with fail
  refine C.out.mono ?_
  rintro e w1 ⟨hb, rfl⟩
  have N1 := (hb.block w.heap.size (by omega)).trans NB
  have hz := hb.size
  have B2 := Lib.hid (B1.trans (hb.mono (by omega)))
  obtain ⟨⟨n0, n1, n2, n3⟩, g0, g1, g2, g3⟩ := four N1
  have N2 := Lib.hid N1
  clear hb N1 C hW
  go_wp2_with fail
  have KP := kept_put4 w1 w.heap.size ⟨#[]⟩ ⟨#[]⟩ 0 none 0 0
  have hres := four_set N2.out (.string ⟨#[]⟩) (.string ⟨#[]⟩) (.int .i64 0) (.slice none 0 0)
  obtain ⟨⟨d0, d1, d2, d3⟩, -⟩ := four hres
  exact bodyPost_ret (v := .tuple #[nodeV ⟨#[]⟩ ⟨#[]⟩ 0 none 0 0, .int .i64 (p : Nat), .int .i64 er]) (by simp [results, Tryz.results11, go_sem, d0, d1, d2, d3]) rfl ⟨B2.out.trans (KP.below (B := w.heap.size) (fun k hk => by omega) (by omega)), rfl⟩

set_option maxHeartbeats 4000000 in
theorem pPxB (s : ByteArray) (hm : s.size ≤ 281474976710656) (w : World) (hw : Laid w) {ts : List Tk} {p : Nat} {er : Int} (hL : lexT s.data.toList = .ok ts) (hO : ofL ts 0 = .bad p er) : Calls Tryz.prog 11 #[.string s] w (PxPost (.bad (placeT s.size ts p) er) w) := by
  have qe : ((er : Int) != 0) = true := by rcases ofL_ne hO with h | h; exact h.1; exact h
  have qe2 : ((er : Int) == 0) = false := by simpa using qe
  have B1 := (Below.refl w.heap.size w).alloc (Nat.le_refl _) (ndG ⟨#[]⟩ ⟨#[]⟩ 0 none 0 0)
  have NB := heap_alloc_new w (ndG ⟨#[]⟩ ⟨#[]⟩ 0 none 0 0)
  have hs0 : (w.alloc (ndG ⟨#[]⟩ ⟨#[]⟩ 0 none 0 0)).heap.size = w.heap.size + 1 := World.size_alloc _ _
  generalize hW : w.alloc (ndG ⟨#[]⟩ ⟨#[]⟩ 0 none 0 0) = W at *
  have C := Lib.hid (lTokens_any s hm W (hw.step B1))
  rw [hL] at C
  go_enter Tryz.func11, Tryz.ntmps11
  go_wp2_with fail
  refine C.out.mono ?_
  rintro e w1 ⟨hb, a, c, rfl, ho⟩
  have N1 := (hb.block w.heap.size (by omega)).trans NB
  have hz := hb.size
  have B2 := Lib.hid (B1.trans (hb.mono (by omega)))
  have R1 := Lib.hid (readsT_own ho)
  have OL := Lib.hid (fun q hq => ho.lt q hq)
  have N2 := Lib.hid N1
  have CO := Lib.hid (pOf_any ts (lexT_good hL) a c 0 (by have := lexT_len hL; omega) (Nat.zero_le _) w1 R1.out)
  rw [hO] at CO
  have hlen := lexT_len hL
  clear hb N1 C hW ho
  go_wp2_with fail
  refine CO.out.mono ?_
  rintro e w2 ⟨⟨hb, rfl⟩, hbp⟩
  have hple : p ≤ ts.length := hbp _ _ rfl
  clear hbp
  have N3 := (hb.block w.heap.size (by omega)).trans N2.out
  have hz2 := hb.size
  have R2 := R1.out.kept hb
  have B3 := B2.out.trans (hb.mono (by omega))
  have BN := (Below.refl w2.heap.size w2).alloc (Nat.le_refl _) (ndG ⟨#[]⟩ ⟨#[]⟩ 0 none 0 0)
  have hnew := heap_alloc_new w2 (ndG ⟨#[]⟩ ⟨#[]⟩ 0 none 0 0)
  have hs2 : (w2.alloc (ndG ⟨#[]⟩ ⟨#[]⟩ 0 none 0 0)).heap.size = w2.heap.size + 1 := World.size_alloc _ _
  have N4 := (BN.block w.heap.size (by omega)).trans N3
  have R4 := R2.kept BN
  have B4 := B3.trans (BN.mono (by omega))
  have CP := Lib.hid (pByte_any s ts a c p hple (w2.alloc (ndG ⟨#[]⟩ ⟨#[]⟩ 0 none 0 0)) R4)
  obtain ⟨⟨n0, n1, n2, n3⟩, g0, g1, g2, g3⟩ := four N4
  have N5 := Lib.hid N4
  have B5 := Lib.hid B4
  clear hb N3 N4 R2 R4 B3 B4 BN hnew CO
  go_wp2_with (go_at_call 29; refine CP.out.mono ?_; rintro e w6 ⟨rfl, rfl⟩)
  have KP := kept_put4 (w2.alloc (ndG ⟨#[]⟩ ⟨#[]⟩ 0 none 0 0)) w.heap.size ⟨#[]⟩ ⟨#[]⟩ 0 none 0 0
  have hres := four_set N5.out (.string ⟨#[]⟩) (.string ⟨#[]⟩) (.int .i64 0) (.slice none 0 0)
  obtain ⟨⟨d0, d1, d2, d3⟩, -⟩ := four hres
  exact bodyPost_ret (v := .tuple #[nodeV ⟨#[]⟩ ⟨#[]⟩ 0 none 0 0, .int .i64 ((placeT s.size ts p : Nat) : Int), .int .i64 er]) (by simp [results, Tryz.results11, go_sem, d0, d1, d2, d3]) rfl ⟨B5.out.trans (KP.below (B := w.heap.size) (fun k hk => by omega) (by omega)), rfl⟩

set_option maxHeartbeats 4000000 in
theorem pPxC (s : ByteArray) (hm : s.size ≤ 281474976710656) (w : World) (hw : Laid w) {ts : List Tk} {p : Nat} {t : TN} (hL : lexT s.data.toList = .ok ts) (hO : ofL ts 0 = .ok t p) (hp : p < ts.length) : Calls Tryz.prog 11 #[.string s] w (PxPost (.bad (placeT s.size ts p) 2) w) := by
  have a3 : (p : Int) < (ts.length : Int) := by omega
  have B1 := (Below.refl w.heap.size w).alloc (Nat.le_refl _) (ndG ⟨#[]⟩ ⟨#[]⟩ 0 none 0 0)
  have NB := heap_alloc_new w (ndG ⟨#[]⟩ ⟨#[]⟩ 0 none 0 0)
  have hs0 : (w.alloc (ndG ⟨#[]⟩ ⟨#[]⟩ 0 none 0 0)).heap.size = w.heap.size + 1 := World.size_alloc _ _
  generalize hW : w.alloc (ndG ⟨#[]⟩ ⟨#[]⟩ 0 none 0 0) = W at *
  have C := Lib.hid (lTokens_any s hm W (hw.step B1))
  rw [hL] at C
  go_enter Tryz.func11, Tryz.ntmps11
  go_wp2_with fail
  refine C.out.mono ?_
  rintro e w1 ⟨hb, a, c, rfl, ho⟩
  have N1 := (hb.block w.heap.size (by omega)).trans NB
  have hz := hb.size
  have B2 := Lib.hid (B1.trans (hb.mono (by omega)))
  have R1 := Lib.hid (readsT_own ho)
  have OL := Lib.hid (fun q hq => ho.lt q hq)
  have N2 := Lib.hid N1
  have CO := Lib.hid (pOf_any ts (lexT_good hL) a c 0 (by have := lexT_len hL; omega) (Nat.zero_le _) w1 R1.out)
  rw [hO] at CO
  have hlen := lexT_len hL
  clear hb N1 C hW ho
  go_wp2_with fail
  refine CO.out.mono ?_
  rintro e w2 ⟨⟨hb, ad, cc, rfl, hr⟩, -⟩
  have N3 := (hb.block w.heap.size (by omega)).trans N2.out
  have hz2 := hb.size
  have R2 := R1.out.kept hb
  have B3 := B2.out.trans (hb.mono (by omega))
  have BN := (Below.refl w2.heap.size w2).alloc (Nat.le_refl _) (ndG t.op t.nm t.n ad t.ks.len cc)
  have hnew := heap_alloc_new w2 (ndG t.op t.nm t.n ad t.ks.len cc)
  have hs2 : (w2.alloc (ndG t.op t.nm t.n ad t.ks.len cc)).heap.size = w2.heap.size + 1 := World.size_alloc _ _
  have N4 := (BN.block w.heap.size (by omega)).trans N3
  have R4 := R2.kept BN
  have B4 := B3.trans (BN.mono (by omega))
  have CP := Lib.hid (pByte_any s ts a c p (by omega) (w2.alloc (ndG t.op t.nm t.n ad t.ks.len cc)) R4)
  obtain ⟨⟨n0, n1, n2, n3⟩, g0, g1, g2, g3⟩ := four N4
  have N5 := Lib.hid N4
  have B5 := Lib.hid B4
  clear hb hr N3 N4 R2 R4 B3 B4 BN hnew CO
  go_wp2_with (go_at_call 29; refine CP.out.mono ?_; rintro e w6 ⟨rfl, rfl⟩)
  have KP := kept_put4 (w2.alloc (ndG t.op t.nm t.n ad t.ks.len cc)) w.heap.size ⟨#[]⟩ ⟨#[]⟩ 0 none 0 0
  have hres := four_set N5.out (.string ⟨#[]⟩) (.string ⟨#[]⟩) (.int .i64 0) (.slice none 0 0)
  obtain ⟨⟨d0, d1, d2, d3⟩, -⟩ := four hres
  exact bodyPost_ret (v := .tuple #[nodeV ⟨#[]⟩ ⟨#[]⟩ 0 none 0 0, .int .i64 ((placeT s.size ts p : Nat) : Int), .int .i64 2]) (by simp [results, Tryz.results11, go_sem, d0, d1, d2, d3]) rfl ⟨B5.out.trans (KP.below (B := w.heap.size) (fun k hk => by omega) (by omega)), rfl⟩

set_option maxHeartbeats 4000000 in
theorem pPxD (s : ByteArray) (hm : s.size ≤ 281474976710656) (w : World) (hw : Laid w) {ts : List Tk} {p : Nat} {t : TN} (hL : lexT s.data.toList = .ok ts) (hO : ofL ts 0 = .ok t p) (hp : ¬ p < ts.length) : Calls Tryz.prog 11 #[.string s] w (PxPost (.ok t) w) := by
  have B1 := (Below.refl w.heap.size w).alloc (Nat.le_refl _) (ndG ⟨#[]⟩ ⟨#[]⟩ 0 none 0 0)
  have NB := heap_alloc_new w (ndG ⟨#[]⟩ ⟨#[]⟩ 0 none 0 0)
  have hs0 : (w.alloc (ndG ⟨#[]⟩ ⟨#[]⟩ 0 none 0 0)).heap.size = w.heap.size + 1 := World.size_alloc _ _
  generalize hW : w.alloc (ndG ⟨#[]⟩ ⟨#[]⟩ 0 none 0 0) = W at *
  have C := Lib.hid (lTokens_any s hm W (hw.step B1))
  rw [hL] at C
  go_enter Tryz.func11, Tryz.ntmps11
  go_wp2_with fail
  refine C.out.mono ?_
  rintro e w1 ⟨hb, a, c, rfl, ho⟩
  have N1 := (hb.block w.heap.size (by omega)).trans NB
  have hz := hb.size
  have B2 := Lib.hid (B1.trans (hb.mono (by omega)))
  have R1 := Lib.hid (readsT_own ho)
  have OL := Lib.hid (fun q hq => ho.lt q hq)
  have N2 := Lib.hid N1
  have CO := Lib.hid (pOf_any ts (lexT_good hL) a c 0 (by have := lexT_len hL; omega) (Nat.zero_le _) w1 R1.out)
  rw [hO] at CO
  have hlen := lexT_len hL
  clear hb N1 C hW ho
  go_wp2_with fail
  refine CO.out.mono ?_
  rintro e w2 ⟨⟨hb, ad, cc, rfl, hr⟩, -⟩
  have a3 : ¬ (p : Int) < (ts.length : Int) := by omega
  have N3 := (hb.block w.heap.size (by omega)).trans N2.out
  have hz2 := hb.size
  have R2 := R1.out.kept hb
  have B3 := B2.out.trans (hb.mono (by omega))
  have BN := (Below.refl w2.heap.size w2).alloc (Nat.le_refl _) (ndG t.op t.nm t.n ad t.ks.len cc)
  have hnew := heap_alloc_new w2 (ndG t.op t.nm t.n ad t.ks.len cc)
  have hs2 : (w2.alloc (ndG t.op t.nm t.n ad t.ks.len cc)).heap.size = w2.heap.size + 1 := World.size_alloc _ _
  have N4 := (BN.block w.heap.size (by omega)).trans N3
  have R4 := R2.kept BN
  have B4 := B3.trans (BN.mono (by omega))
  have RT := Lib.hid (hr.kept BN)
  generalize hV : w2.alloc (ndG t.op t.nm t.n ad t.ks.len cc) = V at *
  obtain ⟨⟨n0, n1, n2, n3⟩, g0, g1, g2, g3⟩ := four N4
  obtain ⟨⟨m0, m1, m2, m3⟩, -⟩ := four hnew
  have N5 := Lib.hid N4
  have B5 := Lib.hid B4
  clear hb N3 N4 R2 R4 B3 B4 BN hnew CO hr
  go_wp2_with fail
  clear hV
  have KP := kept_put4 V w.heap.size t.op t.nm t.n ad t.ks.len cc
  have hres := four_set N5.out (.string t.op) (.string t.nm) (.int .i64 t.n) (.slice ad t.ks.len cc)
  obtain ⟨⟨d0, d1, d2, d3⟩, -⟩ := four hres
  exact bodyPost_ret (v := .tuple #[nodeV t.op t.nm t.n ad t.ks.len cc, .int .i64 0, .int .i64 0]) (by simp [results, Tryz.results11, go_sem, d0, d1, d2, d3]) rfl
    ⟨B5.out.trans (KP.below (B := w.heap.size) (fun k hk => by omega) (by omega)), ad, cc, rfl, (RT.out.keptS KP (fun k hk => by omega)).mono (by omega)⟩

theorem pParse_any (s : ByteArray) (hm : s.size ≤ 281474976710656) (w : World) (hw : Laid w) : Calls Tryz.prog 11 #[.string s] w (PxPost (parseX s.data.toList) w) := by
  have hl : s.data.toList.length = s.size := by simp
  cases hL : lexT s.data.toList with
  | bad p er =>
    have e : parseX s.data.toList = .bad p er := by unfold parseX; rw [hL]
    rw [e]
    exact pPxA s hm w hw hL
  | ok ts =>
    cases hO : ofL ts 0 with
    | bad p er =>
      have e : parseX s.data.toList = .bad (placeT s.size ts p) er := by unfold parseX; rw [hL]; simp only; rw [hO, hl]
      rw [e]
      exact pPxB s hm w hw hL hO
    | ok t p =>
      by_cases hp : p < ts.length
      · have e : parseX s.data.toList = .bad (placeT s.size ts p) 2 := by unfold parseX; rw [hL]; simp only; rw [hO, hl]; simp only; rw [if_pos hp]
        rw [e]
        exact pPxC s hm w hw hL hO hp
      · have e : parseX s.data.toList = .ok t := by unfold parseX; rw [hL]; simp only; rw [hO]; simp only; rw [if_neg hp]
        rw [e]
        exact pPxD s hm w hw hL hO hp

end

section
/-- A strict order that is told by a Bool. -/
structure Strict {K : Type} (less : K → K → Bool) : Prop where
  irrefl : ∀ a, less a a = false
  trans : ∀ a b c, less a b = true → less b c = true → less a c = true
  total : ∀ a b, less a b = false → less b a = false → a = b

section

variable {K : Type} {less : K → K → Bool}

/-- How many keys of a row's front are below x: its place. -/
def pos (less : K → K → Bool) (ks : List K) (x : K) : Nat := (ks.takeWhile (fun k => less k x)).length

def Rising (less : K → K → Bool) (ks : List K) : Prop := ks.Pairwise (fun a b => less a b = true)

theorem Strict.asymm (o : Strict less) {a b : K} (h : less a b = true) : less b a = false := by
  cases hb : less b a with
  | false => rfl
  | true => have := o.trans a b a h hb; rw [o.irrefl] at this; cases this

theorem pos_le (ks : List K) (x : K) : pos less ks x ≤ ks.length := (List.takeWhile_sublist _).length_le

theorem pos_cons (k : K) (r : List K) (x : K) : pos less (k :: r) x = if less k x = true then pos less r x + 1 else 0 := by
  unfold pos
  rw [List.takeWhile_cons]
  split <;> simp_all

theorem pos_before : ∀ (ks : List K) (x : K) (t : Nat) (k : K), t < pos less ks x → ks[t]? = some k → less k x = true
  | [], x, t, k, h, hk => by simp at hk
  | a :: r, x, t, k, h, hk => by
    rw [pos_cons] at h
    by_cases ha : less a x = true
    · rw [if_pos ha] at h
      cases t with
      | zero => simp at hk; rw [← hk]; exact ha
      | succ t => exact pos_before r x t k (by omega) (by simpa using hk)
    · rw [if_neg ha] at h; omega

theorem pos_at : ∀ (ks : List K) (x : K) (k : K), ks[pos less ks x]? = some k → less k x = false
  | [], x, k, hk => by simp [pos] at hk
  | a :: r, x, k, hk => by
    rw [pos_cons] at hk
    by_cases ha : less a x = true
    · rw [if_pos ha] at hk
      exact pos_at r x k (by simpa using hk)
    · rw [if_neg ha] at hk
      simp at hk
      rw [← hk]; simpa using ha

theorem rising_at {ks : List K} (h : Rising less ks) {i j : Nat} {a b : K} (hij : i < j) (ha : ks[i]? = some a) (hb : ks[j]? = some b) : less a b = true := by
  obtain ⟨hi, rfl⟩ := List.getElem?_eq_some_iff.1 ha
  obtain ⟨hj, rfl⟩ := List.getElem?_eq_some_iff.1 hb
  exact List.pairwise_iff_getElem.1 h i j hi hj hij

theorem pos_after (o : Strict less) {ks : List K} (h : Rising less ks) {x : K} {t : Nat} {k : K} (ht : pos less ks x ≤ t) (hk : ks[t]? = some k) : less k x = false := by
  obtain ⟨hlt, _⟩ := List.getElem?_eq_some_iff.1 hk
  have hp : pos less ks x < ks.length := by omega
  have h0 : ks[pos less ks x]? = some (ks[pos less ks x]) := List.getElem?_eq_getElem hp
  have h1 := pos_at ks x _ h0
  generalize ks[pos less ks x] = y at h0 h1
  rcases Nat.lt_or_ge (pos less ks x) t with hlt' | hge
  · have h2 := rising_at h hlt' h0 hk
    cases hb : less k x with
    | false => rfl
    | true => have := o.trans _ _ _ h2 hb; rw [h1] at this; cases this
  · have : pos less ks x = t := by omega
    rw [this] at h0
    rw [h0] at hk
    cases hk
    exact h1

theorem pos_unique {ks : List K} {x : K} {p : Nat} (hp : p ≤ ks.length) (h1 : ∀ t k, t < p → ks[t]? = some k → less k x = true) (h2 : ∀ k, ks[p]? = some k → less k x = false) : pos less ks x = p := by
  rcases Nat.lt_trichotomy (pos less ks x) p with hlt | heq | hgt
  · have hk : ks[pos less ks x]? = some (ks[pos less ks x]'(by omega)) := List.getElem?_eq_getElem (by omega)
    have := h1 _ _ hlt hk
    rw [pos_at ks x _ hk] at this; cases this
  · exact heq
  · have hl := pos_le (less := less) ks x
    have hk : ks[p]? = some (ks[p]'(by omega)) := List.getElem?_eq_getElem (by omega)
    have := pos_before ks x p _ hgt hk
    rw [h2 _ hk] at this; cases this

theorem mem_iff_pos (o : Strict less) {ks : List K} (h : Rising less ks) {x : K} : x ∈ ks ↔ ks[pos less ks x]? = some x := by
  constructor
  · intro hm
    obtain ⟨i, hi, rfl⟩ := List.mem_iff_getElem.1 hm
    have hk : ks[i]? = some ks[i] := List.getElem?_eq_getElem hi
    have : pos less ks ks[i] = i := pos_unique (Nat.le_of_lt hi) (fun t k ht hkt => rising_at h ht hkt hk) (fun k hkk => by rw [hk] at hkk; cases hkk; exact o.irrefl _)
    rw [this]; exact hk
  · intro hk
    exact List.mem_of_getElem? hk

/-- Whether a key is there, as a Bool. -/
def has [DecidableEq K] (ks : List K) (x : K) : Bool := ks.any (fun k => decide (k = x))

theorem has_iff [DecidableEq K] (ks : List K) (x : K) : has ks x = true ↔ x ∈ ks := by simp [has]

theorem has_no [DecidableEq K] {ks : List K} {x : K} (h : x ∉ ks) : has ks x = false := by
  cases hb : has ks x with
  | false => rfl
  | true => exact absurd ((has_iff ks x).1 hb) h

/-- Whether the key is there, as the search tells it. -/
theorem found_iff [DecidableEq K] (o : Strict less) {ks : List K} (h : Rising less ks) {x y : K} {p : Nat} (hp : pos less ks x = p) (hy : ks[p]? = some y) : has ks x = decide (y = x) := by
  subst hp
  by_cases hxy : y = x
  · subst hxy
    rw [(has_iff _ _).2 ((mem_iff_pos o h).2 hy)]; simp
  · have : x ∉ ks := fun hm => hxy (by have := (mem_iff_pos o h).1 hm; rw [hy] at this; exact Option.some.inj this)
    rw [has_no this]; simp [hxy]

theorem found_none [DecidableEq K] (o : Strict less) {ks : List K} (h : Rising less ks) {x : K} {p : Nat} (hp : pos less ks x = p) (hl : ks.length ≤ p) : has ks x = false := by
  subst hp
  have : x ∉ ks := fun hm => by
    have := (mem_iff_pos o h).1 hm
    rw [List.getElem?_eq_none hl] at this; cases this
  exact has_no this

theorem rising_insert (o : Strict less) {ks : List K} (h : Rising less ks) {x : K} (hx : x ∉ ks) : Rising less (ks.take (pos less ks x) ++ x :: ks.drop (pos less ks x)) := by
  unfold Rising at *
  rw [List.pairwise_append, List.pairwise_cons]
  refine ⟨h.take, ⟨fun a ha => ?_, h.drop⟩, fun a ha b hb => ?_⟩
  · obtain ⟨i, hi⟩ := List.mem_iff_getElem?.1 ha
    rw [List.getElem?_drop] at hi
    have := pos_after o h (x := x) (by omega) hi
    cases hb : less x a with
    | true => rfl
    | false => have e := o.total _ _ this hb; rw [e] at hi; exact absurd (List.mem_of_getElem? hi) hx
  · obtain ⟨i, hi⟩ := List.mem_iff_getElem?.1 ha
    rw [List.getElem?_take] at hi
    split at hi
    · rename_i hip
      have h1 := pos_before ks x i a hip hi
      rcases List.mem_cons.1 hb with rfl | hb
      · exact h1
      · obtain ⟨j, hj⟩ := List.mem_iff_getElem?.1 hb
        rw [List.getElem?_drop] at hj
        exact rising_at h (by omega) hi hj
    · cases hi

variable [DecidableEq K]

/-- What Put makes of the keys, and of the values. -/
def putK (less : K → K → Bool) (ks : List K) (x : K) : List K := if has ks x = true then ks else ks.take (pos less ks x) ++ x :: ks.drop (pos less ks x)

theorem rising_putK (o : Strict less) {ks : List K} (hr : Rising less ks) (x : K) : Rising less (putK less ks x) := by
  unfold putK
  split
  · exact hr
  · rename_i hb
    exact rising_insert o hr (fun hm => hb ((has_iff ks x).2 hm))

theorem length_putK (ks : List K) (x : K) : (putK less ks x).length = if has ks x = true then ks.length else ks.length + 1 := by
  unfold putK
  have := pos_le (less := less) ks x
  split
  · rfl
  · simp only [List.length_append, List.length_take, List.length_cons, List.length_drop]
    omega

theorem length_putK_le (ks : List K) (x : K) : (putK less ks x).length ≤ ks.length + 1 := by
  rw [length_putK]; split <;> omega

theorem mem_putK (ks : List K) (x y : K) : y ∈ putK less ks x ↔ y ∈ ks ∨ y = x := by
  unfold putK
  split
  · rename_i hb
    have hx := (has_iff ks x).1 hb
    exact ⟨Or.inl, fun h => h.elim id (fun e => e ▸ hx)⟩
  · have e : y ∈ ks ↔ y ∈ ks.take (pos less ks x) ∨ y ∈ ks.drop (pos less ks x) := by
      rw [← List.mem_append, List.take_append_drop]
    rw [List.mem_append, List.mem_cons, e]
    constructor
    · rintro (h | h | h)
      · exact Or.inl (Or.inl h)
      · exact Or.inr h
      · exact Or.inl (Or.inr h)
    · rintro ((h | h) | h)
      · exact Or.inl h
      · exact Or.inr (Or.inr h)
      · exact Or.inr (Or.inl h)

omit [DecidableEq K] in

/-- Two rising rows of the same keys are one. -/
theorem rising_ext (o : Strict less) : ∀ {a b : List K}, Rising less a → Rising less b → (∀ x, x ∈ a ↔ x ∈ b) → a = b
  | [], [], _, _, _ => rfl
  | [], y :: _, _, _, h => by have := (h y).2 (List.Mem.head _); cases this
  | x :: _, [], _, _, h => by have := (h x).1 (List.Mem.head _); cases this
  | x :: r, y :: s, ha, hb, h => by
    obtain ⟨ha1, ha2⟩ := List.pairwise_cons.1 ha
    obtain ⟨hb1, hb2⟩ := List.pairwise_cons.1 hb
    have hxy : x = y := by
      rcases List.mem_cons.1 ((h x).1 (List.Mem.head _)) with e | e
      · exact e
      · rcases List.mem_cons.1 ((h y).2 (List.Mem.head _)) with e' | e'
        · exact e'.symm
        · have h1 := hb1 x e
          have h2 := ha1 y e'
          rw [o.asymm h1] at h2; cases h2
    subst hxy
    congr 1
    refine rising_ext o ha2 hb2 (fun z => ⟨fun hz => ?_, fun hz => ?_⟩)
    · rcases List.mem_cons.1 ((h z).1 (List.Mem.tail _ hz)) with e | e
      · subst e; have := ha1 z hz; rw [o.irrefl] at this; cases this
      · exact e
    · rcases List.mem_cons.1 ((h z).2 (List.Mem.tail _ hz)) with e | e
      · subst e; have := hb1 z hz; rw [o.irrefl] at this; cases this
      · exact e

end

/-- The order of texts, byte by byte. -/
def lsS (a b : ByteArray) : Bool := Op.bytesLess a.toList b.toList

theorem bytesLess_irrefl : ∀ l : List UInt8, Op.bytesLess l l = false
  | [] => rfl
  | a :: r => by simp [Op.bytesLess, bytesLess_irrefl r]

theorem bytesLess_cons (a b : UInt8) (x y : List UInt8) : Op.bytesLess (a :: x) (b :: y) = true ↔ a.toNat < b.toNat ∨ (a.toNat = b.toNat ∧ Op.bytesLess x y = true) := by
  rw [Op.bytesLess]
  simp only [Bool.or_eq_true, Bool.and_eq_true, decide_eq_true_eq, beq_iff_eq, UInt8.lt_iff_toNat_lt, UInt8.toNat_inj]

theorem bytesLess_trans : ∀ a b c : List UInt8, Op.bytesLess a b = true → Op.bytesLess b c = true → Op.bytesLess a c = true
  | _, [], _, h, _ => by simp [Op.bytesLess] at h
  | _, _ :: _, [], _, h => by simp [Op.bytesLess] at h
  | [], _ :: _, _ :: _, _, _ => by simp [Op.bytesLess]
  | a :: x, b :: y, c :: z, h1, h2 => by
    rw [bytesLess_cons] at *
    rcases h1 with h1 | ⟨h1, h1'⟩ <;> rcases h2 with h2 | ⟨h2, h2'⟩
    · exact Or.inl (by omega)
    · exact Or.inl (by omega)
    · exact Or.inl (by omega)
    · exact Or.inr ⟨by omega, bytesLess_trans x y z h1' h2'⟩

theorem bytesLess_total : ∀ a b : List UInt8, Op.bytesLess a b = false → Op.bytesLess b a = false → a = b
  | [], [], _, _ => rfl
  | [], _ :: _, h, _ => by simp [Op.bytesLess] at h
  | _ :: _, [], _, h => by simp [Op.bytesLess] at h
  | a :: x, b :: y, h1, h2 => by
    have n1 := mt (bytesLess_cons a b x y).2 (by rw [h1]; simp)
    have n2 := mt (bytesLess_cons b a y x).2 (by rw [h2]; simp)
    simp only [not_or, not_and, Bool.not_eq_true] at n1 n2
    have e : a.toNat = b.toNat := by omega
    have := bytesLess_total x y (n1.2 e) (n2.2 e.symm)
    rw [this, UInt8.toNat_inj.1 e]

theorem bytes_eq {a b : ByteArray} (h : a.toList = b.toList) : a = b := by
  rw [Lib.toList_data, Lib.toList_data] at h
  cases a with
  | mk ad => cases b with
    | mk bd => exact congrArg ByteArray.mk (Array.toList_inj.1 h)

theorem strictS : Strict lsS where
  irrefl _ := bytesLess_irrefl _
  trans _ _ _ h1 h2 := bytesLess_trans _ _ _ h1 h2
  total _ _ h1 h2 := bytes_eq (bytesLess_total _ _ h1 h2)

end

section
open Go.RowKit

/-- Names laid into a rising row. -/
def putsN (acc l : List ByteArray) : List ByteArray := l.foldl (putK lsS) acc

def namesF : F → List ByteArray → List ByteArray
  | .nil, acc => acc
  | .cons o m _ ks r, acc => namesF r (putsN acc (if isName o = true then [m] else namesF ks []))

/-- A tree's names. -/
def namesT (t : TN) : List ByteArray := if isName t.op = true then [t.nm] else namesF t.ks []

/-- All the names, as they stand. -/
def allN : F → List ByteArray
  | .nil => []
  | .cons o m _ ks r => (if isName o = true then [m] else allN ks) ++ allN r

theorem puts_mem (l : List ByteArray) : ∀ (acc : List ByteArray) (y : ByteArray), y ∈ putsN acc l ↔ y ∈ acc ∨ y ∈ l := by
  induction l with
  | nil => intro acc y; simp [putsN]
  | cons x l ih =>
    intro acc y
    have : putsN acc (x :: l) = putsN (putK lsS acc x) l := rfl
    rw [this, ih, mem_putK, List.mem_cons]
    constructor
    · rintro ((h | h) | h)
      · exact .inl h
      · exact .inr (.inl h)
      · exact .inr (.inr h)
    · rintro (h | h | h)
      · exact .inl (.inl h)
      · exact .inl (.inr h)
      · exact .inr h

theorem puts_rising (l : List ByteArray) : ∀ {acc : List ByteArray}, Rising lsS acc → Rising lsS (putsN acc l) := by
  induction l with
  | nil => intro acc h; exact h
  | cons x l ih => intro acc h; exact ih (rising_putK strictS h x)

theorem puts_len (l : List ByteArray) : ∀ acc : List ByteArray, (putsN acc l).length ≤ acc.length + l.length := by
  induction l with
  | nil => intro acc; exact Nat.le_refl _
  | cons x l ih =>
    intro acc
    have h := ih (putK lsS acc x)
    have k := length_putK_le (less := lsS) acc x
    have : putsN acc (x :: l) = putsN (putK lsS acc x) l := rfl
    rw [this, List.length_cons]; omega

theorem names_mem : ∀ (f : F) (acc : List ByteArray) (y : ByteArray), y ∈ namesF f acc ↔ y ∈ acc ∨ y ∈ allN f
  | .nil, acc, y => by simp [namesF, allN]
  | .cons o m n ks r, acc, y => by
    rw [namesF, names_mem r, puts_mem, allN, List.mem_append]
    by_cases h : isName o = true
    · rw [if_pos h, if_pos h]; exact or_assoc
    · rw [if_neg h, if_neg h, names_mem ks]
      simp [or_assoc]

theorem names_rising : ∀ (f : F) (acc : List ByteArray), Rising lsS acc → Rising lsS (namesF f acc)
  | .nil, _, h => h
  | .cons _ _ _ _ r, _, h => names_rising r _ (puts_rising _ h)

theorem names_len : ∀ (f : F) (acc : List ByteArray), (namesF f acc).length ≤ acc.length + sizeF f
  | .nil, acc => by simp [namesF, sizeF]
  | .cons o m n ks r, acc => by
    rw [namesF, sizeF]
    have h := names_len r (putsN acc (if isName o = true then [m] else namesF ks []))
    have k := puts_len (if isName o = true then [m] else namesF ks []) acc
    have j := names_len ks []
    have : (if isName o = true then [m] else namesF ks []).length ≤ 1 + sizeF ks := by
      split
      · simp
      · simpa using Nat.le_trans j (by simp)
    omega

theorem namesT_rising (t : TN) : Rising lsS (namesT t) := by
  unfold namesT
  split
  · simp [Rising]
  · exact names_rising _ _ List.Pairwise.nil

theorem namesT_len (t : TN) : (namesT t).length ≤ sizeT t := by
  unfold namesT sizeT
  split
  · simp
  · have := names_len t.ks []; simp at this; omega

theorem namesT_mem (t : TN) (y : ByteArray) : y ∈ namesT t ↔ y ∈ allN t.f := by
  unfold namesT
  rw [TN.f, allN, allN, List.append_nil]
  by_cases h : isName t.op = true
  · rw [if_pos h, if_pos h]
  · rw [if_neg h, if_neg h, names_mem]; simp

/-- A rising row with the same names is the same row. -/
theorem namesT_of {t : TN} {l : List ByteArray} (hr : Rising lsS l) (hm : ∀ y, y ∈ l ↔ y ∈ allN t.f) : l = namesT t :=
  rising_ext strictS hr (namesT_rising t) (fun y => (hm y).trans (namesT_mem t y).symm)

/-- Each name stands in the words. -/
theorem name_within (t : TN) (h : OkT t) (hn : NumsF t.f) : ∀ y ∈ namesT t, ∃ a b, textE t = a ++ y.data.toList ++ b := by
  intro y hy
  rw [namesT_mem] at hy
  revert y
  refine tree_induct1 (P := fun t => ∀ y ∈ allN t.f, ∃ a b, textE t = a ++ y.data.toList ++ b) ?_ ?_ ?_ ?_ t h hn
  · intro o m n h1 _ _ y hy
    rw [TN.f, allN, allN, List.append_nil] at hy
    simp only at hy
    rw [if_neg (by rw [num_op h1]; decide)] at hy
    cases hy
  · intro o m n h1 h2 _ y hy
    rw [TN.f, allN, allN, List.append_nil] at hy
    simp only at hy
    rw [if_pos h2, List.mem_singleton] at hy
    subst hy
    exact ⟨[], [], by rw [(text_name h1 h2).1]; simp⟩
  · intro o m n a h1 h2 h3 ih y hy
    rw [TN.f, allN, allN, List.append_nil] at hy
    simp only at hy
    rw [if_neg (by rw [h2]; decide)] at hy
    obtain ⟨p, q, e⟩ := ih y hy
    exact ⟨45 :: p, q, by rw [(text_neg a h1 h2 h3).1, e]; simp⟩
  · intro o m n a b h1 h2 h3 h4 ia ib y hy
    rw [TN.f, allN, allN, List.append_nil] at hy
    simp only at hy
    rw [if_neg (by rw [h2]; decide)] at hy
    have : allN (.cons a.op a.nm a.n a.ks b.f) = allN a.f ++ allN b.f := by
      rw [allN, TN.f, TN.f]
      simp [allN]
    rw [this, List.mem_append] at hy
    rw [(text_two a b h1 h2 h3).1]
    rcases hy with hy | hy
    · obtain ⟨p, q, e⟩ := ia y hy
      exact ⟨40 :: p, q ++ 32 :: (o.data.toList ++ 32 :: (textE b ++ [41])), by rw [e]; simp⟩
    · obtain ⟨p, q, e⟩ := ib y hy
      exact ⟨40 :: (textE a ++ 32 :: (o.data.toList ++ 32 :: p)), q ++ [41], by rw [e]; simp⟩

end

section
open Go.RowKit

/-- The nodes of a row, each ahead of its kids; a number's and a name's kids are left out. -/
def preF : F → List TN
  | .nil => []
  | .cons o m n ks r => ⟨o, m, n, ks⟩ :: ((if arity o = 0 then [] else preF ks) ++ preF r)

/-- Two nodes that are the same but for their kids. -/
def alikeB (a b : TN) : Bool := (a.op.data.toList == b.op.data.toList) && (if isNum a.op = true then a.n == b.n else if isName a.op = true then a.nm.data.toList == b.nm.data.toList else a.ks.len == b.ks.len)

def allAlike : List TN → List TN → Bool
  | [], [] => true
  | a :: x, b :: y => alikeB a b && allAlike x y
  | _, _ => false

theorem arity_zero {o : ByteArray} : arity o = 0 ↔ (isNum o || isName o) = true := by
  unfold arity
  by_cases h : (isNum o || isName o) = true
  · simp [h]
  · rw [if_neg h]
    constructor
    · intro h2
      split at h2
      · cases h2
      · split at h2 <;> cases h2
    · intro h2; exact absurd h2 h

theorem err_len {o m : ByteArray} {n : Int} {k : Nat} (h : errN o m n k = 0) : arity o = (k : Int) := by
  unfold errN at h
  by_cases h1 : (arity o != (k : Int)) = true
  · rw [if_pos h1] at h; cases h
  · simpa using h1

theorem op_eq {o o' : ByteArray} (h : o.data.toList = o'.data.toList) : o = o' := text_eq h

theorem chk_split {o m : ByteArray} {n : Int} {ks r : F} (h : chkF (.cons o m n ks r) = 0) : errN o m n ks.len = 0 ∧ chkF ks = 0 ∧ chkF r = 0 := by
  rw [chkF] at h
  by_cases h1 : errN o m n ks.len = 0
  · rw [if_pos h1] at h
    by_cases h2 : chkF ks = 0
    · rw [if_pos h2] at h; exact ⟨h1, h2, h⟩
    · rw [if_neg h2] at h; exact absurd h h2
  · rw [if_neg h1] at h; exact absurd h h1

theorem len_zero {f : F} (h : f.len = 0) : f = .nil := by
  cases f with
  | nil => rfl
  | cons o m n k r => simp [F.len] at h

theorem pre_same : ∀ (f g : F) (X Y : List TN), chkF f = 0 → chkF g = 0 → f.len = g.len → allAlike (preF f ++ X) (preF g ++ Y) = (sameF f g && allAlike X Y)
  | .nil, .nil, X, Y, _, _, _ => by simp [preF, sameF]
  | .nil, .cons _ _ _ _ _, _, _, _, _, h => by simp [F.len] at h
  | .cons _ _ _ _ _, .nil, _, _, _, _, h => by simp [F.len] at h
  | .cons o m n ks r, .cons o' m' n' ks' r', X, Y, hf, hg, hl => by
    obtain ⟨e1, c1, r1⟩ := chk_split hf
    obtain ⟨e2, c2, r2⟩ := chk_split hg
    have hr : r.len = r'.len := by simp [F.len] at hl; exact hl
    have a1 := err_len e1
    have a2 := err_len e2
    rw [preF, preF, sameF]
    simp only [List.cons_append, allAlike]
    by_cases ho : o.data.toList = o'.data.toList
    · obtain rfl := op_eq ho
      have hk : ks.len = ks'.len := by rw [a1] at a2; exact_mod_cast a2
      have ihr := pre_same r r' X Y r1 r2 hr
      by_cases hz : arity o = 0
      · rw [if_pos hz, if_pos hz, List.nil_append, List.nil_append, ihr]
        obtain rfl := len_zero (f := ks) (by rw [hz] at a1; exact_mod_cast a1.symm)
        obtain rfl := len_zero (f := ks') (by rw [hz] at a2; exact_mod_cast a2.symm)
        rw [sameF]
        have hz' := arity_zero.1 hz
        unfold alikeB
        simp only
        by_cases hn : isNum o = true
        · have hnn : isName o = false := by rw [num_op hn]; rfl
          rw [if_pos hn, hn, hnn]
          simp [bne, Bool.and_assoc]
        · have hm : isName o = true := by simpa [hn] using hz'
          rw [if_neg hn, if_pos hm, hm]
          simp [hn, bne, Bool.and_assoc]
      · rw [if_neg hz, if_neg hz, List.append_assoc, List.append_assoc, pre_same ks ks' _ _ c1 c2 hk, ihr]
        have h1 : isNum o = false ∧ isName o = false := by
          have : ¬ (isNum o || isName o) = true := fun h => hz (arity_zero.2 h)
          simpa using this
        unfold alikeB
        simp only
        rw [h1.1, h1.2, hk]
        simp [Bool.and_assoc]
    · unfold alikeB
      have : (o.data.toList == o'.data.toList) = false := by simpa using ho
      simp only [this, Bool.false_and]

/-- The lists are alike just where the trees are the same. -/
theorem pre_sameT {a b : TN} (ha : OkT a) (hb : OkT b) : allAlike (preF a.f) (preF b.f) = sameT a b := by
  have h := pre_same a.f b.f [] [] ha hb rfl
  rw [List.append_nil, List.append_nil] at h
  rw [h]
  simp [allAlike, sameT]

/-- The names in a list of nodes. -/
def nmsL (l : List TN) : List ByteArray := (l.filter (fun t => isName t.op)).map (·.nm)

theorem nms_app (a b : List TN) : nmsL (a ++ b) = nmsL a ++ nmsL b := by unfold nmsL; rw [List.filter_append, List.map_append]

theorem pre_names : ∀ (f : F), chkF f = 0 → nmsL (preF f) = allN f
  | .nil, _ => rfl
  | .cons o m n ks r, h => by
    obtain ⟨e1, c1, r1⟩ := chk_split h
    have a1 := err_len e1
    rw [preF, allN]
    have e : nmsL (⟨o, m, n, ks⟩ :: ((if arity o = 0 then [] else preF ks) ++ preF r)) = nmsL [⟨o, m, n, ks⟩] ++ (nmsL (if arity o = 0 then [] else preF ks) ++ nmsL (preF r)) := by
      rw [← nms_app, ← nms_app]; rfl
    rw [e, pre_names r r1, ← List.append_assoc]
    congr 1
    by_cases hm : isName o = true
    · have hz : arity o = 0 := arity_zero.2 (by rw [hm, Bool.or_true])
      rw [if_pos hm, if_pos hz]
      unfold nmsL
      rw [List.filter_cons_of_pos (by exact hm)]
      rfl
    · rw [if_neg hm]
      have e0 : nmsL [⟨o, m, n, ks⟩] = [] := by
        unfold nmsL
        rw [List.filter_cons_of_neg (by exact hm)]
        rfl
      rw [e0, List.nil_append]
      by_cases hz : arity o = 0
      · rw [if_pos hz]
        obtain rfl := len_zero (f := ks) (by rw [hz] at a1; exact_mod_cast a1.symm)
        rfl
      · rw [if_neg hz, pre_names ks c1]

theorem pre_len : ∀ (f : F), (preF f).length ≤ sizeF f
  | .nil => Nat.le_refl _
  | .cons o m n ks r => by
    have h1 := pre_len ks
    have h2 := pre_len r
    rw [preF, sizeF, List.length_cons, List.length_append]
    split
    · simp; omega
    · omega

theorem len_size : ∀ (f : F), f.len ≤ sizeF f
  | .nil => Nat.le_refl _
  | .cons o m n ks r => by
    have h2 := len_size r
    rw [F.len, sizeF]; omega

end

section
open Go.RowKit

theorem drew_below (w : World) : Below w.heap.size w w.drew := ⟨rfl, rfl, rfl, Nat.le_refl _, fun _ _ => rfl⟩

theorem EachF.at {P : TN → Prop} : ∀ {f : F} {j : Nat} {t : TN}, EachF P f → f.at j = some t → P t
  | .nil, _, _, _, h => by cases h
  | .cons o m n ks r, 0, t, hp, h => by
    have : (⟨o, m, n, ks⟩ : TN) = t := Option.some.inj h
    rw [← this]; exact hp.1
  | .cons _ _ _ _ r, j + 1, t, hp, h => EachF.at (f := r) hp.2 h

theorem each_of {P : TN → Prop} (step : ∀ t : TN, EachF P t.ks → P t) : ∀ f : F, EachF P f
  | .nil => trivial
  | .cons o m n ks r => ⟨step ⟨o, m, n, ks⟩ (each_of step ks), each_of step r⟩

theorem tree_of {P : TN → Prop} (step : ∀ t : TN, EachF P t.ks → P t) (t : TN) : P t := step t (each_of step t.ks)

/-- The cells of the tree at a place of a row. -/
theorem readsN_at {G : Nat → Prop} {w : World} {a : Option Addr} {ks : F} {j : Nat} {t : TN} (h : ReadsN G w a ks) (hj : ks.at j = some t) :
    ∃ b off a2 c2, a = some ⟨b, off, none⟩ ∧ G b ∧ b < w.heap.size ∧ (w.cell? ⟨b, off + j * 4, none⟩ = some (.string t.op) ∧ w.cell? ⟨b, off + j * 4 + 1, none⟩ = some (.string t.nm) ∧ w.cell? ⟨b, off + j * 4 + 2, none⟩ = some (.int .i64 t.n) ∧ w.cell? ⟨b, off + j * 4 + 3, none⟩ = some (.slice a2 t.ks.len c2)) ∧ ReadsN G w a2 t.ks := by
  rcases h with rfl | ⟨b, off, ha, h⟩
  · cases hj
  · have hlt : j < ks.len := by
      rcases Nat.lt_or_ge j ks.len with h' | h'
      · exact h'
      · exfalso
        have : ∀ (f : F) (j : Nat), f.len ≤ j → f.at j = none := by
          intro f
          induction f with
          | nil => intro j _; rfl
          | cons o m n k r _ ih => intro j hj; cases j with
            | zero => simp [F.len] at hj
            | succ j => exact ih j (by simp [F.len] at hj; omega)
        rw [this ks j h'] at hj; cases hj
    obtain ⟨t', h1, h2⟩ := F.drop_at ks j hlt
    rw [hj] at h1
    obtain rfl := Option.some.inj h1
    have hd := h.drop j
    rw [h2] at hd
    obtain ⟨g1, g2, ⟨a2, c2, hc, hk⟩, _⟩ := hd
    exact ⟨b, off, a2, c2, ha, g1, g2, hc, hk⟩

theorem at_some {ks : F} {j : Nat} (h : j < ks.len) : ∃ t, ks.at j = some t ∧ ks.drop j = .cons t.op t.nm t.n t.ks (ks.drop (j + 1)) := F.drop_at ks j h

set_option maxHeartbeats 4000000 in
theorem kids_any (o : ByteArray) (w : World) : Calls Tryz.prog 37 #[.string o] w fun e w' => e = .returned (.int .i64 (arity o)) ∧ w = w' := by
  have E : arity o = if (o.toList == [110, 117, 109] || o.toList == [110, 97, 109, 101]) = true then 0 else if (o.toList == [110, 101, 103]) = true then 1 else if (o.toList == [43] || o.toList == [45] || o.toList == [42] || o.toList == [47] || o.toList == [37]) = true then 2 else -1 := by
    unfold arity isNum isName isNeg isTwo bNum bName bNeg
    rw [Lib.toList_data]
  cases h0 : (o.toList == [110, 117, 109]) with
  | true =>
    have R := Lib.hid (show arity o = 0 by rw [E]; simp [h0])
    clear E
    go_enter Tryz.func37, Tryz.ntmps37
    go_wp2_with fail
    go_ret
    rw [R.out]
    exact ⟨rfl, rfl⟩
  | false =>
    cases h1 : (o.toList == [110, 97, 109, 101]) with
    | true =>
      have R := Lib.hid (show arity o = 0 by rw [E]; simp [h0, h1])
      clear E
      go_enter Tryz.func37, Tryz.ntmps37
      go_wp2_with fail
      go_ret
      rw [R.out]
      exact ⟨rfl, rfl⟩
    | false =>
      cases h2 : (o.toList == [110, 101, 103]) with
      | true =>
        have R := Lib.hid (show arity o = 1 by rw [E]; simp [h0, h1, h2])
        clear E
        go_enter Tryz.func37, Tryz.ntmps37
        go_wp2_with fail
        go_ret
        rw [R.out]
        exact ⟨rfl, rfl⟩
      | false =>
        cases h3 : (o.toList == [43]) with
        | true =>
          have R := Lib.hid (show arity o = 2 by rw [E]; simp [h0, h1, h2, h3])
          clear E
          go_enter Tryz.func37, Tryz.ntmps37
          go_wp2_with fail
          go_ret
          rw [R.out]
          exact ⟨rfl, rfl⟩
        | false =>
          cases h4 : (o.toList == [45]) with
          | true =>
            have R := Lib.hid (show arity o = 2 by rw [E]; simp [h0, h1, h2, h3, h4])
            clear E
            go_enter Tryz.func37, Tryz.ntmps37
            go_wp2_with fail
            go_ret
            rw [R.out]
            exact ⟨rfl, rfl⟩
          | false =>
            cases h5 : (o.toList == [42]) with
            | true =>
              have R := Lib.hid (show arity o = 2 by rw [E]; simp [h0, h1, h2, h3, h4, h5])
              clear E
              go_enter Tryz.func37, Tryz.ntmps37
              go_wp2_with fail
              go_ret
              rw [R.out]
              exact ⟨rfl, rfl⟩
            | false =>
              cases h6 : (o.toList == [47]) with
              | true =>
                have R := Lib.hid (show arity o = 2 by rw [E]; simp [h0, h1, h2, h3, h4, h5, h6])
                clear E
                go_enter Tryz.func37, Tryz.ntmps37
                go_wp2_with fail
                go_ret
                rw [R.out]
                exact ⟨rfl, rfl⟩
              | false =>
                cases h7 : (o.toList == [37]) with
                | true =>
                  have R := Lib.hid (show arity o = 2 by rw [E]; simp [h0, h1, h2, h3, h4, h5, h6, h7])
                  clear E
                  go_enter Tryz.func37, Tryz.ntmps37
                  go_wp2_with fail
                  go_ret
                  rw [R.out]
                  exact ⟨rfl, rfl⟩
                | false =>
                  have R := Lib.hid (show arity o = -1 by rw [E]; simp [h0, h1, h2, h3, h4, h5, h6, h7])
                  clear E
                  go_enter Tryz.func37, Tryz.ntmps37
                  go_wp2_with fail
                  go_ret
                  rw [R.out]
                  exact ⟨rfl, rfl⟩

/-- Rows of a length that may be. -/
def LenF : F → Prop
  | .nil => True
  | .cons _ _ _ ks r => ks.len ≤ 9223372036854775807 ∧ LenF ks ∧ LenF r

theorem LenF.at : ∀ {f : F} {j : Nat} {t : TN}, LenF f → f.at j = some t → LenF t.f
  | .nil, _, _, _, h => by cases h
  | .cons o m n ks r, 0, t, hp, h => by
    have : (⟨o, m, n, ks⟩ : TN) = t := Option.some.inj h
    rw [← this]; exact ⟨hp.1, hp.2.1, trivial⟩
  | .cons _ _ _ _ r, j + 1, t, hp, h => LenF.at (f := r) hp.2.2 h

theorem cnt_ge : ∀ (f : F) (l : Int), -1 ≤ l → -1 ≤ cntF f l
  | .nil, l, h => h
  | .cons _ _ _ ks r, l, h => by
    rw [cntF]
    split
    · exact h
    · exact cnt_ge r _ (cnt_ge ks _ (by omega))

/-- Count's contract at a tree. -/
def CntOK (t : TN) : Prop := ∀ (G : Nat → Prop) (w : World) (a : Option Addr) (c : Nat) (l : Int), 0 ≤ l → l ≤ 1000 → LenF t.f → ReadsN G w a t.ks → Calls Tryz.prog 21 #[nodeV t.op t.nm t.n a t.ks.len c, .int .i64 l] w fun e w' => e = .returned (.int .i64 (cntF t.ks (l - 1))) ∧ Below w.heap.size w w'

set_option maxHeartbeats 4000000 in
theorem cnt_step (t : TN) (ih : EachF CntOK t.ks) : CntOK t := by
  intro G w a c l hl0 hl1 hL hr
  have R := Lib.hid hr
  have IH := Lib.hid ih
  obtain ⟨hm, hL2, -⟩ := hL
  have LK := Lib.hid hL2
  obtain ⟨r, hR⟩ : ∃ r, cntF t.ks (l - 1) = r := ⟨_, rfl⟩
  rw [hR]
  have H0 := Lib.hid (show cntF (t.ks.drop 0) (l - 1) = r by rw [F.drop_zero]; exact hR)
  have NB := Lib.hid (heap_alloc_new w (ndO t.op t.nm t.n a t.ks.len c))
  have B0 := Lib.hid ((Below.refl w.heap.size w).alloc (Nat.le_refl _) (ndO t.op t.nm t.n a t.ks.len c))
  clear hr ih hR hL2
  go_enter Tryz.func21, Tryz.ntmps21
  go_wp2_with fail
  generalize w.alloc (ndO t.op t.nm t.n a t.ks.len c) = W at NB B0 ⊢
  go_loopw [1, 5] (fun v i wr => ∃ (k : Nat) (x : Int), i = .int .i64 k ∧ v = .int .i64 x ∧ k ≤ t.ks.len ∧ -1 ≤ x ∧ x ≤ 1000 ∧ Hid (cntF (t.ks.drop k) x = r) ∧ Hid (Below w.heap.size w wr) ∧ Hid (wr.heap[w.heap.size]? = some (ndO t.op t.nm t.n a t.ks.len c))) (fun _ i _ => t.ks.len - (intOf i).toNat)
  case atStart => exact ⟨0, l - 1, rfl, rfl, Nat.zero_le _, by omega, by omega, H0, B0, NB⟩
  case round =>
    obtain ⟨k, x, rfl, rfl, hk, hx0, hx1, hE, hB, hN⟩ := hrel
    obtain ⟨⟨m0, m1, m2, m3⟩, -⟩ := four hN.out
    by_cases hlt : k < t.ks.len
    · obtain ⟨t2, hat, hdr⟩ := at_some hlt
      by_cases hx : x < 0
      · have RR := Lib.hid (show x = r by rw [← hE.out, hdr, cntF, if_pos hx])
        have g0 : ¬ (0 : Int) ≤ x := by omega
        clear hat hdr hx
        go_wp2_with fail
        go_ret
        rw [RR.out]
        exact ⟨rfl, hB.out⟩
      · have g0 : (0 : Int) ≤ x := by omega
        obtain ⟨b, off, a2, c2, ha, hG, hbl, ⟨p0, p1, p2, p3⟩, hr2⟩ := readsN_at (R.out.kept hB.out) hat
        have EN := Lib.hid (show cntF (t.ks.drop (k + 1)) (cntF t2.ks (x - 1)) = r by rw [← hE.out, hdr, cntF, if_neg hx])
        have C := Lib.hid ((EachF.at IH.out hat) G wr a2 c2 x g0 hx1 (LK.out.at hat) hr2)
        have h1 := cnt_ge t2.ks (x - 1) (by omega)
        have h2 := cnt_le t2.ks (x - 1)
        subst ha
        obtain ⟨y, hy⟩ : ∃ y, cntF t2.ks (x - 1) = y := ⟨_, rfl⟩
        rw [hy] at C EN h1 h2
        clear hat hdr hx hr2 hy
        go_wp2_with fail
        refine C.out.mono ?_
        rintro e w1 ⟨rfl, hb⟩
        have hz := hB.out.size
        have B1 := Lib.hid (hB.out.trans (hb.mono hz))
        have N1 := Lib.hid ((hb.block _ (lt_block hN.out)).trans hN.out)
        clear hb C m0 m1 m2 m3
        go_wp2_with fail
        go_roundw
        case rel => exact ⟨k + 1, y, by go_num, rfl, by omega, h1, by omega, EN, B1, N1⟩
        case measure => simp [intOf]; omega
    · have RR := Lib.hid (show x = r by rw [← hE.out, F.drop_len _ _ (by omega)]; rfl)
      go_wp2_with fail
      go_ret
      rw [RR.out]
      exact ⟨rfl, hB.out⟩

theorem cnt_any (t : TN) : CntOK t := tree_of cnt_step t

end

end Go.Proofs.YtcmcnmmhkpolcaaGreatDoor
