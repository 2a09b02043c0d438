/-
  No statement: contracts of whole, Of of the program.
-/
import Derived.Test.YteegdemnajhehaaGreatDoorAGSum
import Derived.Test.YteegdemnajhehaaGreatDoorEOf
namespace Go.Proofs.YteegdemnajhehaaGreatDoor
open Go.RowKit

abbrev ndG (o m : ByteArray) (n : Int) (a : Option Addr) (l c : Nat) : Obj := .cells #[.string o, .string m, .int .i64 n, .slice a l c] 25

theorem RGx.mark {ts : List Tk} {rb : Nat} {a : Option Addr} {c p o n : Nat} {sg : List (List UInt8 × Nat)} {dn : List TN} {sv dv : Value} {q : List (Option Addr × Nat)} {w : World} (h : RG ts rb a c p o n sg dn sv dv q w) (ob : Obj) : RGx w.heap.size ts rb a c p o n sg dn sv dv q (w.alloc ob) := by
  have hb := (Below.refl w.heap.size w).alloc (Nat.le_refl _) ob
  have h2 := h.below hb
  exact ⟨h2.g, h2.so, h2.dw, (h.dk.imp (fun b hlt hg => (⟨hg.1, by omega, hg.2.2⟩ : Gk w.heap.size rb sv dv b))).keptS (kept_below hb (fun _ => False)) (fun _ h => h.elim), h2.ap, by rw [World.size_alloc]; omega, h2.hs, h2.hd⟩

set_option maxHeartbeats 8000000 in
set_option maxRecDepth 100000 in
theorem whole_any (ts : List Tk) (rb : Nat) (a : Option Addr) (c p o n : Nat) (sg : List (List UInt8 × Nat)) (dn : List TN) (sv dv : Value) (q : List (Option Addr × Nat)) (w : World) (H : RG ts rb a c p o n sg dn sv dv q w) (hs : SgOk sg) (hd : dn.length = bins sg + 1) (t : TN) (hj : joinS 0 sg dn = ([], [t])) :
    Calls Tryz.prog 39 #[.pointer (some ⟨rb, 0, none⟩)] w fun e w' => ∃ ad cc, e = .returned (nodeV t.op t.nm t.n ad t.ks.len cc) ∧ KeptR rb w w' ∧ ReadsN (fun b => rb < b) w' ad t.ks ∧ w'.cell? ⟨rb, 1, none⟩ = some (.int .i64 p) := by
  have hrb := H.lt
  have HX := H.mark (ndG ⟨#[]⟩ ⟨#[]⟩ 0 none 0 0)
  have KA := KeptR.below (rb := rb) ((Below.refl w.heap.size w).alloc (Nat.le_refl _) (ndG ⟨#[]⟩ ⟨#[]⟩ 0 none 0 0))
  have NB := heap_alloc_new w (ndG ⟨#[]⟩ ⟨#[]⟩ 0 none 0 0)
  have hs0 : (w.alloc (ndG ⟨#[]⟩ ⟨#[]⟩ 0 none 0 0)).heap.size = w.heap.size + 1 := World.size_alloc _ _
  generalize hW : w.alloc (ndG ⟨#[]⟩ ⟨#[]⟩ 0 none 0 0) = W at HX KA NB hs0
  have CJ := join_fr w.heap.size ts rb a c p o n 0 sg dn sv dv q W HX hs hd
  rw [hj] at CJ
  have HCJ := Lib.hid CJ
  have HSV := Lib.hid (fun (e : sv.ownBlock = some w.heap.size) => (Nat.lt_irrefl _ (H.svNe e).2))
  have HDV := Lib.hid (fun (e : dv.ownBlock = some w.heap.size) => (Nat.lt_irrefl _ (H.dvNe e).2))
  have HW := Lib.hid hW
  have HNB := Lib.hid NB
  have HKA := Lib.hid KA
  clear hW HX CJ hs hd hj H NB KA
  go_enter Tryz.func39, Tryz.ntmps39
  go_upto_region 1 with fail
  rw [HW.out]
  go_wp2_with fail
  refine HCJ.out.mono ?_
  rintro e w2 ⟨rfl, ⟨k2, sv2, dv2, q2, R2⟩, hf⟩
  have N2 := (hf w.heap.size (by omega) (by omega) HSV.out HDV.out).trans HNB.out
  obtain ⟨g, vc, hv, -, -, hcs⟩ := own_full R2.dw (by simp)
  subst hv
  obtain ⟨qa, rfl⟩ : ∃ x, q2 = [x] := by
    have := dnK_len R2.dk
    match q2, this with
    | [x], _ => exact ⟨x, rfl⟩
  have hx0 := hcs 0 _ rfl
  have hx1 := hcs 1 _ rfl
  have hx2 := hcs 2 _ rfl
  have hx3 := hcs 3 _ rfl
  have RK := R2.dk.1
  obtain ⟨⟨c0, c1, c2, c3, c4, c5⟩, -⟩ := R2.g.r.cells
  obtain ⟨⟨z0, z1, z2, z3⟩, y0, y1, y2, y3⟩ := four N2
  have HN2 := Lib.hid N2
  have HK2 := Lib.hid (HKA.out.trans k2)
  have HRK := Lib.hid RK
  have hgr := (R2.g.r)
  have HGR := Lib.hid hgr
  have hl1 : ([t] : List TN).length = 1 := rfl
  rw [hl1] at c5
  clear hcs R2 k2 hf N2 RK hgr HCJ hl1
  go_wp2_with fail
  have h4 := four_set HN2.out (.string t.op) (.string t.nm) (.int .i64 t.n) (.slice qa.1 t.ks.len qa.2)
  obtain ⟨⟨d0, d1, d2, d3⟩, -⟩ := four h4
  have KP := ((((Kept.refl (· = w.heap.size) w2).setCell (p := ⟨w.heap.size, 0, none⟩) (.inl rfl) (.string t.op)).setCell (p := ⟨w.heap.size, 1, none⟩) (.inl rfl) (.string t.nm)).setCell (p := ⟨w.heap.size, 2, none⟩) (.inl rfl) (.int .i64 t.n)).setCell (p := ⟨w.heap.size, 3, none⟩) (.inl rfl) (.slice qa.1 t.ks.len qa.2)
  have RF := (HRK.out.keptS KP (fun k hk hg => hg.2.1 hk)).imp (H := fun b => rb < b) (fun b _ hg => hg.1)
  have KF := HK2.out.trans (KP.mono (T := fun b => rb ≤ b) (fun i hi _ => by omega))
  have GF : IsG _ rb a ts.length c p o n sv2 (Value.slice (some ⟨g, 0, none⟩) [t].length vc) := KP.heap HGR.out (by omega)
  exact bodyPost_ret (v := nodeV t.op t.nm t.n qa.1 t.ks.len qa.2) (by simp [results, Tryz.results39, go_sem, d0, d1, d2, d3]) rfl ⟨qa.1, qa.2, rfl, KF, RF, GF.cells.1.2.1⟩

/-- The reader at its start. -/
theorem rg_start {ts : List Tk} {rb : Nat} {a : Option Addr} {c p : Nat} {w : World} (h : w.heap[rb]? = some (.cells #[.slice a ts.length c, .int .i64 p, .int .i64 0, .int .i64 0, .slice none 0 0, .slice none 0 0] 71 (0, 0))) (ht : TokB rb w a ts) (hp : p ≤ ts.length) (hl : ts.length ≤ 100000) :
    RG ts rb a c p 0 0 [] [] (.slice none 0 0) (.slice none 0 0) [] w :=
  ⟨⟨h, ht, hp, hl, by omega, by omega⟩, World.ownsRow_nil _ _ _ _, World.ownsRow_nil _ _ _ _, trivial, (fun _ h => by cases h), (Array.getElem?_eq_some_iff.1 h).1, Nat.le_refl _, Nat.le_refl _⟩

set_option maxHeartbeats 8000000 in
set_option maxRecDepth 100000 in
theorem pOf_any (ts : List Tk) (hL : ∀ t ∈ ts, GoodTk t) (a : Option Addr) (c p : Nat) (hn : ts.length ≤ 100000) (hp : p ≤ ts.length) (w : World) (hr : ReadsT w a ts) :
    Calls Tryz.prog 16 #[.slice a ts.length c, .int .i64 p] w fun e w' => OfPost (ofL ts p) w e w' ∧ ∀ q er, ofL ts p = .bad q er → q ≤ ts.length := by
  have B1 := (Below.refl w.heap.size w).alloc (Nat.le_refl _) (ndG ⟨#[]⟩ ⟨#[]⟩ 0 none 0 0)
  have NB := heap_alloc_new w (ndG ⟨#[]⟩ ⟨#[]⟩ 0 none 0 0)
  have hs0 : (w.alloc (ndG ⟨#[]⟩ ⟨#[]⟩ 0 none 0 0)).heap.size = w.heap.size + 1 := World.size_alloc _ _
  generalize hW : w.alloc (ndG ⟨#[]⟩ ⟨#[]⟩ 0 none 0 0) = W at B1 NB hs0
  have B2 := (Below.refl W.heap.size W).alloc (Nat.le_refl _) (.cells #[.slice a ts.length c, .int .i64 p, .int .i64 0, .int .i64 0, .slice none 0 0, .slice none 0 0] 71)
  have NV := heap_alloc_new W (.cells #[.slice a ts.length c, .int .i64 p, .int .i64 0, .int .i64 0, .slice none 0 0, .slice none 0 0] 71)
  have hs1 : (W.alloc (.cells #[.slice a ts.length c, .int .i64 p, .int .i64 0, .int .i64 0, .slice none 0 0, .slice none 0 0] 71)).heap.size = w.heap.size + 2 := by rw [World.size_alloc]; omega
  generalize hV : W.alloc (.cells #[.slice a ts.length c, .int .i64 p, .int .i64 0, .int .i64 0, .slice none 0 0, .slice none 0 0] 71) = V at B2 NV hs1
  rw [hs0] at NV
  have R0 := rg_start NV ((tokB_of (hr.kept B1)).kept (kept_below B2 (fun _ => False)) (fun _ h => h.elim) |>.imp id (fun ⟨b, off, e, hlt, hc⟩ => ⟨b, off, e, by omega, hc⟩)) hp hn
  have BV := Lib.hid (B1.trans (B2.mono (by omega)))
  have NDV := Lib.hid ((B2.block w.heap.size (by omega)).trans NB)
  have CS := Lib.hid (sum_any' ts hL (w.heap.size + 1) a c p 0 0 [] [] (.slice none 0 0) (.slice none 0 0) [] V R0 (fun _ hx => by cases hx) rfl (Nat.zero_le _))
  have RO := run_of hL hp
  obtain ⟨rO, hrO⟩ : ∃ r, ofL ts p = r := ⟨_, rfl⟩
  rw [hrO] at RO ⊢
  have RO := Lib.hid RO
  clear hrO
  have HW := Lib.hid hW
  have HV := Lib.hid hV
  have a1 : ¬ (p : Int) < 0 := by omega
  have a2 : (p : Int) ≤ (ts.length : Int) := by omega
  have a3 : min (p : Int) (ts.length : Int) = p := by omega
  clear hW hV B1 B2 NV NB R0 hr hL
  go_enter Tryz.func16, Tryz.ntmps16
  go_upto_region 1 with fail
  rw [HW.out]
  go_upto_region 4 with fail
  rw [HV.out]
  clear a1 a2 a3 HW HV
  go_wp2_with fail
  refine CS.out.mono ?_
  rintro e w1 ⟨k1, er, p1, o1, n1, sg1, dn1, sv1, dv1, q1, rfl, R1, h⟩
  have hz1 := k1.size
  have N1 := k1.heap NDV.out (by omega)
  have B1 := BV.out.trans (Kept.below k1 (B := w.heap.size) (fun k hk => by omega) (by omega))
  obtain ⟨⟨c0, c1, c2, c3, c4, c5⟩, -⟩ := R1.g.r.cells
  obtain ⟨⟨z0, z1, z2, z3⟩, y0, y1, y2, y3⟩ := four N1
  have HN1 := Lib.hid N1
  have HB1 := Lib.hid B1
  have HR1 := Lib.hid R1
  have HO := RO.out
  cases rO with
  | bad qb eb =>
    have h0 := HO.1 qb eb rfl
    rw [h0] at h
    obtain ⟨hne, rfl, rfl⟩ : er ≠ 0 ∧ qb = p1 ∧ eb = er := by
      rcases h with ⟨_, h, _⟩ | ⟨hne, h⟩
      · cases h
      · cases h; exact ⟨hne, rfl, rfl⟩
    have b1 : ((eb : Int) != 0) = true := by simpa using hne
    clear HO h h0 hne N1 B1 R1 k1 CS RO
    go_wp2_with fail
    go_region
    go_wp2_with fail
    have h4 := four_set (W := w1) HN1.out (.string ⟨#[]⟩) (.string ⟨#[]⟩) (.int .i64 0) (.slice none 0 0)
    obtain ⟨⟨d0, d1, d2, d3⟩, -⟩ := four h4
    have KP := below_put4 (b := w.heap.size) HB1.out (Nat.le_refl _) (by omega) 1 (.string ⟨#[]⟩) (.string ⟨#[]⟩) (.int .i64 0) (.slice none 0 0)
    exact bodyPost_ret (v := .tuple #[nodeV ⟨#[]⟩ ⟨#[]⟩ 0 none 0 0, .int .i64 (qb : Nat), .int .i64 eb]) (by simp [results, Tryz.results16, go_sem, d0, d1, d2, d3]) rfl ⟨⟨KP, rfl⟩, fun q er h => by cases h; exact HR1.out.g.hp⟩
  | ok t qo =>
    obtain ⟨s, h0, hsp, hql, hj⟩ := HO.2 t qo rfl
    rw [h0] at h
    obtain ⟨rfl, rfl, S1, D1⟩ : er = 0 ∧ s = ⟨p1, o1, n1, sg1, dn1⟩ ∧ SgOk sg1 ∧ dn1.length = bins sg1 + 1 := by
      rcases h with ⟨he, h, h1, h2⟩ | ⟨hne, h⟩
      · cases h; exact ⟨he, rfl, h1, h2⟩
      · cases h
    simp only at hsp hj
    subst hsp
    have CW := Lib.hid (whole_any ts (w.heap.size + 1) a c p1 o1 n1 sg1 dn1 sv1 dv1 q1 w1.drew (HR1.out.below ⟨rfl, rfl, rfl, Nat.le_refl _, fun _ _ => rfl⟩) S1 D1 t hj)
    have HN1d := Lib.hid (show w1.drew.heap[w.heap.size]? = some (ndG ⟨#[]⟩ ⟨#[]⟩ 0 none 0 0) from HN1.out)
    have HB1d := Lib.hid (show Below w.heap.size w w1.drew from ⟨HB1.out.os, HB1.out.tape, HB1.out.output, HB1.out.size, HB1.out.block⟩)
    have hz1d : V.heap.size ≤ w1.drew.heap.size := hz1
    clear HO h h0 N1 B1 R1 k1 CS RO S1 D1 hj
    go_wp2_with fail
    go_region_law (first
      | (go_simp
         go_at_call 39
         refine CW.out.mono ?_
         rintro e w2 ⟨ad, cc, rfl, k2, rr, cc1⟩
         have N2 := k2.heap HN1d.out (by omega)
         have hz2 := k2.size
         have HB2 := Lib.hid (HB1d.out.trans (Kept.below k2 (B := w.heap.size) (fun k hk => by omega) (by omega)))
         have HRR := Lib.hid rr
         have HN2 := Lib.hid N2
         clear z0 z1 z2 z3 y0 y1 y2 y3 c0 c1 c2 c3 c4 c5 k2 rr
         obtain ⟨⟨z0, z1, z2, z3⟩, y0, y1, y2, y3⟩ := four N2
         clear N2)
      | fail)
    all_goals
      go_wp2_with fail
      have KP := ((((Kept.refl (· = w.heap.size) w2).setCell (p := ⟨w.heap.size, 0, none⟩) (.inl rfl) (.string t.op)).setCell (p := ⟨w.heap.size, 1, none⟩) (.inl rfl) (.string t.nm)).setCell (p := ⟨w.heap.size, 2, none⟩) (.inl rfl) (.int .i64 t.n)).setCell (p := ⟨w.heap.size, 3, none⟩) (.inl rfl) (.slice ad t.ks.len cc)
      obtain ⟨⟨d0, d1, d2, d3⟩, -⟩ := four (four_set (W := w2) HN2.out (.string t.op) (.string t.nm) (.int .i64 t.n) (.slice ad t.ks.len cc))
      have BF := HB2.out.trans (Kept.below KP (B := w.heap.size) (fun k hk => by omega) (by omega))
      have RF := (HRR.out.keptS KP (fun k hk hg => by omega)).imp (H := fun b => w.heap.size ≤ b) (fun b _ hg => by omega)
      exact bodyPost_ret (v := .tuple #[nodeV t.op t.nm t.n ad t.ks.len cc, .int .i64 p1, .int .i64 0]) (by simp [results, Tryz.results16, go_sem, Act.put, d0, d1, d2, d3]) (by simp [Act.put]) ⟨⟨BF, ad, cc, rfl, RF⟩, fun _ _ h => by cases h⟩

end Go.Proofs.YteegdemnajhehaaGreatDoor
