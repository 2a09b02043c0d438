/-
  No statement: the contract of leaf of the program's reader.
-/
import Derived.Test.YteegdemnajhehaaGreatDoorAGRow
namespace Go.Proofs.YteegdemnajhehaaGreatDoor
open Go.RowKit

theorem own_some {w : World} {B m size : Nat} {e : TypeId} {v : Value} {xs : List Value} (h : w.ownsRow B e size v m xs) (hm : m ≠ 0) : ∃ g c, v = .slice (some ⟨g, 0, none⟩) m c := by
  rcases h.2 with ⟨rfl, h0⟩ | ⟨g, cap, _, rfl, _⟩
  · exact absurd h0 hm
  · exact ⟨_, _, rfl⟩

/-- Four cells of the last element of an owned slice set. -/
theorem owns_set4 {w : World} {B : Nat} {e : TypeId} {g n cap : Nat} {xs : List Value} {z0 z1 z2 z3 : Value} (h : w.ownsRow B e 4 (.slice (some ⟨g, 0, none⟩) (n + 1) cap) (n + 1) (xs ++ [z0, z1, z2, z3])) (hl : xs.length = n * 4) (v0 v1 v2 v3 : Value) :
    ((((w.setCell ⟨g, n * 4, none⟩ v0).setCell ⟨g, n * 4 + 1, none⟩ v1).setCell ⟨g, n * 4 + 2, none⟩ v2).setCell ⟨g, n * 4 + 3, none⟩ v3).ownsRow B e 4 (.slice (some ⟨g, 0, none⟩) (n + 1) cap) (n + 1) (xs ++ [v0, v1, v2, v3]) := by
  refine ⟨by rw [List.length_append, hl]; simp; omega, ?_⟩
  rcases h.2 with ⟨h1, _⟩ | ⟨g', cap', cur, h1, hb, hg, hnc, hcm, hcs, ht⟩
  · cases h1
  · simp only [Value.slice.injEq, Option.some.injEq, Addr.mk.injEq, and_true, true_and] at h1
    obtain ⟨rfl, rfl⟩ := h1
    obtain ⟨cur', hc, hcl⟩ := heap_setCells g e [v0, v1, v2, v3] (n * 4) w cur hg (by simp; omega)
    have hw : w.setCells g (n * 4) [v0, v1, v2, v3] = (((w.setCell ⟨g, n * 4, none⟩ v0).setCell ⟨g, n * 4 + 1, none⟩ v1).setCell ⟨g, n * 4 + 2, none⟩ v2).setCell ⟨g, n * 4 + 3, none⟩ v3 := rfl
    rw [hw] at hc
    have hcs' : cur'.size = cur.size := by
      have e1 : cur'.toList.length = cur'.size := Array.length_toList
      have e2 : cur.toList.length = cur.size := Array.length_toList
      rw [hcl] at e1
      simp only [List.length_append, List.length_take, List.length_drop, List.length_cons, List.length_nil] at e1
      omega
    refine .inr ⟨g, cap, cur', rfl, hb, hc, hnc, hcm, by rw [hcs', hcs], ?_⟩
    have e1 : cur.toList.take (n * 4) = xs := by
      have h2 : cur.toList.take (n * 4) = (cur.toList.take ((n + 1) * 4)).take (n * 4) := by rw [List.take_take, Nat.min_eq_left (by omega)]
      rw [h2, ht, List.take_append_of_le_length (by omega), List.take_of_length_le (by omega)]
    rw [hcl, e1, List.take_append_of_le_length (by simp [hl]; omega), List.take_of_length_le (by simp [hl]; omega)]

theorem owns_cells4 {w : World} {B : Nat} {e : TypeId} {g n cap : Nat} {xs : List Value} {z0 z1 z2 z3 : Value} (h : w.ownsRow B e 4 (.slice (some ⟨g, 0, none⟩) (n + 1) cap) (n + 1) (xs ++ [z0, z1, z2, z3])) (hl : xs.length = n * 4) :
    (w.cell? ⟨g, n * 4, none⟩ = some z0 ∧ w.cell? ⟨g, n * 4 + 1, none⟩ = some z1 ∧ w.cell? ⟨g, n * 4 + 2, none⟩ = some z2 ∧ w.cell? ⟨g, n * 4 + 3, none⟩ = some z3) ∧
    (w.frozen? ⟨g, n * 4, none⟩ = false ∧ w.frozen? ⟨g, n * 4 + 1, none⟩ = false ∧ w.frozen? ⟨g, n * 4 + 2, none⟩ = false ∧ w.frozen? ⟨g, n * 4 + 3, none⟩ = false) := by
  have at_ : ∀ i, (xs ++ [z0, z1, z2, z3])[n * 4 + i]? = [z0, z1, z2, z3][i]? := fun i => by rw [← hl, List.getElem?_append_right (Nat.le_add_right _ _), Nat.add_sub_cancel_left]
  have c : ∀ i u, [z0, z1, z2, z3][i]? = some u → w.cell? ⟨g, n * 4 + i, none⟩ = some u := fun i u hu => by
    obtain ⟨g', h1, h2⟩ := owns_at h ((at_ i).trans hu)
    simp only [Addr.mk.injEq, and_true] at h1
    subst h1
    exact h2
  refine ⟨⟨c 0 _ rfl, c 1 _ rfl, c 2 _ rfl, c 3 _ rfl⟩, ?_⟩
  rcases h.2 with ⟨h1, _⟩ | ⟨g', cap', cur, h1, hb, hg, hnc, hcm, hcs, ht⟩
  · cases h1
  · simp only [Value.slice.injEq, Option.some.injEq, Addr.mk.injEq, and_true, true_and] at h1
    obtain ⟨rfl, rfl⟩ := h1
    refine ⟨?_, ?_, ?_, ?_⟩ <;> simp [World.frozen?, hg]

theorem setCell_comm (w : World) (a b : Addr) (h : a.block ≠ b.block) (u v : Value) : (w.setCell a u).setCell b v = (w.setCell b v).setCell a u := by
  unfold World.setCell
  simp only [World.mk.injEq, and_true]
  apply Array.ext_getElem?
  intro i
  simp only [Array.getElem?_modify]
  by_cases h1 : a.block = i
  · have h2 : ¬ b.block = i := fun e => h (h1.trans e.symm)
    simp [h1, h2]
  · simp [h1]

theorem set4_comm (w : World) (rb g o x : Nat) (h : rb ≠ g) (u v0 v1 v2 v3 : Value) : (((((w.setCell ⟨rb, x, none⟩ u).setCell ⟨g, o, none⟩ v0).setCell ⟨g, o + 1, none⟩ v1).setCell ⟨g, o + 2, none⟩ v2).setCell ⟨g, o + 3, none⟩ v3) =
    (((((w.setCell ⟨g, o, none⟩ v0).setCell ⟨g, o + 1, none⟩ v1).setCell ⟨g, o + 2, none⟩ v2).setCell ⟨g, o + 3, none⟩ v3).setCell ⟨rb, x, none⟩ u) := by
  rw [setCell_comm w ⟨rb, x, none⟩ ⟨g, o, none⟩ h, setCell_comm _ ⟨rb, x, none⟩ ⟨g, o + 1, none⟩ h, setCell_comm _ ⟨rb, x, none⟩ ⟨g, o + 2, none⟩ h, setCell_comm _ ⟨rb, x, none⟩ ⟨g, o + 3, none⟩ h]

theorem ndZero (w : World) (E : TypeId) : ∀ j u, (ndL zeroT (none, 0))[j]? = some u → (w.alloc (.cells #[.string ⟨#[]⟩, .string ⟨#[]⟩, .int .i64 0, .slice none 0 0] E)).cell? ((⟨w.heap.size, 0, none⟩ : Addr).add j) = some u := fun j u hj => by
  have e : ndL zeroT (none, 0) = [.string ⟨#[]⟩, .string ⟨#[]⟩, .int .i64 0, .slice none 0 0] := rfl
  rw [e] at hj
  rw [Addr.add_lit, Nat.zero_add, cell_of_row _ _ _ _ _ (0, 0) (heap_alloc_new w _)]
  simpa using hj

set_option maxHeartbeats 8000000 in
set_option maxRecDepth 100000 in
theorem leaf_any (ts : List Tk) (rb : Nat) (a : Option Addr) (c p o n : Nat) (sg : List (List UInt8 × Nat)) (dn : List TN) (sv dv : Value) (q : List (Option Addr × Nat)) (t : TN) (ht : t.ks = .nil) (w : World) (h : RG ts rb a c p o n sg dn sv dv q w) (hlt : p < ts.length) :
    Calls Tryz.prog 83 #[.pointer (some ⟨rb, 0, none⟩), .agg #[.string t.op, .string t.nm, .int .i64 t.n, .slice none 0 0]] w fun e w' => KeptR rb w w' ∧
      (n = 32 → e = .returned (.int .i64 4) ∧ RG ts rb a c p o n sg dn sv dv q w') ∧ (¬ n = 32 → e = .returned (.int .i64 0) ∧ ∃ dv' q', RG ts rb a c (p + 1) o (n + 1) sg (t :: dn) sv dv' q' w') := by
  obtain ⟨i0, hi, hz0, hz1, hz2⟩ := info_parts ndInfo
  have und : Tryz.prog.underlying 23 = some (.slice 25) := Tryz.underlying23
  have hrb := h.lt
  have BA := (Below.refl w.heap.size w).alloc (Nat.le_refl _) (.cells #[.string t.op, .string t.nm, .int .i64 t.n, .slice none 0 0] 25)
  have NB := heap_alloc_new w (.cells #[.string t.op, .string t.nm, .int .i64 t.n, .slice none 0 0] 25)
  have H1 := h.below BA
  have K1 := KeptR.below (rb := rb) BA
  generalize hW : w.alloc (.cells #[.string t.op, .string t.nm, .int .i64 t.n, .slice none 0 0] 25) = W at BA NB H1 K1
  have HH1 := Lib.hid H1
  have HNB := Lib.hid NB
  have HK1 := Lib.hid K1
  have HW := Lib.hid hW
  have HT := Lib.hid ht
  have C := Lib.hid (count_any ts rb a c p o n sv dv W H1.g hlt)
  clear h H1 NB BA K1 hW ht
  by_cases h32 : n = 32
  · have G32 := Lib.hid h32
    clear h32
    go_enter Tryz.func83, Tryz.ntmps83
    go_upto_region 1 with fail
    rw [HW.out]
    go_wp2_with fail
    refine C.out.mono ?_
    rintro e w2 ⟨hA, -⟩
    obtain ⟨rfl, rfl⟩ := hA G32.out
    go_wp2_with fail
    go_ret
    exact ⟨HK1.out, fun _ => ⟨rfl, HH1.out⟩, fun hn => absurd G32.out hn⟩
  · have G32 := Lib.hid h32
    clear h32
    go_enter Tryz.func83, Tryz.ntmps83
    go_upto_region 1 with fail
    rw [HW.out]
    go_wp2_with fail
    refine C.out.mono ?_
    rintro e w2 ⟨-, hB⟩
    obtain ⟨rfl, hPG, hk⟩ := hB G32.out
    have R2 := HH1.out.count hPG hk (Nat.le_succ n)
    have N2 := Lib.hid (hk.heap HNB.out (by omega))
    obtain ⟨⟨c0, c1, c2, c3, c4, c5⟩, f1, f2, f3, f4, f5⟩ := R2.g.r.cells
    have hb4 := (four N2.out).1
    have HR2 := Lib.hid R2
    have HK2 := Lib.hid (HK1.out.trans (KeptR.of hk))
    have hlen := HH1.out.hd
    have hlq := Lib.hid (dnK_len R2.dk)
    have hn32 := R2.g.hn
    have hsz := R2.lt
    have hw2 : w.heap.size < w2.heap.size := (Array.getElem?_eq_some_iff.1 N2.out).1
    have OD := Lib.hid (show w2.drew.ownsRow (rb + 1) 25 4 dv dn.length (dnL dn q) from R2.dw)
    obtain ⟨va, vc, hv⟩ := own_rowG R2.dw
    subst hv
    have a1 : (0 : Int) ≤ (dn.length : Int) := by omega
    have a2 : (dn.length : Int) < (dn.length : Int) + 1 := by omega
    have a3 : ((dn.length : Int)).toNat = dn.length := by omega
    clear hPG hk R2 C hB
    go_upto_region 4 with fail
    obtain ⟨b0, b1, b2, b3⟩ := hb4
    go_region_law (first
      | (refine step_append_new rfl (.tmp 14) (.tmp 17) 23 rfl (base := rb + 1) und hi hz0 hz1 hz2 rfl (by decide) (.slice va dn.length vc) dn.length 1 (dnL dn q) (ndL zeroT (none, 0)) ⟨w2.heap.size, 0, none⟩ 1 (by first | (simp [Act.eval]; done) | (simp [Act.eval, Act.put]; done) | fail) (by first | (simp [Act.eval]; done) | (simp [Act.eval, Act.put]; done) | fail) (OD.out.alloc _) rfl (ndZero w2.drew 25) (ndL_one zeroT _) (by unfold maxLen; omega) (by omega) (by simp; omega) ?_
         intro v3 w3 ho hg hq
         obtain ⟨g3, vc3, rfl⟩ := own_some ho (Nat.succ_ne_zero _)
         have Z3 := owns_cells4 ho (dnL_len hlq.out)
         have K3 := ((Kept.refl (fun b => (Value.slice va dn.length vc).ownBlock = some b) w2).drew.alloc (.cells #[.string ⟨#[]⟩, .string ⟨#[]⟩, .int .i64 0, .slice none 0 0] 25)).grown hg (fun k hk => .inl hk)
         have O4 := owns_set4 ho (dnL_len hlq.out) (.string t.op) (.string t.nm) (.int .i64 t.n) (.slice none 0 0)
         have hg3 := (hq g3 rfl).imp id new_le
         have K4 := (((K3.setCell (p := ⟨g3, dn.length * 4, none⟩) hg3 (.string t.op)).setCell (p := ⟨g3, dn.length * 4 + 1, none⟩) hg3 (.string t.nm)).setCell (p := ⟨g3, dn.length * 4 + 2, none⟩) hg3 (.int .i64 t.n)).setCell (p := ⟨g3, dn.length * 4 + 3, none⟩) hg3 (.slice none 0 0)
         have P3 := Lib.hid (HR2.out.put_dn (dn' := t :: dn) (q' := (none, 0) :: q) K4 (by rw [dnL, ndL, HT.out]; exact O4) (fun b hb => (hq b hb).imp id new_le) ⟨.inl HT.out, HR2.out.dk⟩ (by rw [List.length_cons]; omega))
         have KK := Lib.hid ((HK2.out.trans (K4.mono (fun k hk _ => by have := (HR2.out.dvNe hk).1; omega))).set 5 (.slice (some ⟨g3, 0, none⟩) (dn.length + 1) vc3))
         have hgb := (ho.lt g3 rfl).1
         have CM := Lib.hid (set4_comm w3 rb g3 (dn.length * 4) 5 (by omega) (.slice (some ⟨g3, 0, none⟩) (dn.length + 1) vc3) (.string t.op) (.string t.nm) (.int .i64 t.n) (.slice none 0 0))
         have G3 := (HR2.out.g.kept K3 (fun k hk => (HR2.out.dvNe hk).1)).r.cells
         clear ho hg hq K3 K4 O4 c0 c1 c2 c3 c4 c5 f1 f2 f3 f4 f5 b0 b1 b2 b3
         obtain ⟨⟨c0, c1, c2, c3, c4, c5⟩, f1, f2, f3, f4, f5⟩ := G3
         obtain ⟨⟨z0, z1, z2, z3⟩, y0, y1, y2, y3⟩ := Z3)
      | fail)
    all_goals
      first | rw [CM.out] | skip
      clear CM
      generalize (((((w3.setCell ⟨g3, dn.length * 4, none⟩ (.string t.op)).setCell ⟨g3, dn.length * 4 + 1, none⟩ (.string t.nm)).setCell ⟨g3, dn.length * 4 + 2, none⟩ (.int .i64 t.n)).setCell ⟨g3, dn.length * 4 + 3, none⟩ (.slice none 0 0)).setCell ⟨rb, 5, none⟩ (.slice (some ⟨g3, 0, none⟩) (dn.length + 1) vc3)) = V at P3 KK ⊢
      go_wp2_with fail
      go_ret
      exact ⟨KK.out, fun hn => absurd hn G32.out, fun _ => ⟨rfl, _, _, P3.out⟩⟩

end Go.Proofs.YteegdemnajhehaaGreatDoor
