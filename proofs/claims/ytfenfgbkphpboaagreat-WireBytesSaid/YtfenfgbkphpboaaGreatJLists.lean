/-
  No statement: rows: the law's own OfRows, FewRows, same; rows that came in.
-/
import Derived.Test.YtfenfgbkphpboaaGreatJOf
import Derived.Test.YtfenfgbkphpboaaGreatJRowOf
import Derived.Test.YtfenfgbkphpboaaGreatJAppM
import Derived.Test.YtfenfgbkphpboaaGreatJBook
import Derived.Test.YtfenfgbkphpboaaGreatJTakes
import Derived.Test.YtfenfgbkphpboaaGreatJEncs
import Derived.Test.YtfenfgbkphpboaaGreatXSame
namespace Go.Proofs.YtfenfgbkphpboaaGreat
open Go.RowKit Go.ChangeShapes Go.WideShapes Go.Deep

/-- A row made anew, whatever becomes of what was made since w0. -/
def OfRP0 (w0 w : World) (x : RD) (e : Ending) (w' : World) : Prop := (∃ a c, e = .returned (.agg #[.string x.key, .int .i64 x.t, .int .i64 x.i, .int .i64 x.q, .string x.o, .slice a x.len c]) ∧ ∀ w3, Kept (fun k => w0.heap.size ≤ k ∧ k < w.heap.size) w' w3 → ReadsA w3 a x.len x.A) ∧ Below w.heap.size w w'

set_option maxRecDepth 100000 in
set_option maxHeartbeats 4000000 in
theorem ofR0_any (x : RD) (a : Option Addr) (c : Nat) (hn : x.len ≤ 1000) (w0 w : World) (h : ReadsA w0 a x.len x.A) (h0w : Below w0.heap.size w0 w) :
    Calls Tryz.prog 10 #[.agg #[.string x.key, .int .i64 x.t, .int .i64 x.i, .int .i64 x.q, .string x.o, .slice a x.len c]] w (OfRP0 w0 w x) := by
  have R := Lib.hid h
  have H0 := Lib.hid h0w
  have OS := Lib.hid (fun w => (show Calls Tryz.prog 29 #[.agg #[.int .i64 x.t, .int .i64 x.i, .int .i64 x.q, .string x.o]] w fun e w' => e = .returned (.agg #[.int .i64 x.t, .int .i64 x.i, .int .i64 x.q, .string x.o]) ∧ Below w.heap.size w w' by
    go_enter Tryz.func29, Tryz.ntmps29
    go_wp2_with fail
    exact bodyPost_ret (v := .agg #[.int .i64 x.t, .int .i64 x.i, .int .i64 x.q, .string x.o]) (by simp [results, Tryz.results29, go_sem]) rfl ⟨rfl, ((Below.refl _ _).alloc (Nat.le_refl _) _).alloc (by simp) _⟩))
  clear h h0w
  go_enter Tryz.func10, Tryz.ntmps10
  go_wp2_with fail
  generalize hW : World.alloc (World.alloc w _) _ = W
  have K0 : Hid (OfK w x a c W) := Lib.hid (by
    refine ⟨?_, ?_, ?_⟩
    · rw [← hW]; exact (Below.heap_alloc _ _ _ (by simp)).trans (heap_alloc_new w _)
    · rw [← hW]
      have := heap_alloc_new (w.alloc (.cells #[.string x.key, .int .i64 x.t, .int .i64 x.i, .int .i64 x.q, .string x.o, .slice a x.len c] 26)) (.cells #[.string ⟨#[]⟩, .int .i64 0, .int .i64 0, .int .i64 0, .string ⟨#[]⟩, .slice none 0 0] 38)
      rwa [World.size_alloc] at this
    · rw [← hW]; exact ((Below.refl _ _).alloc (Nat.le_refl _) _).alloc (by simp) _)
  clear hW
  have hdr : Below W.heap.size W W.drew := ⟨rfl, rfl, rfl, Nat.le_refl _, fun _ _ => rfl⟩
  have KD := Lib.hid (K0.out.kept hdr)
  clear hdr
  obtain ⟨x0, x1, x2, x3, x4, x5⟩ := six K0.out.box
  go_region_with (first
    | (go_at_call 29
       with_reducible refine (OS.out _).mono ?_
       rintro e w1 ⟨rfl, hb⟩
       have K1 := Lib.hid (KD.out.kept hb)
       clear x0 x1 x2 x3 x4 x5
       obtain ⟨x0, x1, x2, x3, x4, x5⟩ := six K1.out.box
       clear hb)
    | (go_at_call 30
       with_reducible refine (ofAttrs_any a x.len c x.A hn w0 _ R.out (H0.out.trans (K1.out.bel.mono H0.out.size))).mono ?_
       rintro e w2 ⟨⟨a2, c2, rfl, hr⟩, hb⟩
       have K2 := Lib.hid (K1.out.kept hb)
       have R2 := Lib.hid hr
       clear x0 x1 x2 x3 x4 x5
       obtain ⟨x0, x1, x2, x3, x4, x5⟩ := six K2.out.box
       obtain ⟨y0, y1, y2, y3, y4, y5⟩ := six K2.out.res
       obtain ⟨z0, z1, z2, z3, z4, z5⟩ := sixF K2.out.res
       clear hb hr)
    | fail)
  all_goals
    have S1 := Lib.hid (lt_of_block K1.out.res)
    have K3 := six_kept w2 (w.heap.size + 1) (.string x.key) (.int .i64 x.t) (.int .i64 x.i) (.int .i64 x.q) (.string x.o) (.slice a2 x.len c2)
    have P := Lib.hid (p := OfRP0 w0 w x (.returned (.agg #[.string x.key, .int .i64 x.t, .int .i64 x.i, .int .i64 x.q, .string x.o, .slice a2 x.len c2])) ((((((w2.setCell ⟨w.heap.size + 1, 0, none⟩ (.string x.key)).setCell ⟨w.heap.size + 1, 1, none⟩ (.int .i64 x.t)).setCell ⟨w.heap.size + 1, 2, none⟩ (.int .i64 x.i)).setCell ⟨w.heap.size + 1, 3, none⟩ (.int .i64 x.q)).setCell ⟨w.heap.size + 1, 4, none⟩ (.string x.o)).setCell ⟨w.heap.size + 1, 5, none⟩ (.slice a2 x.len c2))) ⟨⟨_, _, rfl, fun w3 k3 => R2.out w3 ((K3.mono (T := fun k => w0.heap.size ≤ k ∧ k < w1.heap.size) (fun k hk _ => by have := S1.out; have := H0.out.size; subst hk; exact ⟨by omega, by omega⟩)).trans k3 (fun k hk _ => ⟨hk.1, by have := S1.out; have := hk.2; omega⟩))⟩, six_below K2.out.bel (by omega) _ _ _ _ _ _⟩
    clear K3 S1 K0 KD K1 K2 R2 OS R
    go_wp2
    exact bodyPost_ret (v := .agg #[.string x.key, .int .i64 x.t, .int .i64 x.i, .int .i64 x.q, .string x.o, .slice a2 x.len c2]) (by simp [results, Tryz.results10, go_sem, *]) rfl P.out

end Go.Proofs.YtfenfgbkphpboaaGreat

namespace Go.Proofs.YtfenfgbkphpboaaGreat
open Go.RowKit Go.ChangeShapes Go.WideShapes Go.Deep

/-- Are rows few, and short? -/
def fewRs (n : Nat) (R : Nat → RD) : Bool := decide (n ≤ 70) && (fromR R n 0).all fewR

theorem fewRs_all {n : Nat} {R : Nat → RD} (g : ∀ j, j < n → GoR (R j)) (h : fewRs n R = true) : n ≤ 70 ∧ ∀ j, j < n → FewR (R j) := by
  unfold fewRs at h
  simp only [Bool.and_eq_true, decide_eq_true_eq, List.all_eq_true] at h
  refine ⟨h.1, fun j hj => ?_⟩
  have := h.2 (R j) (by unfold fromR; exact List.mem_map.2 ⟨j, List.mem_range.2 (by omega), by rw [Nat.zero_add]⟩)
  obtain ⟨h1, h2, h3, h4⟩ := fewR_all this
  have gx := g j hj
  exact ⟨h1, h2, gx.t, gx.i, gx.q, gx.n, h4, h3⟩

set_option maxHeartbeats 4000000 in
set_option maxRecDepth 100000 in
theorem fewRows_any (a : Option Addr) (n c : Nat) (R : Nat → RD) (g : ∀ j, j < n → GoR (R j)) (w : World) (h : ReadsR w a n R) :
    Calls Tryz.prog 13 #[.slice a n c] w fun e w' => e = .returned (.bool (fewRs n R)) ∧ Below w.heap.size w w' := by
  have hm := h.1
  unfold maxLen at hm
  have H := Lib.hid h
  have GG := Lib.hid g
  clear h g
  by_cases h70 : 70 < n
  · have E := Lib.hid (p := fewRs n R = false) (by unfold fewRs; rw [decide_eq_false (by omega)]; rfl)
    go_enter Tryz.func13, Tryz.ntmps13
    go_wp2_with fail
    go_ret
    exact ⟨ret_b E.out.symm, Below.refl _ _⟩
  have E := Lib.hid (p := fewRs n R = (fromR R n 0).all fewR) (by unfold fewRs; rw [decide_eq_true (by omega)]; rfl)
  go_enter Tryz.func13, Tryz.ntmps13
  go_wp2_with fail
  go_loopw [3] (fun i wr => ∃ k : Nat, i = .int .i64 k ∧ k ≤ n ∧ Hid ((fromR R n 0).all fewR = (fromR R n k).all fewR) ∧ Hid (Below w.heap.size w wr)) (fun i _ => n - (intOf i).toNat)
  case atStart => exact ⟨0, rfl, Nat.zero_le _, Lib.hid rfl, Lib.hid (Below.refl _ _)⟩
  case round =>
    obtain ⟨k, rfl, hk, hE, hB⟩ := hrel
    by_cases hlt : k < n
    · obtain ⟨b, off, y, ce, hab, -, h6, hy⟩ := (H.out.below hB.out).cells hlt
      subst hab
      have hE2 := hE.out
      rw [fromR_cons R hlt, List.all_cons] at hE2
      have gk := GG.out k hlt
      have C := Lib.hid (few_any (R k) y ce gk.k gk.o gk.s wr hy.plain)
      obtain ⟨x, hx⟩ : ∃ x, R k = x := ⟨_, rfl⟩
      rw [hx] at h6 hE2 C
      obtain ⟨q, hq⟩ : ∃ q, fewR x = q := ⟨_, rfl⟩
      rw [hq] at C hE2
      have HE := Lib.hid hE2
      obtain ⟨p0, p1, p2, p3, p4, p5⟩ := h6
      have hz := hB.out.size
      clear hE2 hx hq gk hy hE
      cases q with
      | true =>
        go_wp2_with fail
        refine C.out.mono ?_
        rintro e w2 ⟨rfl, hb⟩
        have B2 := Lib.hid (hB.out.trans (hb.mono hz))
        clear hb C p0 p1 p2 p3 p4 p5
        go_wp2_with fail
        go_roundw
        case rel => exact ⟨k + 1, by go_num, by omega, Lib.hid (by rw [HE.out]; rfl), B2⟩
        case measure => simp [intOf]; omega
      | false =>
        go_wp2_with fail
        refine C.out.mono ?_
        rintro e w2 ⟨rfl, hb⟩
        have B2 := Lib.hid (hB.out.trans (hb.mono hz))
        clear hb C p0 p1 p2 p3 p4 p5
        go_wp2_with fail
        go_ret
        exact ⟨ret_b (by rw [E.out, HE.out]; rfl), B2.out⟩
    · obtain rfl : k = n := by omega
      go_wp2_with fail
      go_ret
      exact ⟨ret_b (by rw [E.out, hE.out, fromR_nil R (Nat.le_refl _)]; rfl), hB.out⟩

/-- The six cells of a row, of its triple. -/
def rowT (t : RD × Option Addr × Nat) : List Value := sixC t.1 t.2.1 t.2.2
theorem rowInfo : (Tryz.prog.info? 38).map (fun i => (i.zero, i.size, i.bytes)) = some (some (.agg #[.string ⟨#[]⟩, .int .i64 0, .int .i64 0, .int .i64 0, .string ⟨#[]⟩, .slice none 0 0]), 6, 80) := by kernel_rfl
theorem sixC_one (x : RD) (y : Option Addr) (c : Nat) : ∀ u ∈ sixC x y c, u.oneCell' = true := by
  intro u hu
  simp only [sixC, List.mem_cons, List.not_mem_nil, or_false] at hu
  rcases hu with rfl | rfl | rfl | rfl | rfl | rfl <;> rfl
theorem news6_at (w : World) (x : RD) (y : Option Addr) (c : Nat) : ∀ j u, (sixC x y c)[j]? = some u → (w.alloc (.cells #[.string x.key, .int .i64 x.t, .int .i64 x.i, .int .i64 x.q, .string x.o, .slice y x.len c] 38)).cell? ((⟨w.heap.size, 0, none⟩ : Addr).add j) = some u := fun j u hj => by
  rw [Addr.add_lit, Nat.zero_add, cell_of_row _ _ _ _ _ (0, 0) (heap_alloc_new w _)]
  simpa [sixC] using hj

/-- The attributes of rows that are being gathered, in blocks that are P. -/
def LR (P : Nat → Prop) (w : World) (T : List (RD × Option Addr × Nat)) : Prop := ∀ t ∈ T, ReadsAG P w t.2.1 t.1.len t.1.A
theorem LR.kept {P S : Nat → Prop} {w w' : World} {T : List (RD × Option Addr × Nat)} (h : LR P w T) (hk : Kept S w w') (hS : ∀ b, P b → ¬ S b) : LR P w' T := fun t ht => (h t ht).kept hk hS
theorem LR.mono {P H : Nat → Prop} {w : World} {T : List (RD × Option Addr × Nat)} (h : LR P w T) (hP : ∀ b, P b → b < w.heap.size → H b) : LR H w T := fun t ht => (h t ht).mono hP

/-- What was gathered reads as rows. -/
theorem rows_own {w : World} {base : Nat} {e : TypeId} {v : Value} {n : Nat} {T : List (RD × Option Addr × Nat)} {P : Nat → Prop} (h : w.ownsRow base e 6 v n (T.flatMap rowT)) (hT : T.length = n) (hn : n ≤ 1000) (hr : LR P w T) : ∃ a c, v = .slice a n c ∧ ReadsR w a n (atR (T.map (·.1))) := by
  have h0 := h
  rcases h.2 with ⟨rfl, rfl⟩ | ⟨g, cap, cur, rfl, _, hg, hnc, hcm, _, ht⟩
  · exact ⟨none, 0, rfl, Nat.zero_le _, .inl rfl⟩
  · refine ⟨_, _, rfl, by unfold maxLen; omega, .inr ⟨g, 0, rfl, lt_of_block hg, fun j hj => ?_⟩⟩
    have hjT : j < T.length := by omega
    have e : atR (T.map (·.1)) j = T[j].1 := by
      unfold atR
      rw [List.getD_eq_getElem?_getD, List.getElem?_map, List.getElem?_eq_getElem hjT]
      rfl
    have hc : ∀ i u, i < 6 → (rowT T[j])[i]? = some u → w.cell? ⟨g, 0 + j * 6 + i, none⟩ = some u := fun i u hi hu => by
      rw [Nat.zero_add]
      obtain ⟨g', h1, h2⟩ := owns_at h0 (j := j * 6 + i) (u := u) (by rw [flat_at (m := 6) (fun t => rfl) T hjT hi]; exact hu)
      simp only [Addr.mk.injEq, and_true] at h1
      subst h1
      exact h2
    rw [e]
    exact ⟨T[j].2.1, T[j].2.2, ⟨hc 0 _ (by omega) rfl, hc 1 _ (by omega) rfl, hc 2 _ (by omega) rfl, hc 3 _ (by omega) rfl, hc 4 _ (by omega) rfl, hc 5 _ (by omega) rfl⟩, (hr _ (List.getElem_mem hjT)).mono (fun b _ hb => hb)⟩

theorem map_tkR {T : List (RD × Option Addr × Nat)} {R : Nat → RD} {n : Nat} (h : T.map (·.1) = tkR R n) : ∀ j, j < n → atR (T.map (·.1)) j = R j := fun j hj => by
  rw [h]
  unfold atR tkR
  rw [List.getD_eq_getElem?_getD]
  simp [hj]

theorem ReadsRG.cong {G : Nat → Prop} {w : World} {a : Option Addr} {n : Nat} {R S : Nat → RD} (h : ReadsRG G w a n R) (hs : ∀ j, j < n → R j = S j) : ReadsRG G w a n S := by
  refine ⟨h.1, h.2.imp id ?_⟩
  rintro ⟨b, off, rfl, hg, hc⟩
  exact ⟨b, off, rfl, hg, fun j hj => by rw [← hs j hj]; exact hc j hj⟩

set_option maxHeartbeats 8000000 in
set_option maxRecDepth 100000 in
theorem ofRows_any (a : Option Addr) (n c : Nat) (R : Nat → RD) (hL : ∀ j, j < n → (R j).len ≤ 1000) (hn : n ≤ 100) (w : World) (h : ReadsR w a n R) :
    Calls Tryz.prog 16 #[.slice a n c] w fun e w' => (∃ a c, e = .returned (.slice a n c) ∧ ReadsR w' a n R) ∧ Below w.heap.size w w' := by
  obtain ⟨i0, hi, hz0, hz1, hz2⟩ := info_parts rowInfo
  have und : Tryz.prog.underlying 47 = some (.slice 38) := Tryz.underlying47
  have H := Lib.hid h
  have HL := Lib.hid hL
  clear h hL
  go_enter Tryz.func16, Tryz.ntmps16
  go_wp2_with fail
  go_loopw [3, 4] (fun v i wr => ∃ (k : Nat) (va : Option Addr) (vc : Nat) (T : List (RD × Option Addr × Nat)), v = .slice va k vc ∧ i = .int .i64 k ∧ k ≤ n ∧ T.length = k ∧ Hid (T.map (·.1) = tkR R k) ∧ Hid (wr.ownsRow w.heap.size 38 6 (.slice va k vc) k (T.flatMap rowT)) ∧ Hid (∀ t ∈ T, ∀ w3, Kept (fun b => (Value.slice va k vc).ownBlock = some b) wr w3 → ReadsA w3 t.2.1 t.1.len t.1.A) ∧ Hid (Below w.heap.size w wr)) (fun _ i _ => n - (intOf i).toNat)
  case atStart => exact ⟨0, none, 0, [], rfl, rfl, Nat.zero_le _, rfl, Lib.hid rfl, Lib.hid (World.ownsRow_nil _ _ _ _), Lib.hid (fun t ht => by simp at ht), Lib.hid (Below.refl _ _)⟩
  case round =>
    obtain ⟨k, va, vc, T, rfl, rfl, hk, hTl, hM, hO, hL, hB⟩ := hrel
    by_cases hlt : k < n
    · obtain ⟨b, off, y, ce, hab, -, h6, hy⟩ := H.out.cells hlt
      subst hab
      have h6r := h6.keptS (keptNew hB.out) (fun h => h)
      have C := Lib.hid (ofR0_any (R k) y ce (HL.out k hlt) w wr hy.plain hB.out)
      have hnx : tkR R k ++ [R k] = tkR R (k + 1) := (tkR_succ R k).symm
      obtain ⟨x, hx⟩ : ∃ x, R k = x := ⟨_, rfl⟩
      rw [hx] at h6r C hnx
      have NX := Lib.hid hnx
      obtain ⟨p0, p1, p2, p3, p4, p5⟩ := h6r
      have hz := hB.out.size
      clear hx hnx hy h6
      go_wp2_with fail
      refine C.out.mono ?_
      rintro e w2 ⟨⟨y2, c2, rfl, hr2⟩, hb⟩
      have B2 := Lib.hid (hB.out.trans (hb.mono hz))
      have O2 := Lib.hid (owns_below hO.out hb)
      have hsz := hb.size
      have OLt := Lib.hid (fun q hq => hO.out.lt q hq)
      have A2 := Lib.hid hr2
      have KB := Lib.hid (keptNew hb)
      have OA := Lib.hid (show (w2.alloc (.cells #[.string x.key, .int .i64 x.t, .int .i64 x.i, .int .i64 x.q, .string x.o, .slice y2 x.len c2] 38)).ownsRow w.heap.size 38 6 (.slice va k vc) k (T.flatMap rowT) from World.ownsRow.alloc O2.out _)
      have NA := Lib.hid (news6_at w2 x y2 c2)
      have BA := Lib.hid (show w.heap.size ≤ (w2.alloc (.cells #[.string x.key, .int .i64 x.t, .int .i64 x.i, .int .i64 x.q, .string x.o, .slice y2 x.len c2] 38)).heap.size by rw [World.size_alloc]; omega)
      clear hb hr2 p0 p1 p2 p3 p4 p5 C O2
      go_wp2_with (at_builtin; refine wpList_append_new rfl _ _ 47 rfl (base := w.heap.size) und hi hz0 hz1 hz2 rfl (by decide) (.slice va k vc) k 1 1 ⟨w2.heap.size, 0, none⟩ (T.flatMap rowT) (sixC x y2 c2) rfl rfl OA.out rfl NA.out (sixC_one _ _ _) (by unfold maxLen; omega) (by omega) BA.out ?_)
      intro v6 w6 ho hg hq6
      obtain ⟨va6, c6, rfl⟩ := own_rowG ho
      have ko : Kept (fun b => (Value.slice va k vc).ownBlock = some b) w2 w6 := ((Kept.refl _ w2).alloc _).grown hg (fun q hq => .inl hq)
      have B6 := Lib.hid (B2.out.trans (ko.below (fun q hq => (OLt.out q hq).1) B2.out.size))
      have hs6 : w2.heap.size ≤ w6.heap.size := ko.size
      have KO := Lib.hid (show Kept (fun b => (Value.slice va k vc).ownBlock = some b) wr w6 from (KB.out.mono (fun _ h _ => h.elim)).trans ko (fun i hi _ => hi))
      have K2 := Lib.hid ko
      have HQ := Lib.hid (show ∀ q, (Value.slice va6 (k + 1) c6).ownBlock = some q → (Value.slice va k vc).ownBlock = some q ∨ w2.heap.size ≤ q from fun q hq => (hq6 q hq).imp id (fun h => by omega))
      have L6 := Lib.hid (show ∀ t ∈ T ++ [(x, y2, c2)], ∀ w3, Kept (fun b => (Value.slice va6 (k + 1) c6).ownBlock = some b) w6 w3 → ReadsA w3 t.2.1 t.1.len t.1.A from fun t ht w3 k3 => by
        rcases List.mem_append.1 ht with ht | ht
        · exact hL.out t ht w3 (KO.out.trans k3 (fun i hi hlt => (HQ.out i hi).elim id (fun h => by omega)))
        · rw [List.mem_singleton] at ht
          subst ht
          refine A2.out w3 (((K2.out.mono (T := fun b => w.heap.size ≤ b ∧ b < wr.heap.size) (fun b hb _ => OLt.out b hb)).trans k3 (fun i hi hlt => ?_)))
          rcases HQ.out i hi with h | h
          · exact OLt.out i h
          · omega)
      have O6 := Lib.hid (show w6.ownsRow w.heap.size 38 6 (.slice va6 (k + 1) c6) (k + 1) ((T ++ [(x, y2, c2)]).flatMap rowT) by rw [List.flatMap_append]; exact ho)
      have M6 := Lib.hid (show (T ++ [(x, y2, c2)]).map (·.1) = tkR R (k + 1) by rw [← NX.out, List.map_append, hM.out]; rfl)
      clear ho hg hq6 ko OA NA BA OLt A2 KB KO K2 HQ NX hM hO hL hB B2
      go_wp2_with fail
      go_roundw
      case rel => exact ⟨k + 1, va6, c6, T ++ [(x, y2, c2)], rfl, by go_num, by omega, by rw [List.length_append, hTl]; rfl, M6, O6, L6, B6⟩
      case measure => simp [intOf]; omega
    · obtain rfl : k = n := by omega
      have P := Lib.hid (show (∃ a c, Ending.returned (.slice va k vc) = .returned (.slice a k c) ∧ ReadsR wr a k R) ∧ Below w.heap.size w wr from by
        obtain ⟨a', c', hv, hr⟩ := rows_own (P := fun _ => True) hO.out hTl (by omega) (fun t ht => (ReadsAG.of (hL.out t ht wr (Kept.refl _ _))).mono (fun _ _ _ => trivial))
        exact ⟨⟨a', c', by rw [hv], hr.cong (map_tkR hM.out)⟩, hB.out⟩)
      go_wp2_with fail
      go_ret
      exact P.out

set_option maxRecDepth 100000 in
/-- Rows that came in, opened. -/
theorem rows_of {H : Type} {enc : TypeId × Value → H} {W : World} {base : Nat} {v : Value} {d : DataW H} {p : List MemPlace} (hv : Value.okWide Tryz.prog W .any base 43 v) (h : DataW.Trod enc Tryz.prog W 0 (fun _ => true) true 43 v d p) :
    ∃ (a : Option Addr) (n c : Nat) (R : Nat → RD), v = .slice a n c ∧ (∀ j, j < n → GoR (R j)) ∧ ReadsR W a n R := by
  obtain ⟨a0, len0, cap0, rfl⟩ := okWide_slice Tryz.underlying43 hv
  obtain ⟨fuel, hf⟩ := h
  rcases open_slice Tryz.underlying43 hf with ⟨hcs, _⟩ | ⟨x, l, c, m, n, D, Pl, hcs, _, hl, hm, hmm, _, hi⟩
  · simp [Value.cells] at hcs
    obtain ⟨rfl, rfl, rfl⟩ := hcs
    exact ⟨none, 0, 0, fun _ => zR, rfl, fun j hj => by omega, Nat.zero_le _, .inl rfl⟩
  · simp [Value.cells] at hcs
    obtain ⟨rfl, rfl, rfl⟩ := hcs
    simp only [if_true] at hmm
    subst hmm
    have hx : ∀ j, ∃ s : RD, GoR s ∧ (j < len0 → ∃ y cc, (∀ i u, ([.string s.key, .int .i64 s.t, .int .i64 s.i, .int .i64 s.q, .string s.o, .slice y s.len cc] : List Value)[i]? = some u → W.cell? (x.add (j * 6 + i)) = some u) ∧ ReadsA W y s.len s.A) := by
      intro j
      by_cases hj : j < len0
      · obtain ⟨cs', hc, ht⟩ := hi j (by omega)
        rw [rowCells] at hc
        obtain ⟨s, y, cc, rfl, hs, hr⟩ := row_cells ht
        obtain ⟨-, -, hat⟩ := World.cells?_some hc
        have e : ∀ i, (x.add (j * 6)).add i = x.add (j * 6 + i) := fun i => Go.Deep.add_add _ _ _
        refine ⟨s, hs, fun _ => ⟨y, cc, fun i u hu => ?_, hr⟩⟩
        have hi6 : i < 6 := (List.getElem?_eq_some_iff.1 hu).1
        have := hat i (by omega)
        rw [e i] at this
        rw [this]
        exact hu
      · exact ⟨zR, gr0, fun h => absurd h hj⟩
    have hS : ∃ S : Nat → RD, ∀ j, GoR (S j) ∧ (j < len0 → ∃ y cc, (∀ i u, ([.string (S j).key, .int .i64 (S j).t, .int .i64 (S j).i, .int .i64 (S j).q, .string (S j).o, .slice y (S j).len cc] : List Value)[i]? = some u → W.cell? (x.add (j * 6 + i)) = some u) ∧ ReadsA W y (S j).len (S j).A) := ⟨fun j => Classical.choose (hx j), fun j => Classical.choose_spec (hx j)⟩
    obtain ⟨S, hS⟩ := hS
    refine ⟨some x, len0, _, S, rfl, fun j _ => (hS j).1, Nat.le_trans hl hm, ?_⟩
    by_cases hz : len0 = 0
    · exact Or.inl hz
    · right
      obtain ⟨b, off, spot⟩ := x
      obtain ⟨y0, cc0, h0, _⟩ := (hS 0).2 (by omega)
      have h00 := h0 0 _ rfl
      have hspot : spot = none := by simpa [Addr.add] using World.cell?_spot h00
      subst hspot
      refine ⟨b, off, rfl, by have := World.block_lt_of_cell? W _ h00; simpa [Addr.add] using this, fun j hj => ?_⟩
      obtain ⟨y, cc, h6, hr⟩ := (hS j).2 hj
      refine ⟨y, cc, ⟨?_, ?_, ?_, ?_, ?_, ?_⟩, ReadsAG.of hr⟩
      · have := h6 0 _ rfl; rwa [Addr.add_lit] at this
      · have := h6 1 _ rfl; rwa [Addr.add_lit] at this
      · have := h6 2 _ rfl; rwa [Addr.add_lit] at this
      · have := h6 3 _ rfl; rwa [Addr.add_lit] at this
      · have := h6 4 _ rfl; rwa [Addr.add_lit] at this
      · have := h6 5 _ rfl; rwa [Addr.add_lit] at this

end Go.Proofs.YtfenfgbkphpboaaGreat

namespace Go.Proofs.YtfenfgbkphpboaaGreat
open Go.RowKit Go.ChangeShapes Go.WideShapes Go.Deep

set_option maxRecDepth 100000 in
set_option maxHeartbeats 8000000 in
theorem sameRows_any (a b : Option Addr) (n c c' : Nat) (R S : Nat → RD) (hR : ∀ j, j < n → (R j).len ≤ 1000) (hs : ∀ j, j < n → sameR (R j) (S j) = true) (w : World) (h1 : ReadsR w a n R) (h2 : ReadsR w b n S) :
    Calls Tryz.prog 18 #[.slice a n c, .slice b n c'] w fun e w' => e = .returned (.bool true) ∧ Below w.heap.size w w' := by
  have hm := h1.1
  unfold maxLen at hm
  have H1 := Lib.hid h1
  have H2 := Lib.hid h2
  have HL := Lib.hid hR
  have HS := Lib.hid hs
  clear h1 h2 hR hs
  go_enter Tryz.func18, Tryz.ntmps18
  go_wp2_with fail
  go_loopw [5] (fun i wr => ∃ k : Nat, i = .int .i64 k ∧ k ≤ n ∧ Hid (Below w.heap.size w wr)) (fun i _ => n - (intOf i).toNat)
  case atStart => exact ⟨0, rfl, Nat.zero_le _, Lib.hid (Below.refl _ _)⟩
  case round =>
    obtain ⟨k, rfl, hk, hB⟩ := hrel
    by_cases hlt : k < n
    · obtain ⟨b1, o1, y1, c1, hab1, -, p6, hy1⟩ := (H1.out.below hB.out).cells hlt
      obtain ⟨b2, o2, y2, c2, hab2, -, q6, hy2⟩ := (H2.out.below hB.out).cells hlt
      subst hab1
      subst hab2
      have hl := HL.out k hlt
      have hs := HS.out k hlt
      obtain ⟨x, hx⟩ : ∃ x, R k = x := ⟨_, rfl⟩
      obtain ⟨X, hX⟩ : ∃ x, S k = x := ⟨_, rfl⟩
      rw [hx] at p6 hy1 hl hs
      rw [hX] at q6 hy2 hs
      have R1 := Lib.hid hy1.plain
      have R2 := Lib.hid hy2.plain
      have SM := Lib.hid hs
      have HC := Lib.hid (p := ∀ w', Below wr.heap.size wr w' → (w'.cell? ⟨b1, o1 + k * 6, none⟩ = some (.string x.key) ∧ w'.cell? ⟨b1, o1 + k * 6 + 1, none⟩ = some (.int .i64 x.t) ∧ w'.cell? ⟨b1, o1 + k * 6 + 2, none⟩ = some (.int .i64 x.i) ∧ w'.cell? ⟨b1, o1 + k * 6 + 3, none⟩ = some (.int .i64 x.q) ∧ w'.cell? ⟨b1, o1 + k * 6 + 4, none⟩ = some (.string x.o) ∧ w'.cell? ⟨b1, o1 + k * 6 + 5, none⟩ = some (.slice y1 x.len c1)) ∧ w'.cell? ⟨b2, o2 + k * 6, none⟩ = some (.string X.key) ∧ w'.cell? ⟨b2, o2 + k * 6 + 1, none⟩ = some (.int .i64 X.t) ∧ w'.cell? ⟨b2, o2 + k * 6 + 2, none⟩ = some (.int .i64 X.i) ∧ w'.cell? ⟨b2, o2 + k * 6 + 3, none⟩ = some (.int .i64 X.q) ∧ w'.cell? ⟨b2, o2 + k * 6 + 4, none⟩ = some (.string X.o) ∧ w'.cell? ⟨b2, o2 + k * 6 + 5, none⟩ = some (.slice y2 X.len c2)) (fun w' hb => ⟨p6.keptS (keptNew hb) (fun h => h), q6.keptS (keptNew hb) (fun h => h)⟩)
      have HDR := Lib.hid (show Below wr.heap.size wr wr.drew from ⟨rfl, rfl, rfl, Nat.le_refl _, fun _ _ => rfl⟩)
      obtain ⟨⟨x0, x1, x2, x3, x4, x5⟩, z0, z1, z2, z3, z4, z5⟩ := HC.out wr (Below.refl _ _)
      clear p6 q6 hy1 hy2 hx hX hs
      go_upto_region 6 with fail
      go_region_held3 (fun w' => (w'.cell? ⟨b1, o1 + k * 6, none⟩ = some (.string x.key) ∧ w'.cell? ⟨b1, o1 + k * 6 + 1, none⟩ = some (.int .i64 x.t) ∧ w'.cell? ⟨b1, o1 + k * 6 + 2, none⟩ = some (.int .i64 x.i) ∧ w'.cell? ⟨b1, o1 + k * 6 + 3, none⟩ = some (.int .i64 x.q) ∧ w'.cell? ⟨b1, o1 + k * 6 + 4, none⟩ = some (.string x.o) ∧ w'.cell? ⟨b1, o1 + k * 6 + 5, none⟩ = some (.slice y1 x.len c1)) ∧ w'.cell? ⟨b2, o2 + k * 6, none⟩ = some (.string X.key) ∧ w'.cell? ⟨b2, o2 + k * 6 + 1, none⟩ = some (.int .i64 X.t) ∧ w'.cell? ⟨b2, o2 + k * 6 + 2, none⟩ = some (.int .i64 X.i) ∧ w'.cell? ⟨b2, o2 + k * 6 + 3, none⟩ = some (.int .i64 X.q) ∧ w'.cell? ⟨b2, o2 + k * 6 + 4, none⟩ = some (.string X.o) ∧ w'.cell? ⟨b2, o2 + k * 6 + 5, none⟩ = some (.slice y2 X.len c2)) (first | assumption | (refine ⟨⟨?_, ?_, ?_, ?_, ?_, ?_⟩, ?_, ?_, ?_, ?_, ?_, ?_⟩ <;> (first | assumption | (go_keep; done)))) (first
        | (go_at_call 10
           with_reducible refine (ofR_any x y1 c1 hl _ (R1.out.kept HDR.out)).mono ?_
           rintro e w7 ⟨⟨a7, c7, rfl, hr7⟩, hb⟩
           have B7 := Lib.hid (HDR.out.trans hb)
           have R7 := Lib.hid hr7
           have R27 := Lib.hid (R2.out.kept B7.out)
           have cc := HC.out _ B7.out
           clear hb hr7)
        | (go_at_call 12
           with_reducible refine (xSame_any x X a7 y2 c7 c2 (by omega) _ R7.out R27.out).mono ?_
           rintro e w9 ⟨rfl, hb⟩
           rw [SM.out]
           have B9 := Lib.hid (B7.out.trans (hb.mono B7.out.size))
           have cc := HC.out _ B9.out
           clear hb)
        | fail)
      have P := Lib.hid (hB.out.trans (B9.out.mono hB.out.size))
      go_wp2_with fail
      go_roundw
      case rel => exact ⟨k + 1, by go_num, by omega, P⟩
      case measure => simp [intOf]; omega
    · obtain rfl : k = n := by omega
      go_wp2_with fail
      go_ret
      exact ⟨rfl, hB.out⟩

end Go.Proofs.YtfenfgbkphpboaaGreat
