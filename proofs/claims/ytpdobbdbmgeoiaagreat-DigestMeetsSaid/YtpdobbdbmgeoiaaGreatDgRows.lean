/-
  No statement: the law's own OfRows: rows made anew.
-/
import Derived.Test.YtpdobbdbmgeoiaaGreatDgOf0
import Derived.Test.YtpdobbdbmgeoiaaGreatDgRef1
set_option linter.unusedVariables false
set_option linter.unusedSimpArgs false
namespace Go.Proofs.YtpdobbdbmgeoiaaGreat
open Go.RowKit

def sixC (x : RD) (y : Option Addr) (c : Nat) : List Value := [.string x.key, .int .i64 x.t, .int .i64 x.i, .int .i64 x.q, .string x.o, .slice y x.len c]
def rowT (t : RD × Option Addr × Nat) : List Value := sixC t.1 t.2.1 t.2.2
theorem rowInfo : (Tryz.prog.info? 44).map (fun i => (i.zero, i.size, i.bytes)) = some (some (.agg #[.string ⟨#[]⟩, .int .i64 0, .int .i64 0, .int .i64 0, .string ⟨#[]⟩, .slice none 0 0]), 6, 80) := by kernel_rfl
theorem sixC_one (x : RD) (y : Option Addr) (c : Nat) : ∀ u ∈ sixC x y c, u.oneCell' = true := by
  intro u hu
  simp only [sixC, List.mem_cons, List.not_mem_nil, or_false] at hu
  rcases hu with rfl | rfl | rfl | rfl | rfl | rfl <;> rfl
theorem news6_at (w : World) (x : RD) (y : Option Addr) (c : Nat) : ∀ j u, (sixC x y c)[j]? = some u → (w.alloc (.cells #[.string x.key, .int .i64 x.t, .int .i64 x.i, .int .i64 x.q, .string x.o, .slice y x.len c] 44)).cell? ((⟨w.heap.size, 0, none⟩ : Addr).add j) = some u := fun j u hj => by
  rw [Addr.add_lit, Nat.zero_add, cell_of_row _ _ _ _ _ (0, 0) (heap_alloc_new w _)]
  simpa [sixC] using hj

/-- The attributes of rows that are being gathered, in blocks that are P. -/
def LR (P : Nat → Prop) (w : World) (T : List (RD × Option Addr × Nat)) : Prop := ∀ t ∈ T, ReadsAG P w t.2.1 t.1.len t.1.A
theorem LR.kept {P S : Nat → Prop} {w w' : World} {T : List (RD × Option Addr × Nat)} (h : LR P w T) (hk : Kept S w w') (hS : ∀ b, P b → ¬ S b) : LR P w' T := fun t ht => (h t ht).kept hk hS
theorem LR.mono {P H : Nat → Prop} {w : World} {T : List (RD × Option Addr × Nat)} (h : LR P w T) (hP : ∀ b, P b → b < w.heap.size → H b) : LR H w T := fun t ht => (h t ht).mono hP

/-- What was gathered reads as rows. -/
theorem rows_own {w : World} {base : Nat} {e : TypeId} {v : Value} {n : Nat} {T : List (RD × Option Addr × Nat)} {P : Nat → Prop} (h : w.ownsRow base e 6 v n (T.flatMap rowT)) (hT : T.length = n) (hn : n ≤ 1000) (hr : LR P w T) : ∃ a c, v = .slice a n c ∧ ReadsR w a n (atD (T.map (·.1))) := by
  have h0 := h
  rcases h.2 with ⟨rfl, rfl⟩ | ⟨g, cap, cur, rfl, _, hg, hnc, hcm, _, ht⟩
  · exact ⟨none, 0, rfl, Nat.zero_le _, .inl rfl⟩
  · refine ⟨_, _, rfl, by unfold maxLen; omega, .inr ⟨g, 0, rfl, lt_of_block hg, fun j hj => ?_⟩⟩
    have hjT : j < T.length := by omega
    have e : atD (T.map (·.1)) j = T[j].1 := by
      unfold atD
      rw [List.getD_eq_getElem?_getD, List.getElem?_map, List.getElem?_eq_getElem hjT]
      rfl
    have hc : ∀ i u, i < 6 → (rowT T[j])[i]? = some u → w.cell? ⟨g, 0 + j * 6 + i, none⟩ = some u := fun i u hi hu => by
      rw [Nat.zero_add]
      obtain ⟨g', h1, h2⟩ := owns_at h0 (j := j * 6 + i) (u := u) (by rw [flat_at (m := 6) (fun t => rfl) T hjT hi]; exact hu)
      simp only [Addr.mk.injEq, and_true] at h1
      subst h1
      exact h2
    rw [e]
    exact ⟨T[j].2.1, T[j].2.2, ⟨hc 0 _ (by omega) rfl, hc 1 _ (by omega) rfl, hc 2 _ (by omega) rfl, hc 3 _ (by omega) rfl, hc 4 _ (by omega) rfl, hc 5 _ (by omega) rfl⟩, (hr _ (List.getElem_mem hjT)).mono (fun b _ hb => hb)⟩

theorem map_tkR {T : List (RD × Option Addr × Nat)} {R : Nat → RD} {n : Nat} (h : T.map (·.1) = tkR R n) : ∀ j, j < n → atD (T.map (·.1)) j = R j := fun j hj => by
  rw [h]
  unfold atD tkR
  rw [List.getD_eq_getElem?_getD]
  simp [hj]

theorem ReadsRG.cong {G : Nat → Prop} {w : World} {a : Option Addr} {n : Nat} {R S : Nat → RD} (h : ReadsRG G w a n R) (hs : ∀ j, j < n → R j = S j) : ReadsRG G w a n S := by
  refine ⟨h.1, h.2.imp id ?_⟩
  rintro ⟨b, off, rfl, hg, hc⟩
  exact ⟨b, off, rfl, hg, fun j hj => by rw [← hs j hj]; exact hc j hj⟩

set_option maxHeartbeats 8000000 in
set_option maxRecDepth 100000 in
theorem ofRows_any (a : Option Addr) (n c : Nat) (R : Nat → RD) (hL : ∀ j, j < n → (R j).len ≤ 1000) (hn : n ≤ 100) (w : World) (h : ReadsR w a n R) :
    Calls Tryz.prog 25 #[.slice a n c] w fun e w' => (∃ a c, e = .returned (.slice a n c) ∧ ReadsR w' a n R) ∧ Below w.heap.size w w' := by
  obtain ⟨i0, hi, hz0, hz1, hz2⟩ := info_parts rowInfo
  have und : Tryz.prog.underlying 28 = some (.slice 44) := Tryz.underlying28
  have H := Lib.hid h
  have HL := Lib.hid hL
  clear h hL
  go_enter Tryz.func25, Tryz.ntmps25
  go_wp2_with fail
  go_loopw [3, 4] (fun v i wr => ∃ (k : Nat) (va : Option Addr) (vc : Nat) (T : List (RD × Option Addr × Nat)), v = .slice va k vc ∧ i = .int .i64 k ∧ k ≤ n ∧ T.length = k ∧ Hid (T.map (·.1) = tkR R k) ∧ Hid (wr.ownsRow w.heap.size 44 6 (.slice va k vc) k (T.flatMap rowT)) ∧ Hid (∀ t ∈ T, ∀ w3, Kept (fun b => (Value.slice va k vc).ownBlock = some b) wr w3 → ReadsA w3 t.2.1 t.1.len t.1.A) ∧ Hid (Below w.heap.size w wr)) (fun _ i _ => n - (intOf i).toNat)
  case atStart => exact ⟨0, none, 0, [], rfl, rfl, Nat.zero_le _, rfl, Lib.hid rfl, Lib.hid (World.ownsRow_nil _ _ _ _), Lib.hid (fun t ht => by simp at ht), Lib.hid (Below.refl _ _)⟩
  case round =>
    obtain ⟨k, va, vc, T, rfl, rfl, hk, hTl, hM, hO, hL, hB⟩ := hrel
    by_cases hlt : k < n
    · obtain ⟨b, off, y, ce, hab, -, h6, hy⟩ := H.out.cells hlt
      subst hab
      have h6r := h6.keptS (keptNew hB.out) (fun h => h)
      have C := Lib.hid (ofR0_any (R k) y ce (HL.out k hlt) w wr hy.plain hB.out)
      have hnx : tkR R k ++ [R k] = tkR R (k + 1) := (tkR_succ R k).symm
      obtain ⟨x, hx⟩ : ∃ x, R k = x := ⟨_, rfl⟩
      rw [hx] at h6r C hnx
      have NX := Lib.hid hnx
      obtain ⟨p0, p1, p2, p3, p4, p5⟩ := h6r
      have hz := hB.out.size
      clear hx hnx hy h6
      go_wp2_with fail
      refine C.out.mono ?_
      rintro e w2 ⟨⟨y2, c2, rfl, hr2⟩, hb⟩
      have B2 := Lib.hid (hB.out.trans (hb.mono hz))
      have O2 := Lib.hid (owns_below hO.out hb)
      have hsz := hb.size
      have OLt := Lib.hid (fun q hq => hO.out.lt q hq)
      have A2 := Lib.hid hr2
      have KB := Lib.hid (keptNew hb)
      have OA := Lib.hid (show (w2.alloc (.cells #[.string x.key, .int .i64 x.t, .int .i64 x.i, .int .i64 x.q, .string x.o, .slice y2 x.len c2] 44)).ownsRow w.heap.size 44 6 (.slice va k vc) k (T.flatMap rowT) from World.ownsRow.alloc O2.out _)
      have NA := Lib.hid (news6_at w2 x y2 c2)
      have BA := Lib.hid (show w.heap.size ≤ (w2.alloc (.cells #[.string x.key, .int .i64 x.t, .int .i64 x.i, .int .i64 x.q, .string x.o, .slice y2 x.len c2] 44)).heap.size by rw [World.size_alloc]; omega)
      clear hb hr2 p0 p1 p2 p3 p4 p5 C O2
      go_wp2_with (at_builtin; refine wpList_append_new rfl _ _ 28 rfl (base := w.heap.size) und hi hz0 hz1 hz2 rfl (by decide) (.slice va k vc) k 1 1 ⟨w2.heap.size, 0, none⟩ (T.flatMap rowT) (sixC x y2 c2) rfl rfl OA.out rfl NA.out (sixC_one _ _ _) (by unfold maxLen; omega) (by omega) BA.out ?_)
      intro v6 w6 ho hg hq6
      obtain ⟨va6, c6, rfl⟩ := own_rowG ho
      have ko : Kept (fun b => (Value.slice va k vc).ownBlock = some b) w2 w6 := ((Kept.refl _ w2).alloc _).grown hg (fun q hq => .inl hq)
      have B6 := Lib.hid (B2.out.trans (ko.below (fun q hq => (OLt.out q hq).1) B2.out.size))
      have hs6 : w2.heap.size ≤ w6.heap.size := ko.size
      have KO := Lib.hid (show Kept (fun b => (Value.slice va k vc).ownBlock = some b) wr w6 from (KB.out.mono (fun _ h _ => h.elim)).trans ko (fun i hi _ => hi))
      have K2 := Lib.hid ko
      have HQ := Lib.hid (show ∀ q, (Value.slice va6 (k + 1) c6).ownBlock = some q → (Value.slice va k vc).ownBlock = some q ∨ w2.heap.size ≤ q from fun q hq => (hq6 q hq).imp id (fun h => by omega))
      have L6 := Lib.hid (show ∀ t ∈ T ++ [(x, y2, c2)], ∀ w3, Kept (fun b => (Value.slice va6 (k + 1) c6).ownBlock = some b) w6 w3 → ReadsA w3 t.2.1 t.1.len t.1.A from fun t ht w3 k3 => by
        rcases List.mem_append.1 ht with ht | ht
        · exact hL.out t ht w3 (KO.out.trans k3 (fun i hi hlt => (HQ.out i hi).elim id (fun h => by omega)))
        · rw [List.mem_singleton] at ht
          subst ht
          refine A2.out w3 (((K2.out.mono (T := fun b => w.heap.size ≤ b ∧ b < wr.heap.size) (fun b hb _ => OLt.out b hb)).trans k3 (fun i hi hlt => ?_)))
          rcases HQ.out i hi with h | h
          · exact OLt.out i h
          · omega)
      have O6 := Lib.hid (show w6.ownsRow w.heap.size 44 6 (.slice va6 (k + 1) c6) (k + 1) ((T ++ [(x, y2, c2)]).flatMap rowT) by rw [List.flatMap_append]; exact ho)
      have M6 := Lib.hid (show (T ++ [(x, y2, c2)]).map (·.1) = tkR R (k + 1) by rw [← NX.out, List.map_append, hM.out]; rfl)
      clear ho hg hq6 ko OA NA BA OLt A2 KB KO K2 HQ NX hM hO hL hB B2
      go_wp2_with fail
      go_roundw
      case rel => exact ⟨k + 1, va6, c6, T ++ [(x, y2, c2)], rfl, by go_num, by omega, by rw [List.length_append, hTl]; rfl, M6, O6, L6, B6⟩
      case measure => simp [intOf]; omega
    · obtain rfl : k = n := by omega
      have P := Lib.hid (show (∃ a c, Ending.returned (.slice va k vc) = .returned (.slice a k c) ∧ ReadsR wr a k R) ∧ Below w.heap.size w wr from by
        obtain ⟨a', c', hv, hr⟩ := rows_own (P := fun _ => True) hO.out hTl (by omega) (fun t ht => (ReadsAG.of (hL.out t ht wr (Kept.refl _ _))).mono (fun _ _ _ => trivial))
        exact ⟨⟨a', c', by rw [hv], hr.cong (map_tkR hM.out)⟩, hB.out⟩)
      go_wp2_with fail
      go_ret
      exact P.out


end Go.Proofs.YtpdobbdbmgeoiaaGreat
