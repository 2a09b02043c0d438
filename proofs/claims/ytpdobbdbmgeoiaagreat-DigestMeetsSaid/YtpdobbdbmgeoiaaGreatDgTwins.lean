/-
  No statement: twins of package digest: rows whose attributes go into new memory.
-/
import Derived.Test.YtpdobbdbmgeoiaaGreatDgTw
set_option linter.unusedVariables false
set_option linter.unusedSimpArgs false
namespace Go.Proofs.YtpdobbdbmgeoiaaGreat
open Go.RowKit

/-- Behind k rows. -/
structure TwK (G : Nat → Prop) (w0 : World) (B : Nat) (v : Value) (T : List RTd) (k : Nat) (T1 : List RTd) (w : World) : Prop where
  own : w.ownsRow B 35 6 v T.length ((T1 ++ T.drop k).flatMap sixD)
  r1 : ∀ t ∈ T1, ReadsAG (fun q => w0.heap.size ≤ q) w t.2.1 t.1.len t.1.A
  r2 : ∀ t ∈ T.drop k, ReadsAG G w t.2.1 t.1.len t.1.A
  m : T1.map (·.1) = (T.take k).map (fun t => dtR t.1)
  kp : Kept (fun q => v.ownBlock = some q) w0 w

theorem set_six (T1 T2 : List RTd) (t : RTd) (k : Nat) (hk : T1.length = k) (u : Value) :
    ((T1 ++ t :: T2).flatMap sixD).set (k * 6 + 5) u = T1.flatMap sixD ++ ((sixD t).set 5 u ++ T2.flatMap sixD) := by
  have h6 : (T1.flatMap sixD).length = k * 6 := by rw [flat_len (m := 6) (fun t => rfl) T1, hk]
  rw [List.flatMap_append, List.flatMap_cons, List.set_append, h6, if_neg (by omega), show k * 6 + 5 - k * 6 = 5 by omega, List.set_append, if_pos (by show 5 < 6; omega)]

theorem TwK.step {G : Nat → Prop} {w0 w w2 : World} {B g l c : Nat} {T T1 : List RTd} {k : Nat} {t : RTd} {b : Option Addr} {d : Nat} (h : TwK G w0 B (.slice (some ⟨g, 0, none⟩) l c) T k T1 w) (hk : T1.length = k) (ht : T[k]? = some t)
    (hG : ∀ q, G q → q ≠ g) (hg0 : g < w0.heap.size) (hb : Below w.heap.size w w2) (hr : ReadsAG (fun q => w0.heap.size ≤ q) w2 b t.1.len (twF t.1.A)) :
    TwK G w0 B (.slice (some ⟨g, 0, none⟩) l c) T (k + 1) (T1 ++ [(dtR t.1, b, d)]) (w2.setCell ⟨g, k * 6 + 5, none⟩ (.slice b t.1.len d)) := by
  obtain ⟨hlt, hte⟩ := List.getElem?_eq_some_iff.1 ht
  have hd : T.drop k = t :: T.drop (k + 1) := by rw [List.drop_eq_getElem_cons hlt, hte]
  have hl : l = T.length := by
    rcases h.own.2 with ⟨h1, _⟩ | ⟨g', cap', cur, h1, _⟩
    · simp at h1
    · simp only [Value.slice.injEq] at h1; exact h1.2.1
  subst hl
  have hkg : Kept (fun q => q = g) w2 (w2.setCell ⟨g, k * 6 + 5, none⟩ (.slice b t.1.len d)) := Kept.setCell (S := fun q => q = g) (p := ⟨g, k * 6 + 5, none⟩) (Kept.refl _ _) (.inl rfl) _
  have hown := own_setD (owns_below h.own hb) (k * 6 + 5) (.slice b t.1.len d)
  rw [hd, set_six T1 (T.drop (k + 1)) t k hk] at hown
  have e : T1.flatMap sixD ++ ((sixD t).set 5 (.slice b t.1.len d) ++ (T.drop (k + 1)).flatMap sixD) = ((T1 ++ [(dtR t.1, b, d)]) ++ T.drop (k + 1)).flatMap sixD := by
    rw [List.flatMap_append, List.flatMap_append, List.append_assoc]
    simp only [List.flatMap_cons, List.flatMap_nil, List.append_nil]
    rfl
  rw [e] at hown
  refine ⟨hown, fun u hu => ?_, fun u hu => ?_, ?_, ?_⟩
  · rcases List.mem_append.1 hu with hu | hu
    · exact ((h.r1 u hu).kept (keptNew hb) (fun _ _ h => h)).kept hkg (fun q hq e => by subst e; omega)
    · rw [List.mem_singleton] at hu; subst hu
      exact hr.kept hkg (fun q hq e => by subst e; omega)
  · have hu' : u ∈ T.drop k := by rw [hd]; exact List.mem_cons_of_mem _ hu
    exact ((h.r2 u hu').kept (keptNew hb) (fun _ _ h => h)).kept hkg (fun q hq e => hG q hq e)
  · rw [List.map_append, h.m, List.take_add_one, ht]
    simp
  · exact Kept.setCell (p := ⟨g, k * 6 + 5, none⟩) (h.kp.trans (keptNew hb) (fun q h _ => h.elim)) (.inl rfl) _

set_option maxRecDepth 100000 in
set_option maxHeartbeats 4000000 in
theorem twins_any {G : Nat → Prop} (B : Nat) (a : Option Addr) (l c : Nat) (T : List RTd) (w : World) (h : OwnRG G w B (.slice a l c) T) (hG : ∀ k, G k → (Value.slice a l c).ownBlock ≠ some k) (hn : T.length ≤ 1000) (hl : ∀ t ∈ T, t.1.len ≤ 1000 ∧ ∀ j, j < t.1.len → (t.1.A j).len ≤ 1000000) :
    Calls Tryz.prog 59 #[.slice a l c] w fun e w' => ∃ T', e = .returned (.slice a l c) ∧ T'.map (·.1) = T.map (fun t => dtR t.1) ∧ OwnRG (fun k => w.heap.size ≤ k) w' B (.slice a l c) T' ∧ Kept (fun q => (Value.slice a l c).ownBlock = some q) w w' := by
  have hll : l = T.length := by
    rcases h.1.2 with ⟨h1, h2⟩ | ⟨g', cap', cur, h1, _⟩
    · simp only [Value.slice.injEq] at h1; omega
    · simp only [Value.slice.injEq] at h1; exact h1.2.1
  subst hll
  have K0 := Lib.hid (show TwK G w B (.slice a T.length c) T 0 [] w from ⟨by simpa using h.1, (fun t ht => by cases ht), by simpa using h.2, by simp, Kept.refl _ _⟩)
  have HG := Lib.hid hG
  have HL := Lib.hid hl
  have HOWN := Lib.hid h.1
  clear h hG hl
  go_enter Tryz.func59, Tryz.ntmps59
  go_wp2_with fail
  go_loopw [7] (fun i wr => ∃ (k : Nat) (T1 : List RTd), i = .int .i64 k ∧ k ≤ T.length ∧ T1.length = k ∧ Hid (TwK G w B (.slice a T.length c) T k T1 wr)) (fun i _ => T.length - (intOf i).toNat)
  case atStart => exact ⟨0, [], rfl, Nat.zero_le _, rfl, K0⟩
  case round =>
    obtain ⟨k, T1, rfl, hk, hTl, K1⟩ := hrel
    clear K0
    by_cases hlt : k < T.length
    · obtain ⟨g, rfl, hgl⟩ : ∃ g, a = some ⟨g, 0, none⟩ ∧ g < w.heap.size := by
        rcases HOWN.out.2 with ⟨h1, h2⟩ | ⟨g', cap', cur, h1, hb, hg, _⟩
        · omega
        · simp only [Value.slice.injEq] at h1
          exact ⟨g', h1.1, lt_of_block hg⟩
      have hG2 : ∀ q, G q → q ≠ g := fun q hq e => HG.out q hq (by subst e; rfl)
      have HG2 := Lib.hid hG2
      obtain ⟨t, ht⟩ : ∃ t, T[k]? = some t := ⟨_, List.getElem?_eq_getElem hlt⟩
      obtain ⟨hl1, hl2⟩ := HL.out t (List.mem_of_getElem? ht)
      have hdr : T.drop k = t :: T.drop (k + 1) := by rw [List.drop_eq_getElem_cons hlt]; rw [List.getElem?_eq_getElem hlt] at ht; cases ht; rfl
      have hown := K1.out.own
      rw [hdr] at hown
      have hc : ∀ i u, i < 6 → (sixD t)[i]? = some u → wr.cell? ⟨g, k * 6 + i, none⟩ = some u ∧ wr.frozen? ⟨g, k * 6 + i, none⟩ = false := fun i u hi hu => by
        have hat : ((T1 ++ t :: T.drop (k + 1)).flatMap sixD)[k * 6 + i]? = some u := by
          have := flat_at (f := sixD) (m := 6) (fun t => rfl) (T1 ++ t :: T.drop (k + 1)) (j := k) (i := i) (by simp; omega) hi
          rw [this]
          have e : (T1 ++ t :: T.drop (k + 1))[k]'(by simp; omega) = t := by
            rw [List.getElem_append_right (by omega)]; simp [hTl]
          rw [e]; exact hu
        rcases hown.2 with ⟨h1, _⟩ | ⟨g', cap', cur, h1, hb, hg, hn', hm, hs, htk⟩
        · simp at h1
        · simp only [Value.slice.injEq, Option.some.injEq, Addr.mk.injEq] at h1
          obtain ⟨⟨rfl, -⟩, -, rfl⟩ := h1
          exact ⟨owns_cell hg htk hat, frozen_of_row wr g (k * 6 + i) _ _ hg⟩
      have RA := Lib.hid (K1.out.r2 t (by rw [hdr]; exact List.mem_cons_self))
      have HT := Lib.hid ht
      obtain ⟨⟨x, y, cy⟩, hx⟩ : ∃ x, t = x := ⟨_, rfl⟩
      subst hx
      obtain ⟨d0, -⟩ := hc 0 _ (by omega) rfl
      obtain ⟨d1, -⟩ := hc 1 _ (by omega) rfl
      obtain ⟨d2, -⟩ := hc 2 _ (by omega) rfl
      obtain ⟨d3, -⟩ := hc 3 _ (by omega) rfl
      obtain ⟨d4, -⟩ := hc 4 _ (by omega) rfl
      obtain ⟨d5, f5⟩ := hc 5 _ (by omega) rfl
      have hzr := K1.out.kp.size
      have hl1' : x.len ≤ 1000 := hl1
      have HL2 := Lib.hid hl2
      have D5 := Lib.hid (And.intro d5 f5)
      have hgr : g < wr.heap.size := by omega
      clear hown hc ht hdr hl1 hl2 hG2 f5
      simp only [Nat.add_zero] at d0
      go_upto_region 4 with fail
      generalize hW : World.alloc wr _ = W
      have hWb : Below wr.heap.size wr W := by rw [← hW]; exact (Below.refl _ _).alloc (Nat.le_refl _) _
      have hW6 : W.heap[wr.heap.size]? = some (.cells #[.string x.key, .int .i64 x.t, .int .i64 x.i, .int .i64 x.q, .string x.o, .slice y x.len cy] 35 (0, 0)) := by rw [← hW]; exact heap_alloc_new wr _
      clear hW d0 d1 d2 d3 d4 d5
      have b5 : W.cell? ⟨wr.heap.size, 5, none⟩ = some (.slice y x.len cy) := by simp [World.cell?, hW6]
      have CA := Lib.hid (dTwA_any y x.len cy x.A hl1' HL2.out W ((RA.out.kept (keptNew hWb) (fun _ _ h => h)).plain))
      have HWB := Lib.hid hWb
      clear hW6 hWb
      go_wp2_with fail
      refine CA.out.mono ?_
      rintro e w3 ⟨⟨b, d, rfl, hr3, -, -⟩, hb3⟩
      have hb := HWB.out.trans (hb3.mono HWB.out.size)
      have hzW := HWB.out.size
      have K3 := Lib.hid (K1.out.step (b := b) (d := d) hTl HT.out HG2.out hgl hb (hr3.mono (fun q hq _ => by omega)))
      have d5 : w3.cell? ⟨g, k * 6 + 5, none⟩ = some (.slice y x.len cy) := (keptNew hb).cell D5.out.1 (fun h => h)
      have f5 : w3.frozen? ⟨g, k * 6 + 5, none⟩ = false := by
        have e := hb.block g hgr
        have := D5.out.2
        unfold World.frozen? at this ⊢
        simpa [e] using this
      clear hb hb3 hr3 CA b5 K1
      go_wp2_with fail
      go_roundw
      case rel => exact ⟨k + 1, T1 ++ [(dtR x, b, d)], by go_num, by omega, by rw [List.length_append, hTl]; rfl, K3⟩
      case measure => simp [intOf]; omega
    · obtain rfl : k = T.length := by omega
      have P : Hid (OwnRG (fun k => w.heap.size ≤ k) wr B (.slice a T.length c) T1 ∧ T1.map (·.1) = T.map (fun t => dtR t.1) ∧ Kept (fun q => (Value.slice a T.length c).ownBlock = some q) w wr) := Lib.hid ⟨⟨by
        have := K1.out.own
        rw [List.drop_length, List.append_nil] at this
        rw [hTl]; exact this, K1.out.r1⟩, by have := K1.out.m; rwa [List.take_length] at this, K1.out.kp⟩
      go_wp2_with fail
      go_ret
      exact ⟨T1, rfl, P.out.2.1, P.out.1, P.out.2.2⟩

end Go.Proofs.YtpdobbdbmgeoiaaGreat
