/-
  No statement: Attrs of package table.
-/
import Derived.Test.YtikifgenfpkidaaTbRows
namespace Go.Proofs.Ytikifgenfpkidaa
open Go.RowKit

/-- Attributes' places. -/
abbrev ST := RD × Option Addr × Nat
def oneCT (t : ST) : List Value := [.slice t.2.1 t.1.len t.2.2]

/-- A row of rows of attributes that is owned. -/
def OwnSA (w : World) (B : Nat) (v : Value) (T : List ST) : Prop :=
  w.ownsRow B 37 1 v T.length (T.flatMap oneCT) ∧ ∀ t ∈ T, ReadsAG (fun b => B ≤ b ∧ v.ownBlock ≠ some b) w t.2.1 t.1.len t.1.A

theorem OwnSA.below {w w' : World} {B : Nat} {v : Value} {T : List ST} (h : OwnSA w B v T) (hb : Below w.heap.size w w') : OwnSA w' B v T :=
  ⟨owns_below h.1 hb, fun t ht => ((h.2 t ht).kept (keptNew hb) (fun _ _ h => h))⟩

/-- A [][]Attr reads as rows' attributes. -/
def ReadsSG (G : Nat → Prop) (w : World) (a : Option Addr) (len : Nat) (R : Nat → RD) : Prop :=
  len = 0 ∨ ∃ b off, a = some ⟨b, off, none⟩ ∧ G b ∧ ∀ j, j < len → ∃ y c, w.cell? ⟨b, off + j, none⟩ = some (.slice y (R j).len c) ∧ ReadsAG G w y (R j).len (R j).A

theorem OwnSA.reads {w : World} {B : Nat} {a : Option Addr} {l c : Nat} {T : List ST} {R : Nat → RD} (h : OwnSA w B (.slice a l c) T) (hT : ∀ j x, T[j]? = some x → x.1 = R j) : l = T.length ∧ ReadsSG (fun b => B ≤ b) w a T.length R := by
  obtain ⟨h1, h2⟩ := h
  rcases h1.2 with ⟨hv, h0⟩ | ⟨g, cap, cur, hv, hb, hg, hnc, hm, hs, ht⟩
  · simp only [Value.slice.injEq] at hv
    obtain ⟨rfl, rfl, rfl⟩ := hv
    rw [h0]
    exact ⟨rfl, .inl rfl⟩
  · simp only [Value.slice.injEq] at hv
    obtain ⟨rfl, rfl, hcc⟩ := hv
    refine ⟨rfl, .inr ⟨g, 0, rfl, hb, fun j hj => ?_⟩⟩
    have e : R j = T[j].1 := (hT j _ (List.getElem?_eq_getElem hj)).symm
    obtain ⟨g', e1, e2⟩ := owns_at (w := w) (base := B) (e := 37) (size := 1) (a := ⟨g, 0, none⟩) (n := T.length) (c := cap) (xs := T.flatMap oneCT) ⟨h1.1, .inr ⟨g, cap, cur, rfl, hb, hg, hnc, hm, hs, ht⟩⟩ (j := j * 1 + 0) (u := .slice T[j].2.1 T[j].1.len T[j].2.2) (by rw [flat_at (m := 1) (fun t => rfl) T hj (by omega)]; rfl)
    cases e1
    rw [e]
    exact ⟨T[j].2.1, T[j].2.2, by rw [show 0 + j = j * 1 + 0 by omega]; exact e2, (h2 _ (List.getElem_mem hj)).mono (fun b hb _ => hb.1)⟩

theorem OwnSA.more {w w' : World} {B : Nat} {v v' : Value} {T : List ST} {t : ST} (h : OwnSA w B v T) (hr : ReadsAG (fun b => B ≤ b ∧ v.ownBlock ≠ some b) w t.2.1 t.1.len t.1.A)
    (ho : w'.ownsRow B 37 1 v' (T.length + 1) (T.flatMap oneCT ++ oneCT t)) (hg : w.grownBy w' v.ownBlock) (hq : ∀ q, v'.ownBlock = some q → v.ownBlock = some q ∨ w.heap.size ≤ q) : OwnSA w' B v' (T ++ [t]) := by
  refine ⟨by rw [List.length_append, List.flatMap_append]; simpa using ho, fun u hu => ?_⟩
  have hk : Kept (fun b => v.ownBlock = some b) w w' := (Kept.refl _ w).grown hg (fun k hk => .inl hk)
  have hu' : ReadsAG (fun b => B ≤ b ∧ v.ownBlock ≠ some b) w u.2.1 u.1.len u.1.A := by
    rcases List.mem_append.1 hu with hu | hu
    · exact h.2 u hu
    · rw [List.mem_singleton] at hu; subst hu; exact hr
  exact ((hu'.mono (H := fun b => (B ≤ b ∧ v'.ownBlock ≠ some b) ∧ v.ownBlock ≠ some b) (fun b hb hl => ⟨⟨hb.1, fun e => by rcases hq b e with h | h; exact hb.2 h; omega⟩, hb.2⟩)).kept hk (fun b hb => hb.2)).mono (fun b hb _ => hb.1)

theorem infoSA : (Try.prog.info? 37).map (fun i => (i.zero, i.size, i.bytes)) = some (some (.slice none 0 0), 1, 24) := by kernel_rfl

theorem field_as (k : ByteArray) (t i q : Int) (o : ByteArray) (a : Option Addr) (n c : Nat) (w : World) : (Instr.field 39 (.agg #[.string k, .int .i64 t, .int .i64 i, .int .i64 q, .string o, .slice a n c]) 2).run Try.prog w = .ok (.slice a n c) w := by
  simp [Instr.field, go_sem, asAgg]

/-- What Attrs answers. -/
def AttrsPost (w : World) (L : List RD) (e : Ending) (w' : World) : Prop :=
  (∃ a c, e = .returned (.slice a L.length c) ∧ ReadsSG (fun k => w.heap.size ≤ k) w' a L.length (atL L)) ∧ Below w.heap.size w w'

set_option maxRecDepth 100000 in
set_option maxHeartbeats 4000000 in
theorem attrs_any (w : World) (p : Nat) (most : Int) (F X : Nat → Prop) (L : List RD) (hn : L.length ≤ 1000) (hF : Fix L) (h : Tab w p most F X L) :
    Calls Try.prog 24 #[.pointer (some ⟨p, 0, none⟩)] w (AttrsPost w L) := by
  obtain ⟨i0, hi, hz0, hz1, hz2⟩ := info_parts infoSA
  have und : Try.prog.underlying 59 = some (.slice 37) := Try.underlying59
  have LN := Lib.hid (p := ∀ w', Below w.heap.size w w' → Calls Try.prog 23 #[.pointer (some ⟨p, 0, none⟩)] w' fun e w'' => e = .returned (.int .i64 (L.length : Nat)) ∧ w' = w'') (fun w' hb => tabLen w' p most F X L (h.below hb))
  have AT := Lib.hid (p := ∀ (i : Nat) (x : RD), L[i]? = some x → ∃ a c, RowAt w (fun k => F k ∨ X k) x a ∧ ∀ w', Below w.heap.size w w' → Calls Try.prog 42 #[.pointer (some ⟨p, 0, none⟩), .int .i64 i] w' fun e w'' => e = .returned (rowV x a c) ∧ Below w'.heap.size w' w'') (fun i x hx => tabAt w p most F X L i x (by omega) h hx)
  have HF := Lib.hid hF
  clear h hF
  go_enter Try.func24, Try.ntmps24
  go_wp2_with fail
  refine (LN.out w (Below.refl _ _)).mono ?_
  rintro e w1 ⟨rfl, rfl⟩
  go_wp2_with (at_make; refine wpList_make_own _ rfl _ _ 59 rfl w.heap.size 37 i0 _ 1 und hi hz0 hz1 .i64 .i64 _ L.length rfl rfl rfl (by rw [hz2]; omega) (by unfold maxLen; omega) (Nat.le_refl _) ?_)
  intro w2 ho hg
  have O2 : Hid (OwnSA w2 w.heap.size _ []) := Lib.hid ⟨ho, fun t ht => by cases ht⟩
  have B2 := Lib.hid (p := Below w.heap.size w w2) ((Below.refl _ _).grown hg (Nat.le_refl _) (fun k h => by cases h))
  clear ho hg
  go_wp2_with fail
  refine (LN.out w2 B2.out).mono ?_
  rintro e w1 ⟨rfl, rfl⟩
  go_wp2_with fail
  go_loopw [3, 10] (fun v i wr => ∃ (k : Nat) (T : List ST) (va : Option Addr) (vl vc : Nat), v = .slice va vl vc ∧ i = .int .i64 k ∧ k ≤ L.length ∧ T.length = k ∧ Hid (∀ j x, T[j]? = some x → x.1 = atL L j) ∧ Hid (OwnSA wr w.heap.size (.slice va vl vc) T) ∧ Hid (Below w.heap.size w wr)) (fun _ i _ => L.length - (intOf i).toNat)
  case atStart => exact ⟨0, [], _, _, _, rfl, rfl, Nat.zero_le _, rfl, Lib.hid (fun j x h => by simp at h), O2, B2⟩
  case round =>
    obtain ⟨k, T, va, vl, vc, rfl, rfl, hk, hTl, hM, hO, hB⟩ := hrel
    clear O2 B2
    by_cases hlt : k < L.length
    · obtain ⟨x, hx⟩ : ∃ x, L[k]? = some x := ⟨_, List.getElem?_eq_getElem hlt⟩
      obtain ⟨ax, cx, hra, CX'⟩ := AT.out k x hx
      have CX := Lib.hid CX'
      obtain ⟨hfx, htx⟩ := HF.out x (List.mem_of_getElem? hx)
      have TW := Lib.hid (p := ∀ w', Below w.heap.size w w' → Calls Try.prog 48 #[.slice ax x.len cx] w' fun e w'' => (∃ b d, e = .returned (.slice b x.len d) ∧ ReadsAG (fun k => w'.heap.size ≤ k) w'' b x.len x.A) ∧ Below w'.heap.size w' w'') (fun w' hb => (twinAttrs_any ax x.len cx x.A hfx.1 hfx.2.1 hfx.2.2 w' (hra.below hb).plain).mono (fun e w'' ⟨⟨b, d, h1, h2, _⟩, h3⟩ => by
        have : twF x.A = x.A := congrArg RD.A htx
        rw [this] at h2
        exact ⟨⟨b, d, h1, h2⟩, h3⟩))
      have HX := Lib.hid (show x = atL L k from (atL_some hx).symm)
      have HVL := Lib.hid (p := ∀ q, (Value.slice va vl vc).ownBlock = some q → q < wr.heap.size) (fun q hq => (hO.out.1.lt q hq).2)
      have hzr := hB.out.size
      clear CX' hra hfx htx hx
      go_wp2_with fail
      refine (CX.out wr hB.out).mono ?_
      rintro e w3 ⟨rfl, hb3⟩
      unfold rowV
      have B3 := Lib.hid (hB.out.trans (hb3.mono hzr))
      have O3 := Lib.hid (hO.out.below hb3)
      have hz3 := hb3.size
      clear hb3 hO hB
      have fa := field_as x.key x.t x.i x.q x.o ax x.len cx w3
      go_wp2_with fail
      clear fa
      refine (TW.out w3 B3.out).mono ?_
      rintro e w4 ⟨⟨b, d, rfl, hr4⟩, hb4⟩
      have B4 := Lib.hid (B3.out.trans (hb4.mono (by omega)))
      have O4 := Lib.hid (O3.out.below hb4)
      have R4 := Lib.hid hr4
      have hz4 := hb4.size
      clear hb4 hr4 B3 O3 CX TW
      have OE := Lib.hid (O4.out.below ((Below.refl _ w4).alloc (Nat.le_refl _) (.cells #[.slice b x.len d] 37)))
      have BE := Lib.hid (B4.out.alloc (by have := B4.out.size; omega) (.cells #[.slice b x.len d] 37))
      have RE := Lib.hid (p := ReadsAG (fun q => w.heap.size ≤ q ∧ (Value.slice va vl vc).ownBlock ≠ some q) (w4.alloc (.cells #[.slice b x.len d] 37)) b x.len x.A)
        ((R4.out.kept (keptNew ((Below.refl _ w4).alloc (Nat.le_refl _) _)) (fun _ _ h => h)).mono (fun q hq _ => ⟨by omega, fun e => by have := HVL.out q e; omega⟩))
      have NEW := Lib.hid (p := ∀ j u, ([Value.slice b x.len d] : List Value)[j]? = some u → (w4.alloc (.cells #[.slice b x.len d] 37)).cell? ((⟨w4.heap.size, 0, none⟩ : Addr).add j) = some u) (fun j u hj => by
          rw [Addr.add_lit, Nat.zero_add, cell_of_row _ _ _ _ _ (0, 0) (heap_alloc_new w4 _)]
          simpa using hj)
      go_wp2_with (at_builtin; refine wpList_append_new rfl _ _ 59 rfl (base := w.heap.size) und hi hz0 hz1 hz2 rfl (by decide) (.slice va vl vc) k 1 1 ⟨w4.heap.size, 0, none⟩ (T.flatMap oneCT) [.slice b x.len d] rfl rfl (hTl ▸ OE.out.1) rfl NEW.out (fun u hu => by rw [List.mem_singleton.1 hu]; rfl) (by unfold maxLen; omega) (by omega) (by have := BE.out.size; omega) ?_)
      intro v5 w5 hown5 hgrow5 hq5
      obtain ⟨va', vc', rfl⟩ := own_rowG hown5
      have O5 : Hid (OwnSA w5 w.heap.size (.slice va' (k + 1) vc') (T ++ [(x, b, d)])) := Lib.hid (by subst hTl; exact OE.out.more (t := (x, b, d)) RE.out hown5 hgrow5 (fun q hq => by rw [World.size_alloc]; exact hq5 q hq))
      have B5 := Lib.hid (BE.out.grown hgrow5 (by have := BE.out.size; omega) (fun q hq => (OE.out.1.lt q hq).1))
      have M5 := Lib.hid (show ∀ j y, (T ++ [(x, b, d)])[j]? = some y → y.1 = atL L j from fun j y hy => by
        rcases Nat.lt_or_ge j T.length with h | h
        · rw [List.getElem?_append_left h] at hy; exact hM.out j y hy
        · rw [List.getElem?_append_right h] at hy
          have : j - T.length = 0 := by
            rcases Nat.eq_zero_or_pos (j - T.length) with h' | h'
            · exact h'
            · rw [List.getElem?_eq_none (by simp; omega)] at hy; cases hy
          rw [this] at hy
          cases hy
          have : j = k := by omega
          rw [this]; exact HX.out)
      clear hown5 hgrow5 hq5 OE BE RE NEW R4 O4 B4 HX HVL hM
      go_wp2_with fail
      go_roundw
      case rel => exact ⟨k + 1, T ++ [(x, b, d)], va', k + 1, vc', rfl, by go_num, by omega, by rw [List.length_append, hTl]; rfl, M5, O5, B5⟩
      case measure => simp [intOf]; omega
    · have P : Hid (∃ a c, Ending.returned (.slice va vl vc) = .returned (.slice a L.length c) ∧ ReadsSG (fun q => w.heap.size ≤ q) wr a L.length (atL L)) := Lib.hid (by
        obtain ⟨h1, h2⟩ := hO.out.reads (R := atL L) hM.out
        have hl : T.length = L.length := by omega
        rw [hl] at h1 h2
        exact ⟨va, vc, by rw [h1], h2⟩)
      have hkl : k = L.length := by omega
      clear hM hO
      go_wp2_with fail
      go_ret
      exact ⟨P.out, hB.out⟩

end Go.Proofs.Ytikifgenfpkidaa
